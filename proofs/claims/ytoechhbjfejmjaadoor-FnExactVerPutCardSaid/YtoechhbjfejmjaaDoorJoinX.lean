/- strings.Join over this program, with a space. Condition: the words lie in memory, and the sum is short. -/
import Derived.Test.YtoechhbjfejmjaaDoorJoinLay
import Derived.Test.YtoechhbjfejmjaaDoorWorld
import Derived.Shelf.Strings.OnBuilder
namespace Go.Proofs.YtoechhbjfejmjaaDoor
open Go.RowKit Go.Joins

theorem joinX : Go.Proofs.Builder.Extra Tryd.prog joinL_ren := {
  sizeBuilder := by kernel_rfl
  liesBuilder := by kernel_rfl
  t5 := Tryd.underlying5
  a5 := Tryd.isAgg5
  z5 := Tryd.sizeOf5
  v5 := Tryd.zeroValue5
  infoByte := by kernel_rfl
  cellsByte := by kernel_rfl
  sizeByte := by kernel_rfl
  neB5 := by decide }
theorem join_any (bk o c : Nat) (xs : List ByteArray) (w : World) (hcells : ∀ (j : Nat) x, xs[j]? = some x → w.cell? ⟨bk, o + j, none⟩ = some (.string x)) (hbk : bk < w.heap.size) (hN : xs.length ≤ 140737488355328) (hcap : xs.length ≤ c)
    (hlen : (Lib.join (xs.map (·.data.toList)) [32]).length ≤ 140737488355328) :
    Calls Tryd.prog 48 #[.slice (some ⟨bk, o, none⟩) xs.length c, .string ⟨#[32]⟩] w fun e w' => e = .returned (.string ⟨(Lib.join (xs.map (·.data.toList)) [32]).toArray⟩) ∧ Below w.heap.size w w' :=
  Go.Proofs.Any.strings_Join joinL joinX bk o c xs ⟨#[32]⟩ w hcells hbk hN hcap hlen
end Go.Proofs.YtoechhbjfejmjaaDoor
