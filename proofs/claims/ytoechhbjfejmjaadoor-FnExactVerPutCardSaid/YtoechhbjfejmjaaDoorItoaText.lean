/- The library's decimals are the model's; contract of strconv.Itoa. Condition: a number that is not negative; the table of powers reads as it is laid. -/
import Derived.Test.YtoechhbjfejmjaaDoorDec
import Derived.Test.YtoechhbjfejmjaaDoorItoaLay
import Derived.Lib.LaidTab
import Derived.LaidMore
namespace Go.Proofs.YtoechhbjfejmjaaDoor
open Go.RowKit Go.Joins

theorem decS_list (n : Nat) : decS n = ⟨(Lib.decDigits n).toArray⟩ := by
  induction n using Nat.strongRecOn with
  | ind n ih =>
    by_cases h : n < 10
    · rw [decS_low h, Lib.decDigits, dif_pos h]
      rfl
    · rw [decS_high h, Lib.decDigits, dif_neg h, ih (n / 10) (by omega)]
      apply ByteArray.ext
      simp [figS, ByteArray.data_append]
/-- A table that is laid reads so behind whatever makes new memory. -/
theorem tab_on {w w' : World} {name : String} {k : IntKind} {zs : List Int} (h : Lib.TabIs Tryd.prog w name k zs) (hb : Below w.heap.size w w') : Lib.TabIs Tryd.prog w' name k zs := by
  unfold Lib.TabIs World.var? at *
  cases hg : Program.globalNamed Tryd.prog name with
  | none => simp [hg] at h
  | some g =>
    simp only [hg, Option.bind_some] at h ⊢
    have hlt : g < w.heap.size := by
      rcases Nat.lt_or_ge g w.heap.size with h' | h'
      · exact h'
      · rw [Array.getElem?_eq_none h'] at h; simp at h
    rw [hb.block g hlt]
    exact h
/-- The table of powers of ten. -/
def PowTab (w : World) : Prop := Lib.TabIs Tryd.prog w "internal/strconv.uint64pow10" .u64 Lib.pow10Tab
theorem PowTab.on {w w' : World} (h : PowTab w) (hb : Below w.heap.size w w') : PowTab w' := tab_on h hb
theorem grow_below (w : World) (k : Nat) (os : Array Obj) : Below w.heap.size w (Go.Sort.grow (w.drewN k) os) := by
  refine ⟨rfl, rfl, rfl, by simp [Go.Sort.grow], fun j hj => ?_⟩
  show (w.heap ++ os)[j]? = _
  rw [Array.getElem?_append_left hj]
theorem itoa_any (n : Nat) (hn : n ≤ 1000000) (w : World) (hT : PowTab w) : Calls Tryd.prog 20 #[.int .i64 (n : Int)] w fun e w' => e = .returned (.string (decS n)) ∧ Below w.heap.size w w' :=
  (Go.Proofs.Any.strconv_Itoa itoaL (n : Int) (by omega) (by omega) w hT).mono fun e w' ⟨he, k, os, hw⟩ => ⟨by
    rw [he, decS_list]
    unfold Lib.itoa
    rw [if_neg (by omega), Int.toNat_natCast], by rw [hw]; exact grow_below w k os⟩
end Go.Proofs.YtoechhbjfejmjaaDoor
