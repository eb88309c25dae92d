/- What the program writes of a version, as the model writes it: joined words, or one behind the other. No condition. -/
import Derived.Test.YtoechhbjfejmjaaDoorVerPut
import Derived.Test.YtoechhbjfejmjaaDoorTagPutI
import Derived.Lib.Join
namespace Go.Proofs.YtoechhbjfejmjaaDoor
open Go.RowKit Go.Joins

/-- The rest of a version as it is written. -/
def restS (s : ByteArray) (g : Bool) : ByteArray := if g = true then ⟨#[45]⟩ else ⟨#[61]⟩ ++ s
/-- The words of causes, and the rest. -/
def wordsP (ts : List (Int × Int)) : List ByteArray := ts.map fun x => tagP x.1 x.2
def bodyS (ts : List (Int × Int)) (r : ByteArray) : ByteArray := ⟨(Lib.join ((wordsP ts ++ [r]).map (·.data.toList)) [32]).toArray⟩
theorem sep_join (sep : List UInt8) : ∀ xs : List (List UInt8), xs ≠ [] → sep ++ Lib.join xs sep = (xs.map (sep ++ ·)).flatten
  | [], h => absurd rfl h
  | x :: r, _ => by rw [Lib.join_cons]; unfold Lib.joinTail; simp
theorem pastS_fold (ts : List (Int × Int)) : ∀ acc : ByteArray, (ts.foldl (fun s x => s ++ ⟨#[32]⟩ ++ tagS x.1.toNat x.2.toNat) acc).data.toList = acc.data.toList ++ (ts.map fun x => [32] ++ (tagS x.1.toNat x.2.toNat).data.toList).flatten := by
  induction ts with
  | nil => intro acc; simp
  | cons x r ih =>
    intro acc
    rw [List.foldl_cons, ih]
    simp [ByteArray.data_append]
theorem pastS_list (ts : List (Int × Int)) : (pastS ts).data.toList = (ts.map fun x => [32] ++ (tagS x.1.toNat x.2.toNat).data.toList).flatten := by
  unfold pastS
  rw [pastS_fold]
  simp
theorem bodyS_list (ts : List (Int × Int)) (r : ByteArray) (h : ∀ x ∈ ts, okB x.1 x.2 = true) : ([32] : List UInt8) ++ (bodyS ts r).data.toList = (pastS ts).data.toList ++ [32] ++ r.data.toList := by
  unfold bodyS
  rw [show (ByteArray.mk (Lib.join ((wordsP ts ++ [r]).map (·.data.toList)) [32]).toArray).data.toList = Lib.join ((wordsP ts ++ [r]).map (·.data.toList)) [32] by simp, sep_join _ _ (by simp), pastS_list]
  have e : (wordsP ts).map (·.data.toList) = ts.map fun x => (tagS x.1.toNat x.2.toNat).data.toList := by
    unfold wordsP
    rw [List.map_map]
    exact List.map_congr_left fun x hx => by
      show (tagP x.1 x.2).data.toList = _
      rw [tagP_yes (h x hx)]
  rw [List.map_append, e, List.map_append, List.flatten_append, List.map_map]
  simp [Function.comp_def]
end Go.Proofs.YtoechhbjfejmjaaDoor
