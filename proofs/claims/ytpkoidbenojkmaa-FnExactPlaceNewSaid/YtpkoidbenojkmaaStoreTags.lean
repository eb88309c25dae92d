/- Contracts of the functions that gather a store's tags, in the program and in the model. Condition: a valid store. -/
import Derived.Test.YtpkoidbenojkmaaStoreOk
import Derived.Test.YtpkoidbenojkmaaPastJoin2
import Derived.Deep.AppendLies
namespace Go.Proofs.Ytpkoidbenojkmaa
open Go.RowKit Go.Joins
attribute [local go_sem ↓] Go.wp_at_zero Go.wp_at_succ

/-- The tags of these versions. -/
def tagsL (vs : List V) : List (Int × Int) := vs.map fun v => (v.t, v.u)
theorem tagsL_at {vs : List V} {k : Nat} {v : V} (h : vs[k]? = some v) : (tagsL vs)[k]? = some (v.t, v.u) := by unfold tagsL; rw [List.getElem?_map, h]; rfl
theorem tagsL_len (vs : List V) : (tagsL vs).length = vs.length := by unfold tagsL; simp
theorem storeB_four {vs : List V} (h : storeB vs = true) : vs.length = 4 := by
  apply Classical.byContradiction
  intro hn
  rw [storeB_len hn] at h
  cases h

/-- What the round of gathering tags holds. -/
theorem theld {w w' : World} {n b off k c : Nat} {v : V} {T : TypeId} {q : Nat × TypeId × Array Value} (Q : Hid (Six w b (off + k * 6) v)) (hb : b < w.heap.size)
    (h : Inv w n [q, (w.heap.size, T, #[.slice (some ⟨b, off, none⟩) 4 c])] w') :
    w'.cell? ⟨b, off + k * 6 + 1, none⟩ = some (.int .i64 v.t) ∧ w'.cell? ⟨b, off + k * 6 + 2, none⟩ = some (.int .i64 v.u) ∧ w'.cell? ⟨w.heap.size, 0, none⟩ = some (.slice (some ⟨b, off, none⟩) 4 c) ∧ Inv w n [q, (w.heap.size, T, #[.slice (some ⟨b, off, none⟩) 4 c])] w' :=
  ⟨(h.below.cell (p := ⟨b, off + k * 6 + 1, none⟩) hb).trans Q.out.2.1, (h.below.cell (p := ⟨b, off + k * 6 + 2, none⟩) hb).trans Q.out.2.2.1, (h.nth 1 rfl).at 0, h⟩
end Go.Proofs.Ytpkoidbenojkmaa
