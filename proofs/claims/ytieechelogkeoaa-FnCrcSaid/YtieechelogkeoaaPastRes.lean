/- Vectors that a call answers: nothing, or tags in a row of its own; how such an answer is marked and compared. Condition: at most 1048576 tags. -/
import Derived.Test.YtieechelogkeoaaPastJoin2
namespace Go.Proofs.Ytieechelogkeoaa
open Go.RowKit Go.Joins

/-- A slice that reads as these tags: none at all, or in a block of its own from B on and below U. -/
def Res (w : World) (B U : Nat) (A : Option Addr) (rs : List (Int × Int)) : Prop :=
  (A = none ∧ rs = []) ∨ ∃ (g : Nat) (T : TypeId) (cur : Array Value), A = some ⟨g, 0, none⟩ ∧ B ≤ g ∧ g < U ∧ Blk w g T cur ∧ rs.length * 2 ≤ cur.size ∧ ∀ i x, rs[i]? = some x → TagAt cur i x
theorem Res.keep {w w' : World} {B U : Nat} {A : Option Addr} {rs : List (Int × Int)} {row : Option Nat} (h : Res w B U A rs) (hg : w.grownBy w' row) (hr : ∀ g, row = some g → g < B ∨ U ≤ g) : Res w' B U A rs := by
  rcases h with h | ⟨g, T, cur, rfl, hB, hU, hb, hs, hc⟩
  · exact .inl h
  · exact .inr ⟨g, T, cur, rfl, hB, hU, hb.kept hg (by intro e; have := hr g e; omega), hs, hc⟩
theorem Res.on {w w' : World} {B U : Nat} {A : Option Addr} {rs : List (Int × Int)} (h : Res w B U A rs) (hb : Below w.heap.size w w') : Res w' B U A rs := h.keep (row := none) (grown_none hb) (by simp)
theorem Res.drew {w : World} {B U : Nat} {A : Option Addr} {rs : List (Int × Int)} (h : Res w B U A rs) : Res w.drew B U A rs := h
theorem Res.alloc {w : World} {B U : Nat} {A : Option Addr} {rs : List (Int × Int)} (h : Res w B U A rs) (o : Obj) : Res (w.alloc o) B U A rs := h.on (below_alloc1 w o)
theorem Res.set {w : World} {B U : Nat} {A : Option Addr} {rs : List (Int × Int)} (h : Res w B U A rs) {p : Addr} (hp : p.block < B ∨ U ≤ p.block) (u : Value) : Res (w.setCell p u) B U A rs := by
  rcases h with h | ⟨g, T, cur, rfl, hB, hU, hb, hs, hc⟩
  · exact .inl h
  · exact .inr ⟨g, T, cur, rfl, hB, hU, hb.aside (by omega) u, hs, hc⟩
theorem Res.swap {w : World} {B U : Nat} {A : Option Addr} {rs : List (Int × Int)} {o o' : Obj} (h : Res (w.alloc o) B U A rs) (hU : U ≤ w.heap.size) : Res (w.alloc o') B U A rs := by
  rcases h with h | ⟨g, T, cur, rfl, hB, hU', hb, hs, hc⟩
  · exact .inl h
  · have e : Blk (w.alloc o') g T cur := by
      unfold Blk at hb ⊢
      rw [Below.heap_alloc w o' g (by omega), ← Below.heap_alloc w o g (by omega)]
      exact hb
    exact .inr ⟨g, T, cur, rfl, hB, hU', e, hs, hc⟩
theorem Res.tg {w : World} {B U : Nat} {A : Option Addr} {rs : List (Int × Int)} (h : Res w B U A rs) : Tg w w.heap.size A rs := by
  rcases h with ⟨_, h⟩ | ⟨g, T, cur, rfl, _, _, hb, _, hc⟩
  · exact .inl h
  · exact Tg.of hb hb.inside hc
theorem Res.of {w : World} {B U g : Nat} {T : TypeId} {cur : Array Value} {rs : List (Int × Int)} (hB : B ≤ g) (hU : g < U) (hb : Blk w g T cur) (hs : rs.length * 2 ≤ cur.size) (hc : ∀ i x, rs[i]? = some x → TagAt cur i x) : Res w B U (some ⟨g, 0, none⟩) rs :=
  .inr ⟨g, T, cur, rfl, hB, hU, hb, hs, hc⟩

/-- At most one block has turned, and none of the known ones. -/
theorem Inv.part {w w1 w2 : World} {n : Nat} {bs : List (Nat × TypeId × Array Value)} {row : Option Nat} (h : Inv w n bs w1) (hg : w1.grownBy w2 row) (hw : ∀ g, row = some g → w.heap.size ≤ g) (hs : ∀ x ∈ bs, ∀ g, row = some g → x.1 ≠ g) : Inv w n bs w2 :=
  ⟨h.below.grown hg h.below.size hw, Nat.le_trans h.room hg.size, fun x hx => ⟨(h.blk x hx).1, (h.blk x hx).2.1, (h.blk x hx).2.2.kept hg (fun e => hs x hx _ e rfl)⟩⟩

/-- What PastJoin answers, as tags. -/
def joinL (ts us : List (Int × Int)) : List (Int × Int) := if (pastB ts && pastB us) = true then mxL ts us else []
theorem joinL_len (ts us : List (Int × Int)) : (joinL ts us).length ≤ 4 := by
  unfold joinL
  split
  · rename_i h
    simp at h
    obtain ⟨x0, x1, x2, x3, rfl⟩ := four_of h.1
    simp [mxL]
    omega
  · simp

/-- An answer that is a vector. -/
def Answer (w : World) (rs : List (Int × Int)) (e : Ending) (w' : World) : Prop :=
  ∃ (A : Option Addr) (cap : Nat), e = .returned (.agg #[.slice A rs.length cap]) ∧ Res w' w.heap.size w'.heap.size A rs ∧ Below w.heap.size w w'

theorem answer_join {w : World} {ts us : List (Int × Int)} {e : Ending} {w' : World} (hp : pastB ts = true) (hq : pastB us = true) (h : JoinedP w (mxL ts us) e w') : Answer w (joinL ts us) e w' := by
  obtain ⟨g, cap, T, cur, he, hg, hB, hsz, hcur, hb⟩ := h
  have e1 : joinL ts us = mxL ts us := by unfold joinL; simp [hp, hq]
  have e2 : (mxL ts us).length = 4 := by
    obtain ⟨x0, x1, x2, x3, rfl⟩ := four_of hp
    obtain ⟨y0, y1, y2, y3, rfl⟩ := four_of hq
    rfl
  rw [e1]
  exact ⟨some ⟨g, 0, none⟩, cap, by rw [he, e2], Res.of hg hB.inside hB (by rw [e2]; exact hsz) hcur, hb⟩
theorem answer_none {w : World} {ts us : List (Int × Int)} {e : Ending} {w' : World} (hpq : (pastB ts && pastB us) = false) (he : e = .returned (.agg #[.slice none 0 0])) (hb : Below w.heap.size w w') : Answer w (joinL ts us) e w' := by
  have e1 : joinL ts us = [] := by unfold joinL; simp [hpq]
  rw [e1]
  exact ⟨none, 0, he, .inl ⟨rfl, rfl⟩, hb⟩

/-- What marking an answer leaves: the marks; only its own block has turned. -/
def MarkedR (w : World) (B U : Nat) (A : Option Addr) (n : Nat) (k : Int) (e : Ending) (w' : World) : Prop :=
  ∃ row : Option Nat, e = .returned (.int .i64 (k + 2 * (n : Int))) ∧ Res w' B U A (marksL k n) ∧ w.grownBy w' row ∧ ∀ g, row = some g → B ≤ g ∧ g < U
end Go.Proofs.Ytieechelogkeoaa
