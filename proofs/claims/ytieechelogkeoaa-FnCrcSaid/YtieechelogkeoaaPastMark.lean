/- Contracts of the laws' functions that write marks into a vector's own memory and look whether they stand. Condition: at most 1048576 tags, marks within bounds. -/
import Derived.Test.YtieechelogkeoaaPastOk
namespace Go.Proofs.Ytieechelogkeoaa
open Go.RowKit Go.Joins

/-- The marks that n tags bear, from number k on. -/
def marksL (k : Int) (n : Nat) : List (Int × Int) := (List.range n).map fun (i : Nat) => (k + 2 * (i : Int), k + 2 * (i : Int) + 1)
theorem marksL_len (k : Int) (n : Nat) : (marksL k n).length = n := by simp [marksL]
theorem marksL_at (k : Int) (n i : Nat) (h : i < n) : (marksL k n)[i]? = some (k + 2 * (i : Int), k + 2 * (i : Int) + 1) := by simp [marksL, h]

theorem int_val {a b : Int} (h : a = b) : Value.int .i64 a = .int .i64 b := by rw [h]
theorem grown_own {w w' : World} {g i : Nat} (h : w.grownBy w' (some g)) (u : Value) : w.grownBy (w'.setCell ⟨g, i, none⟩ u) (some g) :=
  ⟨h.os, h.tape, h.output, by simpa [World.setCell] using h.size, fun k hk hne => (Below.heap_setCell w' _ u k (by rintro rfl; exact hne rfl)).trans (h.block k hk hne)⟩
/-- One known block has turned; the others are as they were. -/
theorem Inv.turn {w w1 w2 : World} {n g : Nat} {bs bs' : List (Nat × TypeId × Array Value)} (h : Inv w n bs w1) (hg : w1.grownBy w2 (some g)) (hw : w.heap.size ≤ g)
    (hs : ∀ x ∈ bs', (x ∈ bs ∧ x.1 ≠ g) ∨ (x.1 = g ∧ g < n ∧ Blk w2 g x.2.1 x.2.2)) : Inv w n bs' w2 := by
  refine ⟨h.below.grown hg h.below.size (fun k hk => by injection hk; omega), Nat.le_trans h.room hg.size, fun x hx => ?_⟩
  rcases hs x hx with ⟨hm, hne⟩ | ⟨rfl, hlt, hb⟩
  · exact ⟨(h.blk x hm).1, (h.blk x hm).2.1, (h.blk x hm).2.2.kept hg (by intro e; injection e; omega)⟩
  · exact ⟨hw, hlt, hb⟩

/-- What marking leaves: the marks in the row's own block; no other block has turned. -/
def MarkedS (w : World) (g : Nat) (T : TypeId) (size n : Nat) (k : Int) (e : Ending) (w' : World) : Prop :=
  e = .returned (.int .i64 (k + 2 * (n : Int))) ∧ (∃ cur', Blk w' g T cur' ∧ cur'.size = size ∧ ∀ i x, (marksL k n)[i]? = some x → TagAt cur' i x) ∧ w.grownBy w' (some g)

end Go.Proofs.Ytieechelogkeoaa
