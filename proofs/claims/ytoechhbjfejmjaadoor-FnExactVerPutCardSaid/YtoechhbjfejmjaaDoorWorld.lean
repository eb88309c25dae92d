/- Small facts on memory: a block that is known whole, and how it stays known. Of whatever program. -/
import Derived.WalkKit
import Derived.WalkSpells
import Derived.Lib.SmallJoins
namespace Go.Proofs.YtoechhbjfejmjaaDoor
open Go.RowKit Go.Joins

/-- Block g holds just these cells, of element type t, none of them frozen. -/
def Blk (w : World) (g : Nat) (t : TypeId) (cs : Array Value) : Prop := w.heap[g]? = some (.cells cs t (0, 0))

theorem hide {p : Prop} (h : p) : Hid p := h

section
variable {w w' : World} {g : Nat} {t : TypeId} {cs : Array Value}
theorem Blk.inside (h : Blk w g t cs) : g < w.heap.size := by
  apply Classical.byContradiction
  intro hn
  have : w.heap[g]? = none := Array.getElem?_eq_none (by omega)
  unfold Blk at h
  rw [this] at h
  cases h
theorem Blk.at (h : Blk w g t cs) (i : Nat) : w.cell? ⟨g, i, none⟩ = cs[i]? := cell_of_block h i
theorem Blk.loose (h : Blk w g t cs) (i : Nat) : w.frozen? ⟨g, i, none⟩ = false := unfrozen_of_block h i
theorem Blk.made (w : World) (t : TypeId) (cs : Array Value) : Blk (w.alloc (.cells cs t)) w.heap.size t cs := by
  show (w.heap.push _)[w.heap.size]? = _
  rw [Array.getElem?_push, if_pos rfl]
theorem Blk.more (h : Blk w g t cs) (o : Obj) : Blk (w.alloc o) g t cs := (Below.heap_alloc w o g h.inside).trans h
theorem Blk.past (h : Blk w g t cs) {B : Nat} (hb : Below B w w') (hg : g < B) : Blk w' g t cs := (hb.block g hg).trans h
theorem Blk.on (h : Blk w g t cs) (hb : Below w.heap.size w w') : Blk w' g t cs := h.past hb h.inside
theorem Blk.aside (h : Blk w g t cs) {p : Addr} (hp : g ≠ p.block) (u : Value) : Blk (w.setCell p u) g t cs := (Below.heap_setCell w p u g hp).trans h
theorem Blk.put (h : Blk w g t cs) (i : Nat) (u : Value) : Blk (w.setCell ⟨g, i, none⟩ u) g t (cs.setIfInBounds i u) := block_setCell h u
theorem Blk.kept (h : Blk w g t cs) {row : Option Nat} (hb : w.grownBy w' row) (hg : row ≠ some g) : Blk w' g t cs := (hb.block g h.inside (fun e => hg e.symm)).trans h
/-- A block of two cells, as rules for a walk. -/
theorem Blk.two {a b : Value} (h : Blk w g t #[a, b]) : w.cell? ⟨g, 0, none⟩ = some a ∧ w.cell? ⟨g, 1, none⟩ = some b ∧ w.frozen? ⟨g, 0, none⟩ = false ∧ w.frozen? ⟨g, 1, none⟩ = false := ⟨h.at 0, h.at 1, h.loose 0, h.loose 1⟩
theorem Blk.one {a : Value} (h : Blk w g t #[a]) : w.cell? ⟨g, 0, none⟩ = some a ∧ w.frozen? ⟨g, 0, none⟩ = false := ⟨h.at 0, h.loose 0⟩
theorem Blk.drew (h : Blk w g t cs) : Blk w.drew g t cs := h
end

/-- What a walk knows of memory between two calls: nothing older than the call has turned; these blocks, made by the call and numbered below n, are known whole. -/
structure Inv (w : World) (n : Nat) (bs : List (Nat × TypeId × Array Value)) (w' : World) : Prop where
  below : Below w.heap.size w w'
  room : n ≤ w'.heap.size
  blk : ∀ x ∈ bs, w.heap.size ≤ x.1 ∧ x.1 < n ∧ Blk w' x.1 x.2.1 x.2.2

section
variable {w w1 w2 : World} {n : Nat} {bs : List (Nat × TypeId × Array Value)}
theorem Inv.start (w : World) : Inv w w.heap.size [] w := ⟨Below.refl _ _, Nat.le_refl _, by simp⟩
theorem Inv.on (h : Inv w n bs w1) (hb : Below w1.heap.size w1 w2) : Inv w n bs w2 :=
  ⟨h.below.trans (hb.mono h.below.size), Nat.le_trans h.room hb.size, fun x hx => ⟨(h.blk x hx).1, (h.blk x hx).2.1, (h.blk x hx).2.2.on hb⟩⟩
theorem Inv.drew (h : Inv w n bs w1) : Inv w n bs w1.drew := ⟨h.below.drew, h.room, fun x hx => ⟨(h.blk x hx).1, (h.blk x hx).2.1, (h.blk x hx).2.2⟩⟩
theorem Inv.alloc (h : Inv w n bs w1) (o : Obj) : Inv w n bs (w1.alloc o) := h.on (below_alloc1 w1 o)
theorem Inv.set (h : Inv w n bs w1) {p : Addr} (hp : n ≤ p.block) (hw : w.heap.size ≤ p.block) (u : Value) : Inv w n bs (w1.setCell p u) :=
  ⟨h.below.setCell hw u, by simpa [World.setCell] using h.room, fun x hx => ⟨(h.blk x hx).1, (h.blk x hx).2.1, (h.blk x hx).2.2.aside (by have := (h.blk x hx).2.1; omega) u⟩⟩
theorem Inv.base (h : Inv w n bs w1) : w.heap.size ≤ w1.heap.size := h.below.size
/-- A boxed argument, a variable: a new block, known whole from now on. -/
theorem Inv.box (h : Inv w w1.heap.size bs w1) (t : TypeId) (cs : Array Value) : Inv w (w1.alloc (.cells cs t)).heap.size ((w1.heap.size, t, cs) :: bs) (w1.alloc (.cells cs t)) :=
  ⟨(h.alloc _).below, Nat.le_refl _, fun x hx => by
    rcases List.mem_cons.1 hx with rfl | hx
    · exact ⟨h.below.size, by simp, Blk.made _ _ _⟩
    · exact ⟨(h.blk x hx).1, by have := (h.blk x hx).2.1; simp; omega, (h.blk x hx).2.2.more _⟩⟩
/-- One block more is known. -/
theorem Inv.add (h : Inv w n bs w1) {g : Nat} {t : TypeId} {cs : Array Value} (hg : w.heap.size ≤ g) (hb : Blk w1 g t cs) : Inv w w1.heap.size ((g, t, cs) :: bs) w1 :=
  ⟨h.below, Nat.le_refl _, fun x hx => by
    rcases List.mem_cons.1 hx with rfl | hx
    · exact ⟨hg, hb.inside, hb⟩
    · exact ⟨(h.blk x hx).1, Nat.lt_of_lt_of_le (h.blk x hx).2.1 h.room, (h.blk x hx).2.2⟩⟩
theorem Inv.top (h : Inv w n bs w1) : Inv w w1.heap.size bs w1 :=
  ⟨h.below, Nat.le_refl _, fun x hx => ⟨(h.blk x hx).1, Nat.lt_of_lt_of_le (h.blk x hx).2.1 h.room, (h.blk x hx).2.2⟩⟩
theorem Inv.get (h : Inv w n bs w1) {g : Nat} {t : TypeId} {cs : Array Value} (hx : (g, t, cs) ∈ bs) : Blk w1 g t cs := (h.blk _ hx).2.2
/-- The newest block holds something else. -/
theorem Inv.swap {o o' : Obj} (h : Inv w n bs (w1.alloc o)) (hn : n ≤ w1.heap.size) (hw : w.heap.size ≤ w1.heap.size) : Inv w n bs (w1.alloc o') := by
  have hb : Below w1.heap.size (w1.alloc o) (w1.alloc o') := ⟨rfl, rfl, rfl, by simp, fun k hk => (Below.heap_alloc w1 o' k hk).trans (Below.heap_alloc w1 o k hk).symm⟩
  refine ⟨h.below.trans (hb.mono hw), by simp; omega, fun x hx => ⟨(h.blk x hx).1, (h.blk x hx).2.1, (h.blk x hx).2.2.past hb ?_⟩⟩
  have := (h.blk x hx).2.1
  omega
theorem Inv.sub (h : Inv w n bs w1) {bs' : List (Nat × TypeId × Array Value)} (hs : ∀ x ∈ bs', x ∈ bs) : Inv w n bs' w1 := ⟨h.below, h.room, fun x hx => h.blk x (hs x hx)⟩
theorem Inv.nth (h : Inv w n bs w1) {g : Nat} {t : TypeId} {cs : Array Value} (i : Nat) (hx : bs[i]? = some (g, t, cs)) : Blk w1 g t cs := h.get (List.mem_of_getElem? hx)
end
/-- Behind a call that only makes memory: old cells and marks read as they did; old blocks are inside. Three rules for a walk. -/
theorem bcell3 {W w1 : World} (hb : Below W.heap.size W w1) : (∀ b o, b < W.heap.size → w1.cell? ⟨b, o, none⟩ = W.cell? ⟨b, o, none⟩) ∧ (∀ b o, b < W.heap.size → w1.frozen? ⟨b, o, none⟩ = W.frozen? ⟨b, o, none⟩) ∧ (∀ b, b < W.heap.size → b < w1.heap.size) :=
  ⟨fun b o h => hb.cell (p := ⟨b, o, none⟩) h, fun b o h => hb.frozen (p := ⟨b, o, none⟩) h, fun _ h => Nat.lt_of_lt_of_le h hb.size⟩
theorem grown_none {w w' : World} {row : Option Nat} (h : Below w.heap.size w w') : w.grownBy w' row := ⟨h.os, h.tape, h.output, h.size, fun i hi _ => h.block i hi⟩
end Go.Proofs.YtoechhbjfejmjaaDoor
