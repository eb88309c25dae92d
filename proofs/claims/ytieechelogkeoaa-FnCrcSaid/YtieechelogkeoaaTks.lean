/- What it is that every block of tags stays as it is. Of whatever program that has tags. -/
import Derived.Test.YtieechelogkeoaaWorld
namespace Go.Proofs.Ytieechelogkeoaa
open Go.RowKit Go.Joins

/-- Every block of tags stays as it is. -/
def Tk (w w' : World) : Prop := ∀ g cur, Blk w g 70 cur → Blk w' g 70 cur
theorem Tk.below {w w' : World} (h : Below w.heap.size w w') : Tk w w' := fun _ _ hb => hb.on h
theorem Tk.drew (w : World) : Tk w w.drew := fun _ _ hb => hb
theorem Tk.alloc (w : World) (o : Obj) : Tk w (w.alloc o) := fun _ _ hb => hb.more o
theorem Tk.trans {a b c : World} (h : Tk a b) (k : Tk b c) : Tk a c := fun g cur hb => k g cur (h g cur hb)
theorem blk_type {w : World} {g : Nat} {T T' : TypeId} {cs cs' : Array Value} (h : Blk w g T cs) (h' : Blk w g T' cs') : T = T' ∧ cs = cs' := by
  unfold Blk at h h'
  rw [h] at h'
  injection h' with h'
  injection h' with h1 h2 h3
  exact ⟨h2, h1⟩
theorem Tk.set {w : World} {p : Addr} {T : TypeId} {cs : Array Value} (hb : Blk w p.block T cs) (hT : T ≠ 70) (u : Value) : Tk w (w.setCell p u) := fun _ _ h => h.aside (fun e => by
  subst e
  exact hT (blk_type hb h).1) u
theorem Tk.grown {w w' : World} {row : Option Nat} (hg : w.grownBy w' row) (hr : ∀ r, row = some r → ∃ T cs, Blk w r T cs ∧ T ≠ 70) : Tk w w' := fun g _ h => h.kept hg (fun e => by
  obtain ⟨T, cs, hb, hT⟩ := hr g e
  exact hT (blk_type hb h).1)
end Go.Proofs.Ytieechelogkeoaa
