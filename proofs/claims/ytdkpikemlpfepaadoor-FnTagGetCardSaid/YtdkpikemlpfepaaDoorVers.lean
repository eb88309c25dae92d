/- Contracts of the laws' small functions on versions: their size, their copy, whether two are the same. Condition: at most 1048576 tags where memory is made. -/
import Derived.Test.YtdkpikemlpfepaaDoorPasts
import Derived.Test.YtdkpikemlpfepaaDoorPastOk
namespace Go.Proofs.YtdkpikemlpfepaaDoor
open Go.RowKit Go.Joins

/-- The six cells of a version. -/
abbrev verC (k t u : Int) (a : Option Addr) (n c : Nat) (s : ByteArray) (g : Bool) : Array Value := #[.int .i64 k, .int .i64 t, .int .i64 u, .slice a n c, .string s, .bool g]
theorem Blk.six {w : World} {g : Nat} {T : TypeId} {a b c d e f : Value} (h : Blk w g T #[a, b, c, d, e, f]) :
    (w.cell? ⟨g, 0, none⟩ = some a ∧ w.cell? ⟨g, 1, none⟩ = some b ∧ w.cell? ⟨g, 2, none⟩ = some c ∧ w.cell? ⟨g, 3, none⟩ = some d ∧ w.cell? ⟨g, 4, none⟩ = some e ∧ w.cell? ⟨g, 5, none⟩ = some f) ∧
    (w.frozen? ⟨g, 0, none⟩ = false ∧ w.frozen? ⟨g, 1, none⟩ = false ∧ w.frozen? ⟨g, 2, none⟩ = false ∧ w.frozen? ⟨g, 3, none⟩ = false ∧ w.frozen? ⟨g, 4, none⟩ = false ∧ w.frozen? ⟨g, 5, none⟩ = false) :=
  ⟨⟨h.at 0, h.at 1, h.at 2, h.at 3, h.at 4, h.at 5⟩, h.loose 0, h.loose 1, h.loose 2, h.loose 3, h.loose 4, h.loose 5⟩
theorem below_set6 {w w' : World} {n g : Nat} (h : Below n w w') (hg : n ≤ g) (a b c d e f : Value) :
    Below n w ((((((w'.setCell ⟨g, 0, none⟩ a).setCell ⟨g, 1, none⟩ b).setCell ⟨g, 2, none⟩ c).setCell ⟨g, 3, none⟩ d).setCell ⟨g, 4, none⟩ e).setCell ⟨g, 5, none⟩ f) :=
  (((((h.setCell hg a).setCell hg b).setCell hg c).setCell hg d).setCell hg e).setCell hg f

/-- What toVer leaves. -/
def CopiedV (w : World) (k t u : Int) (ts : List (Int × Int)) (s : ByteArray) (b : Bool) (e : Ending) (w' : World) : Prop :=
  ∃ (g : Nat) (cur : Array Value), e = .returned (.agg (verC k t u (some ⟨g, 0, none⟩) ts.length ts.length s b)) ∧ w.heap.size ≤ g ∧ Blk w' g 24 cur ∧ cur.size = ts.length * 2 ∧ (∀ i x, ts[i]? = some x → TagAt cur i x) ∧ Below w.heap.size w w'

theorem Inv.put0 {w w1 : World} {n g i : Nat} {t : TypeId} {cs : Array Value} {bs : List (Nat × TypeId × Array Value)} (h : Inv w n ((g, t, cs) :: bs) w1) (hd : ∀ x ∈ bs, x.1 ≠ g) (u : Value) : Inv w n ((g, t, cs.setIfInBounds i u) :: bs) (w1.setCell ⟨g, i, none⟩ u) :=
  ⟨h.below.setCell (h.blk _ (List.mem_cons_self ..)).1 u, by simpa [World.setCell] using h.room, fun x hx => by
    rcases List.mem_cons.1 hx with rfl | hx
    · exact ⟨(h.blk _ (List.mem_cons_self ..)).1, (h.blk _ (List.mem_cons_self ..)).2.1, (h.blk _ (List.mem_cons_self ..)).2.2.put i u⟩
    · have := h.blk x (List.mem_cons_of_mem _ hx)
      exact ⟨this.1, this.2.1, this.2.2.aside (hd x hx) u⟩⟩

end Go.Proofs.YtdkpikemlpfepaaDoor
