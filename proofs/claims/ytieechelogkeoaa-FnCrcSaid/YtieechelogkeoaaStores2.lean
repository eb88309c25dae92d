/- Versions in a row: whether two rows are the same; their copy. Condition: at most 1048576 versions, and tags of each. -/
import Derived.Test.YtieechelogkeoaaStores
namespace Go.Proofs.Ytieechelogkeoaa
open Go.RowKit Go.Joins

/-- Two rows say the same as far as both go. -/
def Like (vs us : List V) : Prop := ∀ (i : Nat) (v v' : V), vs[i]? = some v → us[i]? = some v' → V.like v v'
theorem Like.swap {vs us : List V} (h : Like vs us) : Like us vs := fun i v v' h1 h2 => by
  obtain ⟨a, b, c, d, e, f⟩ := h i v' v h2 h1
  exact ⟨a.symm, b.symm, c.symm, d.symm, e.symm, f.symm⟩
theorem ver_info : (Try.prog.info? 79).map (fun i => (i.zero, i.size, i.bytes)) = some (some (.agg (verC 0 0 0 none 0 0 ⟨#[]⟩ false)), 6, 72) := by kernel_rfl

/-- The six cells of the version at place i of a row of cells. -/
def VerAt (cur : Array Value) (i : Nat) (v : V) : Prop :=
  cur[i * 6]? = some (.int .i64 v.k) ∧ cur[i * 6 + 1]? = some (.int .i64 v.t) ∧ cur[i * 6 + 2]? = some (.int .i64 v.u) ∧ cur[i * 6 + 3]? = some (.slice v.a v.ts.length v.c) ∧ cur[i * 6 + 4]? = some (.string v.s) ∧ cur[i * 6 + 5]? = some (.bool v.g)
/-- Cells with the version at place k turned. -/
abbrev put6 (cur : Array Value) (k : Nat) (v : V) : Array Value :=
  (((((cur.setIfInBounds (k * 6) (.int .i64 v.k)).setIfInBounds (k * 6 + 1) (.int .i64 v.t)).setIfInBounds (k * 6 + 2) (.int .i64 v.u)).setIfInBounds (k * 6 + 3) (.slice v.a v.ts.length v.c)).setIfInBounds (k * 6 + 4) (.string v.s)).setIfInBounds (k * 6 + 5) (.bool v.g)
theorem verAt_put {cur : Array Value} {k : Nat} {v : V} (h : k * 6 + 5 < cur.size) : VerAt (put6 cur k v) k v := by
  refine ⟨?_, ?_, ?_, ?_, ?_, ?_⟩ <;> simp [put6, Array.getElem?_setIfInBounds] <;> omega
theorem verAt_other {cur : Array Value} {j k : Nat} {v v' : V} (hj : j ≠ k) (h : VerAt cur j v) : VerAt (put6 cur k v') j v := by
  obtain ⟨h0, h1, h2, h3, h4, h5⟩ := h
  refine ⟨?_, ?_, ?_, ?_, ?_, ?_⟩
  all_goals
    unfold put6
    rw [Array.getElem?_setIfInBounds_ne (by omega), Array.getElem?_setIfInBounds_ne (by omega), Array.getElem?_setIfInBounds_ne (by omega), Array.getElem?_setIfInBounds_ne (by omega), Array.getElem?_setIfInBounds_ne (by omega), Array.getElem?_setIfInBounds_ne (by omega)]
    assumption
/-- A version whose causes lie in a block of their own, numbered above G. -/
def Own (w : World) (G : Nat) (v : V) : Prop :=
  ∃ (g : Nat) (cur : Array Value), v.a = some ⟨g, 0, none⟩ ∧ G < g ∧ Blk w g 70 cur ∧ cur.size = v.ts.length * 2 ∧ ∀ i x, v.ts[i]? = some x → TagAt cur i x
theorem Own.on {w w' : World} {G : Nat} {v : V} (h : Own w G v) (hb : Below w.heap.size w w') : Own w' G v := by
  obtain ⟨g, cur, h1, h2, h3, h4, h5⟩ := h
  exact ⟨g, cur, h1, h2, h3.on hb, h4, h5⟩
theorem Own.aside {w : World} {G : Nat} {v : V} (h : Own w G v) (i : Nat) (x : Value) : Own (w.setCell ⟨G, i, none⟩ x) G v := by
  obtain ⟨g, cur, h1, h2, h3, h4, h5⟩ := h
  exact ⟨g, cur, h1, h2, h3.aside (by simp; omega) x, h4, h5⟩
theorem Own.tg {w : World} {G : Nat} {v : V} (h : Own w G v) : Tg w w.heap.size v.a v.ts := by
  obtain ⟨g, cur, h1, h2, h3, h4, h5⟩ := h
  rw [h1]
  exact Tg.of h3 h3.inside h5
/-- A row of versions in one block, each with its causes in a block of its own. -/
def Row (w : World) (G : Nat) (us : List V) (cur : Array Value) : Prop := Blk w G 79 cur ∧ ∀ i v, us[i]? = some v → VerAt cur i v ∧ Own w G v
theorem Row.on {w w' : World} {G : Nat} {us : List V} {cur : Array Value} (h : Row w G us cur) (hb : Below w.heap.size w w') : Row w' G us cur := ⟨h.1.on hb, fun i v hi => ⟨(h.2 i v hi).1, (h.2 i v hi).2.on hb⟩⟩
theorem Row.vg {w : World} {G : Nat} {us : List V} {cur : Array Value} (h : Row w G us cur) : Vg w w.heap.size (some ⟨G, 0, none⟩) us :=
  .inr ⟨G, 0, rfl, h.1.inside, fun i v hi => by
    obtain ⟨⟨h0, h1, h2, h3, h4, h5⟩, ho⟩ := h.2 i v hi
    refine ⟨⟨?_, ?_, ?_, ?_, ?_, ?_⟩, ho.tg⟩
    all_goals
      rw [Nat.zero_add, h.1.at]
      assumption⟩
theorem like_step {us vs : List V} {k : Nat} {v v' : V} (h : Like us vs) (hk : us.length = k) (hv : vs[k]? = some v') (hl : V.like v v') : Like (us ++ [v]) vs := fun i x x' hi hi' => by
  by_cases e : i < us.length
  · rw [List.getElem?_append_left e] at hi
    exact h i x x' hi hi'
  · rw [List.getElem?_append_right (by omega)] at hi
    have h0 : i - us.length = 0 := by
      have := (List.getElem?_eq_some_iff.1 hi).1
      simp at this
      omega
    have hik : i = k := by omega
    rw [h0] at hi
    subst hik
    simp at hi
    rw [hv] at hi'
    injection hi' with hi'
    subst hi hi'
    exact hl
theorem row_step {w : World} {G k : Nat} {us : List V} {cur : Array Value} {v : V} (h : Row w G us cur) (hk : us.length = k) (ho : Own w G v) (hs : k * 6 + 5 < cur.size) :
    Row ((((((w.setCell ⟨G, k * 6, none⟩ (.int .i64 v.k)).setCell ⟨G, k * 6 + 1, none⟩ (.int .i64 v.t)).setCell ⟨G, k * 6 + 2, none⟩ (.int .i64 v.u)).setCell ⟨G, k * 6 + 3, none⟩ (.slice v.a v.ts.length v.c)).setCell ⟨G, k * 6 + 4, none⟩ (.string v.s)).setCell ⟨G, k * 6 + 5, none⟩ (.bool v.g)) G (us ++ [v]) (put6 cur k v) := by
  refine ⟨(((((h.1.put _ _).put _ _).put _ _).put _ _).put _ _).put _ _, fun i x hi => ?_⟩
  by_cases e : i < us.length
  · rw [List.getElem?_append_left e] at hi
    obtain ⟨h1, h2⟩ := h.2 i x hi
    exact ⟨verAt_other (by omega) h1, (((((h2.aside _ _).aside _ _).aside _ _).aside _ _).aside _ _).aside _ _⟩
  · rw [List.getElem?_append_right (by omega)] at hi
    have h0 : i - us.length = 0 := by
      have := (List.getElem?_eq_some_iff.1 hi).1
      simp at this
      omega
    have hik : i = k := by omega
    rw [h0] at hi
    subst hik
    simp at hi
    subst hi
    exact ⟨verAt_put hs, (((((ho.aside _ _).aside _ _).aside _ _).aside _ _).aside _ _).aside _ _⟩
/-- What toVerS leaves. -/
def CopiedVS (w : World) (vs : List V) (e : Ending) (w' : World) : Prop :=
  ∃ (g : Nat) (us : List V) (cur : Array Value), e = .returned (.slice (some ⟨g, 0, none⟩) vs.length vs.length) ∧ w.heap.size ≤ g ∧ us.length = vs.length ∧ (Like us vs) ∧ Row w' g us cur ∧ cur.size = vs.length * 6 ∧ Below w.heap.size w w'

/-- What toStore leaves. -/
def CopiedSt (w : World) (vs : List V) (e : Ending) (w' : World) : Prop :=
  ∃ (g : Nat) (us : List V) (cur : Array Value), e = .returned (.agg #[.slice (some ⟨g, 0, none⟩) vs.length vs.length]) ∧ w.heap.size ≤ g ∧ us.length = vs.length ∧ (Like us vs) ∧ Row w' g us cur ∧ cur.size = vs.length * 6 ∧ Below w.heap.size w w'
theorem Row.aside {w : World} {G : Nat} {us : List V} {cur : Array Value} (h : Row w G us cur) {p : Addr} (hp : p.block < G) (x : Value) : Row (w.setCell p x) G us cur :=
  ⟨h.1.aside (by omega) x, fun i v hi => ⟨(h.2 i v hi).1, by
    obtain ⟨g, c, h1, h2, h3, h4, h5⟩ := (h.2 i v hi).2
    exact ⟨g, c, h1, h2, h3.aside (by omega) x, h4, h5⟩⟩⟩

end Go.Proofs.Ytieechelogkeoaa
