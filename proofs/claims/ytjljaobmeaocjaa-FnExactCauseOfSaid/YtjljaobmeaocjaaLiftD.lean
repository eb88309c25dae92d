/- Slices of records that came in: each can be read. -/
import Derived.Test.YtjljaobmeaocjaaLift0
import Derived.Test.YtjljaobmeaocjaaDones
namespace Go.Proofs.Ytjljaobmeaocjaa
open Go.ChangeShapes Go.WideShapes Go.ChangeAt Go.RowKit Go.Joins

set_option maxRecDepth 100000 in
/-- Five cells of a record that came in hold five integers. -/
theorem cells_done {H : Type} {enc : TypeId × Value → H} {W : World} {fuel : Nat} {cs : List Value} {x : DataW H × List MemPlace}
    (h : DataW.trod enc Try.prog W 0 (fun _ => true) true fuel 57 cs = some x) : ∃ s k y t u : Int, cs = [.int .i64 s, .int .i64 k, .int .i64 y, .int .i64 t, .int .i64 u] := by
  obtain ⟨ys, n, _, _, hlen, hyl, hf⟩ := DataW.trod_struct Try.underlying57 h
  have hc : Try.prog.cellsOf 57 = 5 := by kernel_rfl
  have hi : Try.prog.cellsOf 3 = 1 := by kernel_rfl
  have ht : Try.prog.cellsOf 40 = 2 := by kernel_rfl
  rw [hc] at hlen
  match cs, hlen with
  | [c0, c1, c2, c3, c4], _ =>
    have h0 := hf 0 _ rfl
    have h1 := hf 1 _ rfl
    have h2 := hf 2 _ rfl
    have h3 := hf 3 _ rfl
    simp [hi, ht] at h0 h1 h2 h3
    match ys, hyl with
    | [y0, y1, y2, y3], _ =>
      simp at h0 h1 h2 h3
      obtain ⟨a, e0, _, _⟩ := DataW.trod_int Try.underlying3 h0
      obtain ⟨b, e1, _, _⟩ := DataW.trod_int Try.underlying3 h1
      obtain ⟨d, e2, _, _⟩ := DataW.trod_int Try.underlying3 h2
      obtain ⟨t, u, e3⟩ := cells_tag h3
      simp at e0 e1 e2 e3
      obtain ⟨rfl, rfl⟩ := e3
      subst e0 e1 e2
      exact ⟨a, b, d, t, u, rfl⟩
set_option maxRecDepth 100000 in
/-- A slice of records that came in: each can be read. -/
theorem trod_dones {H : Type} {enc : TypeId × Value → H} {W : World} {fuel : Nat} {cs : List Value} {x : DataW H × List MemPlace}
    (h : DataW.trod enc Try.prog W 0 (fun _ => true) true fuel 22 cs = some x) :
    ∃ (a : Option Addr) (cap : Nat) (ds : List D), cs = [.slice a ds.length cap] ∧ Dg W W.heap.size a ds ∧ ds.length ≤ 9223372036854775807 := by
  rcases Go.Deep.open_slice Try.underlying22 h with ⟨h0, _⟩ | ⟨a, len, cap, m, n, E, Pl, hcs, _, hl, hm, hmm, _, hi⟩
  · exact ⟨none, 0, [], h0, .inl rfl, by simp⟩
  · have hc : Try.prog.cellsOf 57 = 5 := by kernel_rfl
    simp only [if_true] at hmm
    subst hmm
    have hall : ∀ i : Nat, ∃ y : D, i < len → W.cell? (a.add (i * 5)) = some (.int .i64 y.1) ∧ W.cell? ((a.add (i * 5)).add 1) = some (.int .i64 y.2.1) ∧ W.cell? ((a.add (i * 5)).add 2) = some (.int .i64 y.2.2.1) ∧ W.cell? ((a.add (i * 5)).add 3) = some (.int .i64 y.2.2.2.1) ∧ W.cell? ((a.add (i * 5)).add 4) = some (.int .i64 y.2.2.2.2) := by
      intro i
      by_cases hlt : i < len
      · obtain ⟨cs', hcells, ht⟩ := hi i (by omega)
        obtain ⟨s, k, y, t, u, rfl⟩ := cells_done ht
        rw [hc] at hcells
        obtain ⟨_, _, hat⟩ := World.cells?_some hcells
        refine ⟨(s, k, y, t, u), fun _ => ⟨?_, ?_, ?_, ?_, ?_⟩⟩
        · have := hat 0 (by omega)
          simpa [Addr.add] using this
        · have := hat 1 (by omega)
          simpa using this
        · have := hat 2 (by omega)
          simpa using this
        · have := hat 3 (by omega)
          simpa using this
        · have := hat 4 (by omega)
          simpa using this
      · exact ⟨(0, 0, 0, 0, 0), fun h => absurd h hlt⟩
    obtain ⟨f, hf⟩ := Classical.axiomOfChoice hall
    refine ⟨some a, m, (List.range len).map f, by simpa using hcs, ?_, by simp; unfold maxLen at hm; omega⟩
    by_cases h0 : len = 0
    · subst h0; exact .inl (by simp)
    · obtain ⟨b, off, spot⟩ := a
      have hc0 := (hf 0 (by omega)).1
      have hspot : spot = none := by simpa [Addr.add] using World.cell?_spot hc0
      subst hspot
      refine .inr ⟨b, off, rfl, ?_, fun i y hy => ?_⟩
      · apply Classical.byContradiction
        intro hn
        have : W.heap[b]? = none := Array.getElem?_eq_none (by omega)
        simp [Addr.add, World.cell?, this] at hc0
      · simp only [List.getElem?_map, Option.map_eq_some_iff] at hy
        obtain ⟨j, hj, rfl⟩ := hy
        have hji := List.getElem?_eq_some_iff.1 hj
        obtain ⟨hlt, e⟩ := hji
        simp at hlt e
        subst e
        have h1 := hf i hlt
        have e1 : (⟨b, off, none⟩ : Addr).add (i * 5) = ⟨b, off + i * 5, none⟩ := by
          unfold Addr.add
          by_cases hi0 : i * 5 = 0
          · simp [hi0]
          · simp [hi0]
        rw [e1] at h1
        obtain ⟨g0, g1, g2, g3, g4⟩ := h1
        exact ⟨g0, by simpa [Addr.add] using g1, by simpa [Addr.add] using g2, by simpa [Addr.add] using g3, by simpa [Addr.add] using g4⟩
set_option maxRecDepth 100000 in
theorem read_dones {H : Type} {enc : TypeId × Value → H} {W : World} {base : Nat} {v : Value} {d : DataW H} {p : List MemPlace}
    (hv : Value.okWide Try.prog W .any base 22 v) (h : DataW.Trod enc Try.prog W 0 (fun _ => true) true 22 v d p) :
    ∃ (a : Option Addr) (cap : Nat) (ds : List D), v = .slice a ds.length cap ∧ Dg W W.heap.size a ds ∧ ds.length ≤ 9223372036854775807 := by
  obtain ⟨a, len, cap, rfl⟩ := okWide_slice Try.underlying22 hv
  obtain ⟨fuel, hf⟩ := h
  obtain ⟨a', cap', ds, e, hd, hl⟩ := trod_dones hf
  simp [Value.cells] at e
  obtain ⟨rfl, rfl, rfl⟩ := e
  exact ⟨a, cap, ds, rfl, hd, hl⟩
end Go.Proofs.Ytjljaobmeaocjaa
