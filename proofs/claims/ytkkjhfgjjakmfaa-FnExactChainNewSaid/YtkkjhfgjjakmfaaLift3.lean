/- Rows of versions and stores that came in: each can be read. -/
import Derived.Test.YtkkjhfgjjakmfaaLift2
import Derived.Test.YtkkjhfgjjakmfaaStores
namespace Go.Proofs.Ytkkjhfgjjakmfaa
open Go.ChangeShapes Go.WideShapes Go.ChangeAt Go.RowKit Go.Joins

set_option maxRecDepth 100000 in
/-- A slice of versions that came in: each can be read. -/
theorem read_vers {H : Type} {enc : TypeId × Value → H} {W : World} {fuel : Nat} {cs : List Value} {x : DataW H × List MemPlace}
    (h : DataW.trod enc Try.prog W 0 (fun _ => true) true fuel 35 cs = some x) :
    ∃ (a : Option Addr) (cap : Nat) (vs : List V), cs = [.slice a vs.length cap] ∧ Vg W W.heap.size a vs ∧ vs.length ≤ 9223372036854775807 ∧ ∀ v ∈ vs, v.ts.length ≤ 9223372036854775807 ∧ v.s.size ≤ 9223372036854775807 := by
  rcases Go.Deep.open_slice Try.underlying35 h with ⟨h0, _⟩ | ⟨a, len, cap, m, n, D, Pl, hcs, _, hl, hm, hmm, _, hi⟩
  · exact ⟨none, 0, [], h0, .inl rfl, by simp, by simp⟩
  · have hc : Try.prog.cellsOf 43 = 6 := by kernel_rfl
    simp only [if_true] at hmm
    subst hmm
    have hall : ∀ i : Nat, ∃ v : V, i < len → (W.cell? (a.add (i * 6)) = some (.int .i64 v.k) ∧ W.cell? ((a.add (i * 6)).add 1) = some (.int .i64 v.t) ∧ W.cell? ((a.add (i * 6)).add 2) = some (.int .i64 v.u) ∧ W.cell? ((a.add (i * 6)).add 3) = some (.slice v.a v.ts.length v.c) ∧ W.cell? ((a.add (i * 6)).add 4) = some (.string v.s) ∧ W.cell? ((a.add (i * 6)).add 5) = some (.bool v.g)) ∧ Tg W W.heap.size v.a v.ts ∧ v.ts.length ≤ 9223372036854775807 ∧ v.s.size ≤ 9223372036854775807 := by
      intro i
      by_cases hlt : i < len
      · obtain ⟨cs', hcells, ht⟩ := hi i (by omega)
        obtain ⟨k, t, u, va, vc, ts, s, g, rfl, hT, hl1, hl2⟩ := cells_ver ht
        rw [hc] at hcells
        obtain ⟨_, _, hat⟩ := World.cells?_some hcells
        refine ⟨⟨k, t, u, va, vc, ts, s, g⟩, fun _ => ⟨⟨?_, ?_, ?_, ?_, ?_, ?_⟩, hT, hl1, by unfold maxLen at hl2; simp only; omega⟩⟩
        · have := hat 0 (by omega)
          simpa [Addr.add] using this
        · have := hat 1 (by omega)
          simpa using this
        · have := hat 2 (by omega)
          simpa using this
        · have := hat 3 (by omega)
          simpa using this
        · have := hat 4 (by omega)
          simpa using this
        · have := hat 5 (by omega)
          simpa using this
      · exact ⟨⟨0, 0, 0, none, 0, [], ⟨#[]⟩, false⟩, fun h => absurd h hlt⟩
    obtain ⟨f, hf⟩ := Classical.axiomOfChoice hall
    refine ⟨some a, m, (List.range len).map f, by simpa using hcs, ?_, by simp; unfold maxLen at hm; omega, fun v hv => ?_⟩
    · by_cases h0 : len = 0
      · subst h0; exact .inl (by simp)
      · obtain ⟨b, off, spot⟩ := a
        have hc0 := (hf 0 (by omega)).1.1
        have hspot : spot = none := by simpa [Addr.add] using World.cell?_spot hc0
        subst hspot
        refine .inr ⟨b, off, rfl, ?_, fun i y hy => ?_⟩
        · apply Classical.byContradiction
          intro hn
          have : W.heap[b]? = none := Array.getElem?_eq_none (by omega)
          simp [Addr.add, World.cell?, this] at hc0
        · simp only [List.getElem?_map, Option.map_eq_some_iff] at hy
          obtain ⟨j, hj, rfl⟩ := hy
          have hji := List.getElem?_eq_some_iff.1 hj
          obtain ⟨hlt, e⟩ := hji
          simp at hlt e
          subst e
          have h1 := hf i hlt
          have e1 : (⟨b, off, none⟩ : Addr).add (i * 6) = ⟨b, off + i * 6, none⟩ := by
            unfold Addr.add
            by_cases hi0 : i * 6 = 0
            · simp [hi0]
            · simp [hi0]
          rw [e1] at h1
          obtain ⟨⟨q0, q1, q2, q3, q4, q5⟩, hT, _⟩ := h1
          exact ⟨⟨q0, by simpa [Addr.add] using q1, by simpa [Addr.add] using q2, by simpa [Addr.add] using q3, by simpa [Addr.add] using q4, by simpa [Addr.add] using q5⟩, hT⟩
    · simp only [List.mem_map, List.mem_range] at hv
      obtain ⟨i, hi', rfl⟩ := hv
      exact (hf i hi').2.2
set_option maxRecDepth 100000 in
/-- A store that came in. -/
theorem read_store {H : Type} {enc : TypeId × Value → H} {W : World} {base : Nat} {v : Value} {d : DataW H} {p : List MemPlace}
    (hv : Value.okWide Try.prog W .any base 37 v) (h : DataW.Trod enc Try.prog W 0 (fun _ => true) true 37 v d p) :
    ∃ (a : Option Addr) (cap : Nat) (vs : List V), v = .agg #[.slice a vs.length cap] ∧ Vg W W.heap.size a vs ∧ vs.length ≤ 9223372036854775807 ∧ ∀ v ∈ vs, v.ts.length ≤ 9223372036854775807 ∧ v.s.size ≤ 9223372036854775807 := by
  obtain ⟨cs, rfl, hsz⟩ := okWide_struct Try.underlying37 hv
  have hc : Try.prog.cellsOf 37 = 1 := by kernel_rfl
  have hk : Try.prog.cellsOf 35 = 1 := by kernel_rfl
  obtain ⟨l⟩ := cs
  match l, hsz.trans hc with
  | [c0], _ =>
    obtain ⟨fuel, hf⟩ := h
    obtain ⟨xs, n, _, _, _, hlen, hg⟩ := DataW.trod_struct Try.underlying37 hf
    have h0 := hg 0 _ rfl
    simp [Value.cells, hk] at h0
    match xs, hlen with
    | [y0], _ =>
      simp at h0
      obtain ⟨a, cap, vs, e, hg, hl⟩ := read_vers h0
      simp at e
      exact ⟨a, cap, vs, by rw [e], hg, hl⟩
end Go.Proofs.Ytkkjhfgjjakmfaa
