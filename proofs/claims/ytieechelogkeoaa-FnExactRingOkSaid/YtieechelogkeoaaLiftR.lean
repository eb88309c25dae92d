/- A ring that came in: its names can be read. -/
import Derived.Test.YtieechelogkeoaaLift0
import Derived.Test.YtieechelogkeoaaStrs
import Derived.Deep.Strs
namespace Go.Proofs.Ytieechelogkeoaa
open Go.ChangeShapes Go.WideShapes Go.ChangeAt Go.RowKit Go.Joins

set_option maxRecDepth 100000 in
theorem read_strs {H : Type} {enc : TypeId × Value → H} {W : World} {fuel : Nat} {cs : List Value} {x : DataW H × List MemPlace}
    (h : DataW.trod enc Try.prog W 0 (fun _ => true) true fuel 40 cs = some x) :
    ∃ (a : Option Addr) (cap : Nat) (ss : List ByteArray), cs = [.slice a ss.length cap] ∧ Sg W W.heap.size a ss ∧ ss.length ≤ 9223372036854775807 ∧ ∀ s ∈ ss, s.size ≤ 9223372036854775807 := by
  rcases Go.Deep.open_strs Try.underlying40 Try.underlying9 (by kernel_rfl) h with ⟨h0, _⟩ | ⟨a, len, cap, m, Sx, hcs, _, hl, hm, hmm, _, hi⟩
  · exact ⟨none, 0, [], h0, .inl rfl, by simp, fun s hs => by simp at hs⟩
  · simp only [if_true] at hmm
    subst hmm
    refine ⟨some a, m, (List.range len).map Sx, by simpa using hcs, ?_, by simp; unfold maxLen at hm; omega, fun s hs => ?_⟩
    · by_cases h0 : len = 0
      · subst h0; exact .inl (by simp)
      · obtain ⟨b, off, spot⟩ := a
        have hc0 := (hi 0 (by omega)).1
        have hspot : spot = none := by simpa [Addr.add] using World.cell?_spot hc0
        subst hspot
        refine .inr ⟨b, off, rfl, ?_, fun i y hy => ?_⟩
        · apply Classical.byContradiction
          intro hn
          have : W.heap[b]? = none := Array.getElem?_eq_none (by omega)
          simp [Addr.add, World.cell?, this] at hc0
        · simp only [List.getElem?_map, Option.map_eq_some_iff] at hy
          obtain ⟨j, hj, rfl⟩ := hy
          obtain ⟨hlt, e⟩ := List.getElem?_eq_some_iff.1 hj
          simp at hlt e
          subst e
          have h1 := (hi i (by omega)).1
          have e1 : (⟨b, off, none⟩ : Addr).add i = ⟨b, off + i, none⟩ := by
            unfold Addr.add
            by_cases hi0 : i = 0
            · simp [hi0]
            · simp [hi0]
          rw [e1] at h1
          exact h1
    · simp only [List.mem_map, List.mem_range] at hs
      obtain ⟨i, hlt, rfl⟩ := hs
      have := (hi i (by omega)).2
      unfold maxLen at this
      omega
set_option maxRecDepth 100000 in
theorem read_ring {H : Type} {enc : TypeId × Value → H} {W : World} {base : Nat} {v : Value} {d : DataW H} {p : List MemPlace}
    (hv : Value.okWide Try.prog W .any base 42 v) (h : DataW.Trod enc Try.prog W 0 (fun _ => true) true 42 v d p) :
    ∃ (a : Option Addr) (cap : Nat) (ss : List ByteArray), v = .agg #[.slice a ss.length cap] ∧ Sg W W.heap.size a ss ∧ ss.length ≤ 9223372036854775807 ∧ ∀ s ∈ ss, s.size ≤ 9223372036854775807 := by
  obtain ⟨cs, rfl, hsz⟩ := okWide_struct Try.underlying42 hv
  have hc : Try.prog.cellsOf 42 = 1 := by kernel_rfl
  have hk : Try.prog.cellsOf 40 = 1 := by kernel_rfl
  obtain ⟨l⟩ := cs
  match l, hsz.trans hc with
  | [c0], _ =>
    obtain ⟨fuel, hf⟩ := h
    obtain ⟨xs, n, _, _, _, hlen, hg⟩ := DataW.trod_struct Try.underlying42 hf
    have h0 := hg 0 _ rfl
    simp [Value.cells, hk] at h0
    match xs, hlen with
    | [y0], _ =>
      simp at h0
      obtain ⟨a, cap, ts, e, ht, hl⟩ := read_strs h0
      simp at e
      exact ⟨a, cap, ts, by rw [e], ht, hl⟩
end Go.Proofs.Ytieechelogkeoaa
