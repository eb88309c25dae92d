/- Bytes that came in: each can be read. -/
import Derived.Test.YtdkpikemlpfepaaDoorLift0
import Derived.Test.YtdkpikemlpfepaaDoorDrawTags
namespace Go.Proofs.YtdkpikemlpfepaaDoor
open Go.ChangeShapes Go.WideShapes Go.ChangeAt Go.RowKit Go.Joins

set_option maxRecDepth 100000 in
/-- Bytes that came in: each can be read. -/
theorem read_bytes {H : Type} {enc : TypeId × Value → H} {W : World} {base : Nat} {v : Value} {d : DataW H} {p : List MemPlace}
    (hv : Value.okWide Tryd.prog W .any base 22 v) (h : DataW.Trod enc Tryd.prog W 0 (fun _ => true) true 22 v d p) :
    ∃ (a : Option Addr) (len cap : Nat), v = .slice a len cap ∧ Code0 W a len cap := by
  obtain ⟨a, len, cap, rfl⟩ := okWide_slice Tryd.underlying22 hv
  refine ⟨a, len, cap, rfl, ?_⟩
  obtain ⟨fuel, hf⟩ := h
  rcases open_ints Tryd.underlying22 Tryd.underlying5 (by kernel_rfl) hf with ⟨hcs, _⟩ | ⟨x, l, c, zs, hcs, _, hl, hm, hz, _, hcell, hwz⟩
  · simp [Value.cells] at hcs
    obtain ⟨rfl, rfl, rfl⟩ := hcs
    exact ⟨Nat.le_refl _, .inl rfl⟩
  · simp [Value.cells] at hcs
    obtain ⟨rfl, rfl, rfl⟩ := hcs
    refine ⟨hl, ?_⟩
    by_cases h0 : len = 0
    · exact .inl h0
    · have hzl : zs.length = cap := by simpa using hz
      obtain ⟨b, off, spot⟩ := x
      have hc0 := hcell 0 (by omega)
      have hspot : spot = none := by simpa [Addr.add] using World.cell?_spot hc0
      subst hspot
      refine .inr ⟨b, off, rfl, ?_, fun i hi => ?_⟩
      · apply Classical.byContradiction
        intro hn
        have : W.heap[b]? = none := Array.getElem?_eq_none (by omega)
        simp [Addr.add, World.cell?, this] at hc0
      · have hci := hcell i (by omega)
        have hmem : zs.getD i 0 ∈ zs := by
          rw [List.getD_eq_getElem?_getD, List.getElem?_eq_getElem (by omega)]
          exact List.getElem_mem _
        have hb := hwz _ hmem
        refine ⟨zs.getD i 0, ?_, ?_, ?_⟩
        · have := bounds_u8 hb; omega
        · have := bounds_u8 hb; omega
        · rw [← hci]
          unfold Addr.add
          by_cases hi0 : i = 0
          · simp [hi0]
          · simp [hi0]

end Go.Proofs.YtdkpikemlpfepaaDoor
