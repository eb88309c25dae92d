/- Plain facts on vectors: within, joined, the same. -/
import Derived.Test.YtgofeljmpkhkbaaPastRes
import Derived.Test.YtgofeljmpkhkbaaPastWithin
namespace Go.Proofs.Ytgofeljmpkhkbaa

theorem mxp_eq (x y : Int × Int) : mxp x y = y ↔ lessB y.1 y.2 x.1 x.2 = false := by
  obtain ⟨x1, x2⟩ := x
  obtain ⟨y1, y2⟩ := y
  unfold mxp mxT mxP lessB
  simp only [Prod.mk.injEq, decide_eq_true_eq, decide_eq_false_iff_not]
  split <;> omega
theorem less_anti (x y : Int × Int) : (lessB y.1 y.2 x.1 x.2 = false ∧ lessB x.1 x.2 y.1 y.2 = false) ↔ x = y := by
  obtain ⟨x1, x2⟩ := x
  obtain ⟨y1, y2⟩ := y
  unfold lessB
  simp only [Prod.mk.injEq, decide_eq_false_iff_not]
  omega
theorem pw_iff {ts us : List (Int × Int)} (ht : pastB ts = true) (hu : pastB us = true) : pwB ts us = true ↔ ∀ (i : Nat) x y, ts[i]? = some x → us[i]? = some y → lessB y.1 y.2 x.1 x.2 = false := by
  unfold pwB withinB
  rw [ht, hu]
  simp only [Bool.and_self, Bool.true_and, List.all_eq_true, Bool.not_eq_true']
  constructor
  · intro h i x y hx hy
    exact h (x, y) (List.mem_of_getElem? (i := i) (by rw [List.getElem?_zip_eq_some]; exact ⟨hx, hy⟩))
  · intro h p hp
    obtain ⟨i, hi⟩ := List.getElem?_of_mem hp
    rw [List.getElem?_zip_eq_some] at hi
    exact h i p.1 p.2 hi.1 hi.2
theorem pw_same {ts us : List (Int × Int)} (ht : pastB ts = true) (hu : pastB us = true) : ts.length = us.length := by
  obtain ⟨x0, x1, x2, x3, rfl⟩ := four_of ht
  obtain ⟨y0, y1, y2, y3, rfl⟩ := four_of hu
  rfl
/-- Causes are within others just if they add nothing to them. -/
theorem pw_join {ts us : List (Int × Int)} (ht : pastB ts = true) (hu : pastB us = true) : decide (joinL ts us = us) = pwB ts us := by
  have hl := pw_same ht hu
  have e : joinL ts us = mxL ts us := by unfold joinL; simp [ht, hu]
  rw [e, Bool.eq_iff_iff, decide_eq_true_eq, pw_iff ht hu]
  constructor
  · intro h i x y hx hy
    have := mxL_at hx hy
    rw [h, hy] at this
    injection this with this
    exact (mxp_eq x y).1 this.symm
  · intro h
    apply List.ext_getElem?
    intro i
    by_cases hi : i < ts.length
    · have hx := List.getElem?_eq_getElem hi
      have hy := List.getElem?_eq_getElem (l := us) (i := i) (by omega)
      rw [mxL_at hx hy, (mxp_eq _ _).2 (h i _ _ hx hy), hy]
    · rw [List.getElem?_eq_none (by unfold mxL; rw [List.length_zipWith]; omega), List.getElem?_eq_none (by omega)]
/-- Both ways just if they are the same. -/
theorem pw_both {ts us : List (Int × Int)} (ht : pastB ts = true) (hu : pastB us = true) : decide (ts = us) = (pwB ts us && pwB us ts) := by
  have hl := pw_same ht hu
  rw [Bool.eq_iff_iff, decide_eq_true_eq, Bool.and_eq_true, pw_iff ht hu, pw_iff hu ht]
  constructor
  · rintro rfl
    have : ∀ (i : Nat) x y, ts[i]? = some x → ts[i]? = some y → lessB y.1 y.2 x.1 x.2 = false := fun i x y hx hy => by
      rw [hx] at hy
      injection hy with hy
      subst hy
      exact ((less_anti x x).2 rfl).1
    exact ⟨this, this⟩
  · rintro ⟨h1, h2⟩
    apply List.ext_getElem?
    intro i
    by_cases hi : i < ts.length
    · have hx := List.getElem?_eq_getElem hi
      have hy := List.getElem?_eq_getElem (l := us) (i := i) (by omega)
      rw [hx, hy, (less_anti _ _).1 ⟨h1 i _ _ hx hy, h2 i _ _ hy hx⟩]
    · rw [List.getElem?_eq_none (by omega), List.getElem?_eq_none (by omega)]
theorem pw_none {ts : List (Int × Int)} (ht : pastB ts = true) : pwB z4 ts = true := by
  have hz : pastB z4 = true := by decide
  rw [pw_iff hz ht]
  intro i x y hx hy
  have hx' : x = (0, 0) := by
    have := List.mem_of_getElem? hx
    simpa using this
  have hy' : okB y.1 y.2 = true := by
    unfold pastB at ht
    rw [Bool.and_eq_true, List.all_eq_true] at ht
    exact ht.2 y (List.mem_of_getElem? hy)
  have := okB_i hy'
  subst hx'
  unfold lessB
  exact decide_eq_false (by omega)
end Go.Proofs.Ytgofeljmpkhkbaa
