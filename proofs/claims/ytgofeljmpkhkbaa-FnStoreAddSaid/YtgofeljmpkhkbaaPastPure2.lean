/- Plain facts on vectors that are joined. -/
import Derived.Test.YtgofeljmpkhkbaaPastPure
namespace Go.Proofs.Ytgofeljmpkhkbaa

theorem mxp_comm (x y : Int × Int) : mxp x y = mxp y x := by
  obtain ⟨x1, x2⟩ := x
  obtain ⟨y1, y2⟩ := y
  unfold mxp mxT mxP lessB
  simp only [Prod.mk.injEq, decide_eq_true_eq]
  split <;> split <;> omega
theorem mxp_ge (x y : Int × Int) : lessB (mxp x y).1 (mxp x y).2 x.1 x.2 = false := by
  obtain ⟨x1, x2⟩ := x
  obtain ⟨y1, y2⟩ := y
  unfold mxp mxT mxP lessB
  simp only [decide_eq_true_eq, decide_eq_false_iff_not]
  split <;> omega
theorem mxp_or (x y : Int × Int) : mxp x y = x ∨ mxp x y = y := by
  unfold mxp mxT mxP
  split
  · exact .inr rfl
  · exact .inl rfl
theorem join_eq {ts us : List (Int × Int)} (ht : pastB ts = true) (hu : pastB us = true) : joinL ts us = mxL ts us := by unfold joinL; simp [ht, hu]
theorem join_ok {ts us : List (Int × Int)} (ht : pastB ts = true) (hu : pastB us = true) : pastB (joinL ts us) = true := by
  rw [join_eq ht hu]
  have e1 : ∀ x ∈ ts, okB x.1 x.2 = true := by
    unfold pastB at ht
    rw [Bool.and_eq_true, List.all_eq_true] at ht
    exact ht.2
  have e2 : ∀ x ∈ us, okB x.1 x.2 = true := by
    unfold pastB at hu
    rw [Bool.and_eq_true, List.all_eq_true] at hu
    exact hu.2
  obtain ⟨x0, x1, x2, x3, rfl⟩ := four_of ht
  obtain ⟨y0, y1, y2, y3, rfl⟩ := four_of hu
  have key : ∀ x y : Int × Int, okB x.1 x.2 = true → okB y.1 y.2 = true → okB (mxp x y).1 (mxp x y).2 = true := fun x y hx hy => by
    rcases mxp_or x y with h | h <;> rw [h] <;> assumption
  unfold pastB mxL
  simp only [List.zipWith_cons_cons, List.zipWith_nil_right, List.length_cons, List.length_nil, List.all_cons, List.all_nil, Bool.and_true]
  rw [key x0 y0 (e1 _ (by simp)) (e2 _ (by simp)), key x1 y1 (e1 _ (by simp)) (e2 _ (by simp)), key x2 y2 (e1 _ (by simp)) (e2 _ (by simp)), key x3 y3 (e1 _ (by simp)) (e2 _ (by simp))]
  rfl
theorem join_comm {ts us : List (Int × Int)} (ht : pastB ts = true) (hu : pastB us = true) : joinL us ts = joinL ts us := by
  rw [join_eq ht hu, join_eq hu ht]
  obtain ⟨x0, x1, x2, x3, rfl⟩ := four_of ht
  obtain ⟨y0, y1, y2, y3, rfl⟩ := four_of hu
  simp [mxL, mxp_comm y0 x0, mxp_comm y1 x1, mxp_comm y2 x2, mxp_comm y3 x3]
theorem within_join {ts us : List (Int × Int)} (ht : pastB ts = true) (hu : pastB us = true) : pwB ts (joinL ts us) = true := by
  rw [pw_iff ht (join_ok ht hu)]
  intro i x z hx hz
  have hl := pw_same ht hu
  have hi := (List.getElem?_eq_some_iff.1 hx).1
  have hy := List.getElem?_eq_getElem (l := us) (i := i) (by omega)
  rw [join_eq ht hu, mxL_at hx hy] at hz
  injection hz with hz
  subst hz
  exact mxp_ge x _
theorem join_self {ts : List (Int × Int)} (ht : pastB ts = true) : joinL ts ts = ts := by
  have h := pw_join ht ht
  have h2 : pwB ts ts = true := by
    have := pw_both ht ht
    rw [decide_eq_true rfl] at this
    cases hq : pwB ts ts
    · rw [hq] at this; cases this
    · rfl
  rw [h2] at h
  exact of_decide_eq_true h
theorem join_none {ts : List (Int × Int)} (ht : pastB ts = true) : joinL ts z4 = ts := by
  have hz : pastB z4 = true := by decide
  rw [← join_comm ht hz]
  have h := pw_join hz ht
  rw [pw_none ht] at h
  exact of_decide_eq_true h
end Go.Proofs.Ytgofeljmpkhkbaa
