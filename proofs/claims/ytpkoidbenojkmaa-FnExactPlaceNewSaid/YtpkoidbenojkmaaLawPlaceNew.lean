/- The law FnExactPlaceNew holds: the program's PlaceNew answers as the model's, in memory of its own. No condition. -/
import Derived.Test.YtpkoidbenojkmaaLift3
import Derived.Test.YtpkoidbenojkmaaPlaceNew
import Derived.Test.YtpkoidbenojkmaaReg
namespace Go.Proofs.Ytpkoidbenojkmaa.LawPlaceNew
open Go.ChangeShapes Go.WideShapes Go.ChangeAt Go.RowKit Go.Joins
attribute [local go_sem ↓] Go.wp_at_zero Go.wp_at_succ

theorem plN_le (me n : Int) : plN me n ≤ 4 := by
  unfold plN
  by_cases h : okP me n
  · rw [if_pos h]
    unfold okP at h
    omega
  · rw [if_neg h]
    omega
set_option maxRecDepth 100000 in
set_option maxHeartbeats 4000000 in
theorem walk (me n : Int) (w : World) : Calls Try.prog 3 #[.int .i64 me, .int .i64 n] w fun e w' => e = .returned (.bool true) ∧ Below w.heap.size w w' := by
  have h4 := plN_le me n
  have HI : Hid (∀ W, Calls Try.prog 6 #[.int .i64 me, .int .i64 n] W (NewP W me n)) := implPlaceNew_any me n
  go_enter Try.func3, Try.ntmps3
  go_wp2_with fail
  refine (specPlaceNew_any me n w).mono ?_
  rintro e w1 ⟨A1, cap1, gs1, ga1, rfl, hl1, hR1, hb1⟩
  generalize hm : plN me n = m at *
  generalize hq : plMe me n = me' at *
  generalize hg : plG me n = gn at *
  have EM := hide hm
  have EQ := hide hq
  have EG := hide hg
  clear hm hq hg
  have z1 := hb1.size
  have HL1 := hide (show (gs1.map nd0).length = m by rw [List.length_map]; exact hl1)
  have R1 := hR1.alloc (.cells (plC me' A1 m cap1 ga1 gn) 28)
  have S1 := ((Inv.start w).on hb1).top.box 28 (plC me' A1 m cap1 ga1 gn)
  clear hR1 hb1 hl1
  go_wp2_with fail
  generalize hW1 : w1.alloc (.cells (plC me' A1 m cap1 ga1 gn) 28) = W1 at R1 S1 ⊢
  have zW1 : w1.heap.size < W1.heap.size := by rw [← hW1]; simp
  clear hW1
  refine (HI.out W1).mono ?_
  rintro e w2 ⟨A2, cap2, gs2, ga2, rfl, hl2, hR2, hb2⟩
  rw [EM.out] at hl2
  rw [EG.out] at hR2
  rw [EM.out, EQ.out, EG.out]
  have z2 := hb2.size
  have HL2 := hide (show (gs2.map nd0).length = m by rw [List.length_map]; exact hl2)
  have HWT : Hid (wtNs (gs2.map nd0) = 20 * (m : Int)) := by rw [← hl2]; exact nd0_wt gs2
  have HS2 := hide (nd0_small gs2)
  have R2 := (R1.on hb2).alloc (.cells (plC me' A2 m cap2 ga2 gn) 28)
  have Q2 := hR2.alloc (.cells (plC me' A2 m cap2 ga2 gn) 28)
  have S2 := (S1.on hb2).top.box 28 (plC me' A2 m cap2 ga2 gn)
  have k1 := (S2.nth 1 rfl).six.1
  clear hR2 hb2 hl2 R1 S1
  go_wp2_with fail
  generalize hW2 : w2.alloc (.cells (plC me' A2 m cap2 ga2 gn) 28) = W2 at R2 Q2 S2 k1 ⊢
  have zW2 : w2.heap.size < W2.heap.size := by rw [← hW2]; simp
  clear hW2
  refine (eqPlace_same _ _ _ _ me' A2 A1 cap2 cap1 m (gs2.map nd0) (gs1.map nd0) ga2 ga1 gn W2 (by omega) HL2.out HL1.out nd0_like HS2.out Q2 R2).mono ?_
  rintro e w3 ⟨rfl, hb3⟩
  have z3 := hb3.size
  have S3 := (S2.on hb3).top
  have R3 := R2.on hb3
  have Q3 := Q2.on hb3
  clear S2 R2 Q2 k1 hb3
  have k3 := (S3.nth 0 rfl).six.1
  go_wp2_with fail
  refine (markPlace_any W1.heap.size w2.heap.size me' A2 cap2 m (gs2.map nd0) ga2 gn 1 w3 Q3 (by omega) HL2.out HS2.out (by omega) (by omega) (by have := HWT.out; omega)).mono ?_
  rw [HWT.out]
  rintro e w4 ⟨rfl, Q4, hT4⟩
  have R4 := R3.turn hT4 (fun g h1 h2 h3 => by omega)
  have S4 := S3.turned hT4 (fun g h => by have hq := h.1; omega) (fun x hx h => by
    simp only [List.mem_cons, List.not_mem_nil, or_false] at hx
    rcases hx with rfl | rfl <;> simp only at h <;> omega)
  have z4 := hT4.size
  clear S3 R3 Q3 k3 hT4
  have k4 := (S4.nth 0 rfl).six.1
  have HHELD : Hid (∀ W : World, ResP W W1.heap.size w2.heap.size A2 (mkNs 1 (gs2.map nd0)) ga2 gn → Calls Try.prog 9 #[.agg (plC me' A2 m cap2 ga2 gn), .int .i64 1] W fun e w' => e = .returned (.int .i64 (1 + 20 * (m : Int))) ∧ Below W.heap.size W w') := fun W hR => by
    have := heldPlace_any W1.heap.size w2.heap.size me' A2 cap2 m (gs2.map nd0) ga2 gn 1 W hR HL2.out HS2.out (by omega) (by omega) (by have := HWT.out; omega)
    rw [HWT.out] at this
    exact this
  go_wp2_with fail
  refine (HHELD.out w4 Q4).mono ?_
  rintro e w5 ⟨rfl, hb5⟩
  have z5 := hb5.size
  have S5 := (S4.on hb5).top
  have R5 := R4.on hb5
  have Q5 := Q4.on hb5
  clear S4 R4 Q4 hb5 k4
  have hp : ¬ ((1 : Int) + 20 * (m : Int) < 0) := by omega
  have hne : ((1 : Int) + 20 * (m : Int) != 1 + 20 * (m : Int)) = false := by simp
  go_wp2_with fail
  refine (HI.out w5).mono ?_
  rintro e w6 ⟨A6, cap6, gs6, ga6, rfl, hl6, hR6, hb6⟩
  rw [EM.out] at hl6
  rw [EG.out] at hR6
  rw [EM.out, EQ.out, EG.out]
  have z6 := hb6.size
  have HL6 := hide (show (gs6.map nd0).length = m by rw [List.length_map]; exact hl6)
  have R6 := (R5.on hb6).alloc (.cells (plC me' A6 m cap6 ga6 gn) 28)
  have Q6 := (Q5.on hb6).alloc (.cells (plC me' A6 m cap6 ga6 gn) 28)
  have P6 := hR6.alloc (.cells (plC me' A6 m cap6 ga6 gn) 28)
  have S6 := (S5.on hb6).top.box 28 (plC me' A6 m cap6 ga6 gn)
  have k6 := (S6.nth 2 rfl).six.1
  clear hR6 hb6 hl6 R5 S5 Q5
  go_wp2_with fail
  generalize w6.alloc (.cells (plC me' A6 m cap6 ga6 gn) 28) = W6 at R6 Q6 P6 S6 k6 ⊢
  refine (eqPlace_same _ _ _ _ me' A6 A1 cap6 cap1 m (gs6.map nd0) (gs1.map nd0) ga6 ga1 gn W6 (by omega) HL6.out HL1.out nd0_like (nd0_small gs6) P6 R6).mono ?_
  rintro e w7 ⟨rfl, hb7⟩
  have S7 := (S6.on hb7).top
  have Q7 := Q6.on hb7
  clear S6 R6 P6 Q6 k6 hb7
  have k7 := (S7.nth 1 rfl).six.1
  go_wp2_with fail
  refine (HHELD.out w7 Q7).mono ?_
  rintro e w8 ⟨rfl, hb8⟩
  have S8 := (S7.on hb8).top
  clear S7 k7 Q7 hb8
  go_wp2
  go_ret
  exact ⟨rfl, S8.below⟩

set_option maxRecDepth 100000 in
theorem lifted (os : Os) (started : os.Started) (H : Type) (enc : TypeId × Value → H) :
    ReturnsInHanded {} Try.checked os 3 .any (Rows.fnExactPlaceNewSpec.pre6 enc Try.prog Try.f3 Rows.fnExactPlaceNewRow.domain false) (Rows.fnExactPlaceNewSpec.post enc Try.prog Try.f3 false true false false) := by
  refine returnsInHanded_of_change (C := Try.checked) own started (by kernel_rfl) Try.func3
    (ChangeSpec.witness6 (enc := enc) (C := Try.checked) false ⟨#[], #[.int .i64 0, .int .i64 0], []⟩ 8 (by kernel_rfl) (by kernel_rfl) (by kernel_rfl) (by kernel_rfl)) ?_
  intro W base args ds gs before hval0 hW hcnd _
  have hval : ∀ (j : Nat) t v, Try.f3.params[j]? = some t → args[j]? = some v → Value.okWide Try.prog W .any base t v := hval0
  have hW' := hW
  obtain ⟨p, q, hA0, hV, rfl, hfz, hnd⟩ := hW
  have hA : DataW.TrodAll enc Try.prog W 0 (fun _ => true) true Try.f3.params.toList args.toList ds p := hA0
  rw [Try.params3] at hA hval
  have hK := hA
  obtain ⟨v0, vs0, d0, ds0, p0, q0, hargs, rfl, rfl, h0, r0⟩ := trodAll_cons hA
  obtain ⟨v1, vs1, d1, ds1, p1, q1, rfl, rfl, rfl, h1, r1⟩ := trodAll_cons r0
  obtain ⟨rfl, rfl, rfl⟩ := trodAll_nil r1
  obtain rfl : args = #[v0, v1] := by cases args; simp_all
  obtain ⟨rfl, rfl⟩ := trodVars_none hV
  obtain ⟨a0, rfl, rfl, rfl, w0⟩ := open_int Try.underlying3 (hval 0 3 v0 rfl rfl) h0
  obtain ⟨a1, rfl, rfl, rfl, w1⟩ := open_int Try.underlying3 (hval 1 3 v1 rfl rfl) h1
  clear hA0 hval0
  refine (walk a0 a1 W).mono fun e W' ⟨he, hb⟩ => ?_
  subst he
  have hK' := stay_all hb (by intro t ht; simp only [List.mem_cons, List.not_mem_nil, or_false] at ht; rcases ht with rfl | rfl <;> exact ⟨by kernel_rfl, of_decide_eq_true (by kernel_rfl)⟩) hK
  exact ⟨_, rfl, _, _, _, [], _, [], hW', trodAll_mk1 (shut_bool Try.underlying4 _), hK', rfl, hb.frame _, fun h => by cases h⟩

theorem over : Rows.fnExactPlaceNewRow.holds Try.pinned (OpenSpec.ofChange Rows.fnExactPlaceNewSpec) :=
  OpenClaim.holds_of_wide 3 Try.f3 rfl rfl rfl rfl rfl rfl rfl ⟨rfl, rfl, rfl, rfl, rfl⟩ rfl rfl rfl rfl rfl (by kernel_rfl) Try.func3
    (by refine joined_of ?_; kernel_rfl) (of_decide_eq_true (by kernel_rfl)) (by unfold Func.isWrapper; first | (rw [if_pos (by decide +kernel)]; kernel_rfl) | (rw [if_neg (by decide +kernel)]; exact ⟨rfl, rfl⟩))
    (fun os started H enc _ => lifted os started H enc)
end Go.Proofs.Ytpkoidbenojkmaa.LawPlaceNew
namespace Go.Proofs.Ytpkoidbenojkmaa
/-- The statement itself. -/
theorem fnExactPlaceNew_holds : Rows.FnExactPlaceNewSaid := LawPlaceNew.over
#print axioms fnExactPlaceNew_holds
end Go.Proofs.Ytpkoidbenojkmaa
namespace Go.Proofs.Ytpkoidbenojkmaa.LawPlaceNew
end Go.Proofs.Ytpkoidbenojkmaa.LawPlaceNew
