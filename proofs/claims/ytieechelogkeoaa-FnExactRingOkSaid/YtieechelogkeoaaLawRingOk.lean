/- The law FnExactRingOk holds: for every ring the program's RingOk answers as the model's, and leaves its argument as it was. No condition. -/
import Derived.Test.YtieechelogkeoaaLiftR
import Derived.Test.YtieechelogkeoaaRings
import Derived.Test.YtieechelogkeoaaReg
namespace Go.Proofs.Ytieechelogkeoaa.LawRingOk
open Go.ChangeShapes Go.WideShapes Go.ChangeAt Go.RowKit Go.Joins
attribute [local go_sem ↓] Go.wp_at_zero Go.wp_at_succ

set_option maxRecDepth 100000 in
set_option maxHeartbeats 2000000 in
theorem walk (a : Option Addr) (c : Nat) (ss : List ByteArray) (w : World) (hv : Sg w w.heap.size a ss) (hl : ss.length ≤ 9223372036854775807) (hm0 : ∀ s ∈ ss, s.size ≤ 9223372036854775807) :
    Calls Try.prog 5 #[.agg #[.slice a ss.length c]] w fun e w' => e = .returned (.bool true) ∧ Below w.heap.size w w' := by
  have S0 := (Inv.start w).box 42 #[.slice a ss.length c]
  simp only [World.size_alloc] at S0
  have HM := hide hm0
  clear hm0
  by_cases hsum : ss.length + totS ss ≤ 1048576
  · have hn : ss.length ≤ 1048576 := by omega
    go_enter Try.func5, Try.ntmps5
    go_wp2_with fail
    refine (szRing_fits a c ss 1048576 _ (by omega) (by omega) ((hv.on S0.below).up S0.base)).mono ?_
    rintro e w1 ⟨rfl, hb1⟩
    have S1 := S0.on hb1
    have k1 := (S1.nth 0 rfl).one.1
    have hp : ¬ ((1048576 : Int) - (ss.length : Int) - (totS ss : Int) < 0) := by omega
    clear S0 hb1
    go_wp2_with fail
    refine (toRing_any a c ss _ hn ((hv.on S1.below).up S1.base)).mono ?_
    rintro e w2 ⟨g2, rfl, hR2, hb2⟩
    have S2 := S1.on hb2
    clear S1 k1 hb2
    go_wp2_with fail
    refine (specRingOk_any _ _ ss _ hn HM.out hR2).mono ?_
    rintro e w3 ⟨rfl, hb3⟩
    have S3 := S2.on hb3
    have k3 := (S3.nth 0 rfl).one.1
    clear S2 hR2 hb3
    go_wp2_with fail
    refine (toRing_any a c ss _ hn ((hv.on S3.below).up S3.base)).mono ?_
    rintro e w4 ⟨g4, rfl, hR4, hb4⟩
    have S4 := ((S3.on hb4).top).box 45 #[.slice (some ⟨g4, 0, none⟩) ss.length ss.length]
    have LA := below_alloc1 w4 (.cells #[.slice (some ⟨g4, 0, none⟩) ss.length ss.length] 45)
    have R4 := (hR4.on LA).up LA.size
    clear S3 k3 hR4 LA hb4
    go_wp2_with fail
    generalize w4.alloc (.cells #[.slice (some ⟨g4, 0, none⟩) ss.length ss.length] 45) = W4 at S4 R4 ⊢
    refine (implRingOk_any (some ⟨g4, 0, none⟩) ss.length ss W4 hn HM.out R4).mono ?_
    rintro e w5 ⟨rfl, hb5⟩
    have S5 := S4.on hb5
    have R5 := hide ((R4.on hb5).up hb5.size)
    clear S4 R4 hb5
    go_wp2_with fail
    refine wp_region_noPanic ?_
    refine wp_region_held_drew (S := (fun w' => w'.cell? ⟨w4.heap.size, 0, none⟩ = some (.slice (some ⟨g4, 0, none⟩) ss.length ss.length) ∧ w'.cell? ⟨w.heap.size, 0, none⟩ = some (.slice a ss.length c) ∧ Inv w W4.heap.size [(w4.heap.size, 45, #[.slice (some ⟨g4, 0, none⟩) ss.length ss.length]), (w.heap.size, 42, #[.slice a ss.length c])] w' ∧ Hid (Sg w' w'.heap.size (some ⟨g4, 0, none⟩) ss))) (by kernel_rfl) (by exact ⟨(S5.nth 0 rfl).at 0, (S5.nth 1 rfl).at 0, S5.drew, (R5.out.on (Below.refl _ _).drew)⟩) (fun hHeld => ?_)
    refine take_run 0 (some 22) (v := ?_) rfl rfl (by kernel_rfl) (by kernel_rfl) (by kernel_rfl) (fun _ _ _ h => h) (by rfl) ?_ hHeld ?_
    rotate_left
    · ((intro w hSw); (try dsimp only at hSw); go_simp <;> with_reducible rfl)
    simp only [Act.put, List.setIfInBounds_toArray, List.set_cons_zero, List.set_cons_succ]
    refine take_run 1 (some 23) (v := ?_) rfl rfl (by kernel_rfl) (by kernel_rfl) (by kernel_rfl) (fun _ _ _ h => h) (by rfl) ?_ hHeld ?_
    rotate_left
    · ((intro w hSw); (try dsimp only at hSw); go_simp <;> with_reducible rfl)
    simp only [Act.put, List.setIfInBounds_toArray, List.set_cons_zero, List.set_cons_succ]
    refine take_one 2 (by kernel_rfl) rfl (fun K hK => ?_)
    go_simp
    (refine (toRing_any a c ss _ hn ((hv.on hHeld.2.2.1.below).up hHeld.2.2.1.base)).mono ?_; rintro e w6 ⟨g6, rfl, hR6, hb⟩)
    try go_wp2_with fail
    refine hK.out _ _ (by exact ⟨((hHeld.2.2.1.on hb).nth 0 rfl).at 0, ((hHeld.2.2.1.on hb).nth 1 rfl).at 0, hHeld.2.2.1.on hb, ((hHeld.2.2.2.out.on hb).up hb.size)⟩) (fun hHeld => ?_)
    clear hK K
    refine take_one 3 (by kernel_rfl) rfl (fun K hK => ?_)
    go_simp
    (refine (eqRing_same _ _ _ _ ss.length ss _ hn rfl hHeld.2.2.2.out hR6).mono ?_; rintro e w7 ⟨rfl, hb⟩)
    try go_wp2_with fail
    refine hK.out _ _ (by exact ⟨((hHeld.2.2.1.on hb).nth 0 rfl).at 0, ((hHeld.2.2.1.on hb).nth 1 rfl).at 0, hHeld.2.2.1.on hb, ((hHeld.2.2.2.out.on hb).up hb.size)⟩) (fun hHeld => ?_)
    clear hK K
    refine take_run 4 (some 26) (v := ?_) rfl rfl (by kernel_rfl) (by kernel_rfl) (by kernel_rfl) (fun _ _ _ h => h) (by rfl) ?_ hHeld ?_
    rotate_left
    · ((intro w hSw); (try dsimp only at hSw); go_simp <;> with_reducible rfl)
    simp only [Act.put, List.setIfInBounds_toArray, List.set_cons_zero, List.set_cons_succ]
    refine wpAnyH_done (by kernel_rfl) ?_ _
    refine NoPanic.normal ?_
    have S6 := hHeld.2.2.1
    clear hHeld
    go_wp2
    go_ret
    exact ⟨rfl, S6.below⟩
  · go_enter Try.func5, Try.ntmps5
    go_wp2_with fail
    refine (szRing_not a c ss 1048576 _ (by omega) (by omega) hl HM.out (by omega) ((hv.on S0.below).up S0.base)).mono ?_
    rintro e w1 ⟨rfl, hb1⟩
    have S1 := S0.on hb1
    clear S0
    go_wp2
    go_ret
    exact ⟨rfl, S1.below⟩

set_option maxRecDepth 100000 in
theorem lifted (os : Os) (started : os.Started) (H : Type) (enc : TypeId × Value → H) :
    ReturnsInHanded {} Try.checked os 5 .any (Rows.fnExactRingOkSpec.pre6 enc Try.prog Try.f5 Rows.fnExactRingOkRow.domain false) (Rows.fnExactRingOkSpec.post enc Try.prog Try.f5 false true false false) := by
  refine returnsInHanded_of_change (C := Try.checked) own started (by kernel_rfl) Try.func5
    (ChangeSpec.witness6 (enc := enc) (C := Try.checked) false ⟨#[], #[.agg #[.slice none 0 0]], []⟩ 8 (by kernel_rfl) (by kernel_rfl) (by kernel_rfl) (by kernel_rfl)) ?_
  intro W base args ds gs before hval0 hW hcnd _
  have hval : ∀ (j : Nat) t v, Try.f5.params[j]? = some t → args[j]? = some v → Value.okWide Try.prog W .any base t v := hval0
  have hW' := hW
  obtain ⟨p, q, hA0, hV, rfl, hfz, hnd⟩ := hW
  have hA : DataW.TrodAll enc Try.prog W 0 (fun _ => true) true Try.f5.params.toList args.toList ds p := hA0
  rw [Try.params5] at hA hval
  have hK := hA
  obtain ⟨v0, vs0, d0, ds0, p0, q0, hargs, rfl, rfl, h0, r0⟩ := trodAll_cons hA
  obtain ⟨rfl, rfl, rfl⟩ := trodAll_nil r0
  obtain rfl : args = #[v0] := by cases args; simp_all
  obtain ⟨rfl, rfl⟩ := trodVars_none hV
  obtain ⟨a0, cap0, z0, rfl, b0⟩ := read_ring (hval 0 42 v0 rfl rfl) h0
  clear hA0 hval0
  refine (walk a0 cap0 z0 W b0.1 b0.2.1 b0.2.2).mono fun e W' ⟨he, hb⟩ => ?_
  subst he
  have hK' := stay_all hb (by intro t ht; simp only [List.mem_cons, List.not_mem_nil, or_false] at ht; rcases ht with rfl <;> exact ⟨by kernel_rfl, of_decide_eq_true (by kernel_rfl)⟩) hK
  exact ⟨_, rfl, _, _, _, [], _, [], hW', trodAll_mk1 (shut_bool Try.underlying4 _), hK', rfl, hb.frame _, fun h => by cases h⟩

theorem over : Rows.fnExactRingOkRow.holds Try.pinned (OpenSpec.ofChange Rows.fnExactRingOkSpec) :=
  OpenClaim.holds_of_wide 5 Try.f5 rfl rfl rfl rfl rfl rfl rfl ⟨rfl, rfl, rfl, rfl, rfl⟩ rfl rfl rfl rfl rfl (by kernel_rfl) Try.func5
    (by refine joined_of ?_; kernel_rfl) (of_decide_eq_true (by kernel_rfl)) (by unfold Func.isWrapper; first | (rw [if_pos (by decide +kernel)]; kernel_rfl) | (rw [if_neg (by decide +kernel)]; exact ⟨rfl, rfl⟩))
    (fun os started H enc _ => lifted os started H enc)
end Go.Proofs.Ytieechelogkeoaa.LawRingOk
namespace Go.Proofs.Ytieechelogkeoaa
/-- The statement itself. -/
theorem fnExactRingOk_holds : Rows.FnExactRingOkSaid := LawRingOk.over
#print axioms fnExactRingOk_holds
end Go.Proofs.Ytieechelogkeoaa
namespace Go.Proofs.Ytieechelogkeoaa.LawRingOk
end Go.Proofs.Ytieechelogkeoaa.LawRingOk
