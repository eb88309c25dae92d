/- The law FnExactStoreTags holds: for every store the program's StoreTags answers as the model's, leaves its argument as it was, and answers in memory of its own. No condition. -/
import Derived.Test.YtkkjhfgjjakmfaaLift3
import Derived.Test.YtkkjhfgjjakmfaaStoreCopy
import Derived.Test.YtkkjhfgjjakmfaaStoreTags2
import Derived.Test.YtkkjhfgjjakmfaaReg
namespace Go.Proofs.Ytkkjhfgjjakmfaa.LawStoreTags
open Go.ChangeShapes Go.WideShapes Go.ChangeAt Go.RowKit Go.Joins
attribute [local go_sem ↓] Go.wp_at_zero Go.wp_at_succ

theorem like_both {us us' vs : List V} (hl : us.length = vs.length) (hl' : us'.length = vs.length) (h : Like us vs) (h' : Like us' vs) : Like us us' := fun i v v' hi hi' => by
  have hlt := (List.getElem?_eq_some_iff.1 hi).1
  have hx := List.getElem?_eq_getElem (l := vs) (i := i) (by omega)
  obtain ⟨a1, a2, a3, a4, a5, a6⟩ := h i v _ hi hx
  obtain ⟨b1, b2, b3, b4, b5, b6⟩ := h' i v' _ hi' hx
  exact ⟨a1.trans b1.symm, a2.trans b2.symm, a3.trans b3.symm, a4.trans b4.symm, a5.trans b5.symm, a6.trans b6.symm⟩
theorem small_like {us vs : List V} (hl : us.length = vs.length) (h : Like us vs) (hs : Small vs) : Small us := fun v hv => by
  obtain ⟨i, hi⟩ := List.getElem?_of_mem hv
  have hlt := (List.getElem?_eq_some_iff.1 hi).1
  have hx := List.getElem?_eq_getElem (l := vs) (i := i) (by omega)
  obtain ⟨_, _, _, e4, e5, _⟩ := h i v _ hi hx
  have := hs _ (List.mem_of_getElem? hx)
  rw [e4, e5]
  exact this
theorem tot_like {us vs : List V} (hl : us.length = vs.length) (h : Like us vs) : tot us = tot vs := by
  unfold tot
  congr 1
  apply List.ext_getElem?
  intro i
  rw [List.getElem?_map, List.getElem?_map]
  by_cases hi : i < us.length
  · have h1 := List.getElem?_eq_getElem hi
    have h2 := List.getElem?_eq_getElem (l := vs) (i := i) (by omega)
    obtain ⟨_, _, _, e4, e5, _⟩ := h i _ _ h1 h2
    rw [h1, h2]
    simp [e4, e5]
  · rw [List.getElem?_eq_none (by omega), List.getElem?_eq_none (by omega)]

set_option maxRecDepth 100000 in
set_option maxHeartbeats 8000000 in
theorem walk (a : Option Addr) (c : Nat) (vs : List V) (w : World) (hv : Vg w w.heap.size a vs) (hl : vs.length ≤ 9223372036854775807) (hm0 : ∀ v ∈ vs, v.ts.length ≤ 9223372036854775807 ∧ v.s.size ≤ 9223372036854775807) :
    Calls Try.prog 6 #[.agg #[.slice a vs.length c]] w fun e w' => e = .returned (.bool true) ∧ Below w.heap.size w w' := by
  have S0 := (Inv.start w).box 37 #[.slice a vs.length c]
  simp only [World.size_alloc] at S0
  have HM := hide hm0
  clear hm0
  by_cases hsum : vs.length + tot vs ≤ 1048576
  · have hn : vs.length ≤ 1048576 := by omega
    have SM : Hid (Small vs) := fun v hv => ⟨by have := tot_mem hv; omega, (HM.out v hv).2⟩
    have hrl := tagsR_len vs
    have hp : ¬ ((1048576 : Int) - (vs.length : Int) - (tot vs : Int) < 0) := by omega
    go_enter Try.func6, Try.ntmps6
    go_wp2_with fail
    refine (szStore_fits a c vs 1048576 _ (by omega) (by omega) ((hv.on S0.below).up S0.base)).mono ?_
    rintro e w1 ⟨rfl, hb1⟩
    have S1 := S0.on hb1
    have k1 := (S1.nth 0 rfl).one.1
    have z1 := S1.room
    go_wp2_with fail
    refine (toStore_own a c vs _ hn (fun v hv => (SM.out v hv).1) ((hv.on S1.below).up S1.base)).mono ?_
    rintro e w2 ⟨g2, us2, cur2, rfl, hl2, hli2, hR2, hb2⟩
    have S2 := S1.on hb2
    have HV2 := hide (specStoreTags_any (some ⟨g2, 0, none⟩) vs.length us2 w2 (by omega) (small_like hl2 hli2 SM.out) hR2.vg)
    have E2 := hide (tagsR_like hl2 hli2)
    have HL2 := hide hl2
    have z2 := hb2.size
    clear S0 S1 k1 hR2 hli2 hl2
    go_wp2_with fail
    have C2 := HV2.out
    rw [HL2.out, E2.out] at C2
    refine C2.mono ?_
    rintro e w3 ⟨A3, cap3, rfl, R3, hb3⟩
    have z3 := hb3.size
    have I1 := ((S2.on hb3).top).box 25 #[.slice A3 (tagsR vs).length cap3]
    have R4 := R3.alloc (.cells #[.slice A3 (tagsR vs).length cap3] 25)
    have k3 := (I1.nth 1 rfl).one.1
    clear S2 hb2 hb3 R3 C2 HV2
    go_wp2_with fail
    generalize hW : w3.alloc (.cells #[.slice A3 (tagsR vs).length cap3] 25) = W at I1 R4 k3 ⊢
    have zW : w3.heap.size < W.heap.size := by rw [← hW]; simp
    clear hW
    refine (toStore_own a c vs _ hn (fun v hv => (SM.out v hv).1) ((hv.on I1.below).up I1.base)).mono ?_
    rintro e w4 ⟨g4, us4, cur4, rfl, hl4, hli4, hR4, hb4⟩
    have z4 := hb4.size
    have I2 := ((I1.on hb4).top).box 48 #[.slice (some ⟨g4, 0, none⟩) vs.length vs.length]
    have R5 := (R4.on hb4).alloc (.cells #[.slice (some ⟨g4, 0, none⟩) vs.length vs.length] 48)
    have O5 := hide (hR4.on (below_alloc1 w4 (.cells #[.slice (some ⟨g4, 0, none⟩) vs.length vs.length] 48)))
    have HL4 := hide hl4
    have HI4 := hide hli4
    have glo := hR4.lo
    clear hb4 I1 R4 hR4 k3 hl4 hli4
    go_wp2_with fail
    generalize hW4 : w4.alloc (.cells #[.slice (some ⟨g4, 0, none⟩) vs.length vs.length] 48) = W4 at I2 R5 O5 ⊢
    have zW4 : w4.heap.size < W4.heap.size := by rw [← hW4]; simp
    clear hW4
    have C4 := implStoreTags_any (some ⟨g4, 0, none⟩) vs.length us4 W4 (by have := HL4.out; omega) (small_like HL4.out HI4.out SM.out) O5.out.vg
    rw [HL4.out, tagsR_like HL4.out HI4.out] at C4
    refine C4.mono ?_
    rintro e w5 ⟨A5, cap5, rfl, Q5, hb5⟩
    have z5 := hb5.size
    have I3 := ((I2.on hb5).top).box 25 #[.slice A5 (tagsR vs).length cap5]
    have R6 := (R5.on hb5).alloc (.cells #[.slice A5 (tagsR vs).length cap5] 25)
    have Q6 := Q5.alloc (.cells #[.slice A5 (tagsR vs).length cap5] 25)
    have O6 := hide ((O5.out.on hb5).on (below_alloc1 w5 (.cells #[.slice A5 (tagsR vs).length cap5] 25)))
    have k3 := (I3.nth 2 rfl).one.1
    clear I2 R5 Q5 hb5 O5 C4
    go_wp2_with fail
    generalize hW5 : w5.alloc (.cells #[.slice A5 (tagsR vs).length cap5] 25) = W5 at I3 R6 Q6 O6 k3 ⊢
    have zW5 : w5.heap.size < W5.heap.size := by rw [← hW5]; simp
    clear hW5
    refine (eqPast_any _ _ _ _ (tagsR vs) (tagsR vs) W5 (by omega) (by omega) Q6.tg R6.tg).mono ?_
    rintro e w6 ⟨rfl, hb6⟩
    rw [decide_eq_true rfl]
    have z6 := hb6.size
    have I4 := (I3.on hb6).top
    have R7 := R6.on hb6
    have Q7 := Q6.on hb6
    have O7 := hide (O6.out.on hb6)
    clear I3 R6 Q6 O6 k3 hb6
    go_wp2_with fail
    refine wp_region_noPanic ?_
    refine wp_region_held_drew (S := (fun w' => w'.cell? ⟨w4.heap.size, 0, none⟩ = some (.slice (some ⟨g4, 0, none⟩) vs.length vs.length) ∧ w'.cell? ⟨w.heap.size, 0, none⟩ = some (.slice a vs.length c) ∧ Inv w w6.heap.size [(w5.heap.size, 25, #[.slice A5 (tagsR vs).length cap5]), (w4.heap.size, 48, #[.slice (some ⟨g4, 0, none⟩) vs.length vs.length]), (w3.heap.size, 25, #[.slice A3 (tagsR vs).length cap3]), (w.heap.size, 37, #[.slice a vs.length c])] w' ∧ Hid (ORow w' W.heap.size w4.heap.size g4 us4 cur4) ∧ Res w' w2.heap.size w3.heap.size A3 (tagsR vs) ∧ Res w' W4.heap.size w5.heap.size A5 (tagsR vs))) (by kernel_rfl) (by exact ⟨(I4.nth 1 rfl).at 0, (I4.nth 3 rfl).at 0, I4.drew, O7.out.on (Below.refl _ _).drew, R7.drew, Q7.drew⟩) (fun hHeld => ?_)
    refine take_run 0 (some 27) (v := ?_) rfl rfl (by kernel_rfl) (by kernel_rfl) (by kernel_rfl) (fun _ _ _ h => h) (by rfl) ?_ hHeld ?_
    rotate_left
    · ((intro w hSw); (try dsimp only at hSw); go_simp <;> with_reducible rfl)
    simp only [Act.put, List.setIfInBounds_toArray, List.set_cons_zero, List.set_cons_succ]
    refine take_run 1 (some 28) (v := ?_) rfl rfl (by kernel_rfl) (by kernel_rfl) (by kernel_rfl) (fun _ _ _ h => h) (by rfl) ?_ hHeld ?_
    rotate_left
    · ((intro w hSw); (try dsimp only at hSw); go_simp <;> with_reducible rfl)
    simp only [Act.put, List.setIfInBounds_toArray, List.set_cons_zero, List.set_cons_succ]
    refine take_one 2 (by kernel_rfl) rfl (fun K hK => ?_)
    go_simp
    (refine (toStore_own a c vs _ hn (fun v hv => (SM.out v hv).1) ((hv.on hHeld.2.2.1.below).up hHeld.2.2.1.base)).mono ?_; rintro e w7 ⟨g7, us7, cur7, rfl, hl7, hli7, hR7, hb⟩; have R17 := hide hR7; have HL7 := hide hl7; have HI7 := hide hli7; clear hR7 hl7 hli7)
    try go_wp2_with fail
    refine hK.out _ _ (by exact ⟨((hHeld.2.2.1.on hb).nth 1 rfl).at 0, ((hHeld.2.2.1.on hb).nth 3 rfl).at 0, hHeld.2.2.1.on hb, hHeld.2.2.2.1.out.on hb, hHeld.2.2.2.2.1.on hb, hHeld.2.2.2.2.2.on hb⟩) (fun hHeld => ?_)
    clear hK K
    refine take_one 3 (by kernel_rfl) rfl (fun K hK => ?_)
    go_simp
    (refine (eqStore_same _ _ _ _ vs.length us4 us7 _ hn HL4.out HL7.out (like_both HL4.out HL7.out HI4.out HI7.out) (fun v hv => ((small_like HL4.out HI4.out SM.out) v hv).1) hHeld.2.2.2.1.out.vg R17.out.vg).mono ?_; rintro e w8 ⟨rfl, hb⟩)
    try go_wp2_with fail
    refine hK.out _ _ (by exact ⟨((hHeld.2.2.1.on hb).nth 1 rfl).at 0, ((hHeld.2.2.1.on hb).nth 3 rfl).at 0, hHeld.2.2.1.on hb, hHeld.2.2.2.1.out.on hb, hHeld.2.2.2.2.1.on hb, hHeld.2.2.2.2.2.on hb⟩) (fun hHeld => ?_)
    clear hK K
    refine take_run 4 (some 31) (v := ?_) rfl rfl (by kernel_rfl) (by kernel_rfl) (by kernel_rfl) (fun _ _ _ h => h) (by rfl) ?_ hHeld ?_
    rotate_left
    · ((intro w hSw); (try dsimp only at hSw); go_simp <;> with_reducible rfl)
    simp only [Act.put, List.setIfInBounds_toArray, List.set_cons_zero, List.set_cons_succ]
    refine wpAnyH_done (by kernel_rfl) ?_ _
    refine NoPanic.normal ?_
    obtain ⟨-, -, I5, O8, R8, Q8⟩ := hHeld
    clear I4 R7 Q7 O7 R17 HL7 HI7
    have I6 := I5.top
    have k5 := (I6.nth 1 rfl).one.1
    clear I5
    have hwt : Hid (wts us4 ≤ 5 * (vs.length : Int) + 2 * (tot vs : Int)) := by
      have := wts_tot us4
      rw [HL4.out, tot_like HL4.out HI4.out] at this
      exact this
    have hwp := wts_pos us4
    go_wp2_with fail
    have C9 := markStore_any W.heap.size w4.heap.size g4 vs.length us4 cur4 1 w8 O8.out (fun v hv => ((small_like HL4.out HI4.out SM.out) v hv).1) (by have := HL4.out; omega) (by omega) (by have := hwt.out; omega)
    rw [HL4.out] at C9
    refine C9.mono ?_
    rintro e w9 ⟨rfl, -, hT9⟩
    have R10 := R8.turn hT9 (fun g h1 h2 h3 => by omega)
    have Q10 := Q8.turn hT9 (fun g h1 h2 h3 => by omega)
    have I7 := I6.turned hT9 (fun g h => by have := I6.base; have := zW; have := z2; have hq := h.1; omega) (fun x hx h => by
      simp only [List.mem_cons, List.not_mem_nil, or_false] at hx
      rcases hx with rfl | rfl | rfl | rfl <;> simp only at h <;> omega)
    have z9 := hT9.size
    have hp9 : ¬ ((1 : Int) + wts us4 < 0) := by omega
    have k7 := (I7.nth 0 rfl).one.1
    have k8 := (I7.nth 2 rfl).one.1
    clear R8 Q8 I6 hT9 O8 C9 k5
    go_wp2_with fail
    refine (eqPast_any _ _ _ _ (tagsR vs) (tagsR vs) w9 (by omega) (by omega) Q10.tg R10.tg).mono ?_
    rintro e w10 ⟨rfl, hb10⟩
    rw [decide_eq_true rfl]
    have z10 := hb10.size
    have I8 := (I7.on hb10).top
    have R11 := R10.on hb10
    have Q11 := Q10.on hb10
    clear I7 R10 Q10 hb10 k7 k8
    have k7 := (I8.nth 0 rfl).one.1
    go_wp2_with fail
    refine (markRes_any A5 _ _ cap5 (tagsR vs) 1 w10 Q11 (by omega) (by omega) (by omega)).mono ?_
    rintro e w11 ⟨row, rfl, Q12, hG11, hrow⟩
    have HROW := hide hrow
    have R12 := R11.keep hG11 (fun g e => by have := HROW.out g e; omega)
    have I9 := I8.part hG11 (fun g e => by have := HROW.out g e; have := I8.base; omega) (fun x hx g e => by
      simp only [List.mem_cons, List.not_mem_nil, or_false] at hx
      have := HROW.out g e
      rcases hx with rfl | rfl | rfl | rfl <;> simp only <;> omega)
    have z11 := hG11.size
    clear R11 Q11 I8 hG11 hrow k7
    have k7 := (I9.nth 0 rfl).one.1
    go_wp2_with fail
    refine (heldPast_any A5 cap5 (tagsR vs).length 1 w11 (by omega) (by omega) (by omega) Q12.tg).mono ?_
    rintro e w12 ⟨rfl, hb12⟩
    have z12 := hb12.size
    have I10 := (I9.on hb12).top
    have R13 := R12.on hb12
    have Q13 := Q12.on hb12
    clear I9 R12 Q12 hb12 k7
    have hp12 : ¬ ((1 : Int) + 2 * ((tagsR vs).length : Int) < 0) := by omega
    have hne : ((1 : Int) + 2 * ((tagsR vs).length : Int) != 1 + 2 * ((tagsR vs).length : Int)) = false := by simp
    have k10 := (I10.nth 3 rfl).one.1
    go_wp2_with fail
    refine (toStore_own a c vs _ hn (fun v hv => (SM.out v hv).1) ((hv.on I10.below).up I10.base)).mono ?_
    rintro e w13 ⟨g13, us13, cur13, rfl, hl13, hli13, hR13, hb13⟩
    have z13 := hb13.size
    have I11 := (I10.on hb13).top
    have R14 := R13.on hb13
    have Q14 := Q13.on hb13
    have C13 := implStoreTags_any (some ⟨g13, 0, none⟩) vs.length us13 w13 (by omega) (small_like hl13 hli13 SM.out) hR13.vg
    rw [hl13, tagsR_like hl13 hli13] at C13
    have HC13 := hide C13
    clear I10 R13 Q13 hb13 hR13 hl13 hli13 C13 k10
    go_wp2_with fail
    refine HC13.out.mono ?_
    rintro e w14 ⟨A14, cap14, rfl, P14, hb14⟩
    have z14 := hb14.size
    have I12 := ((I11.on hb14).top).box 25 #[.slice A14 (tagsR vs).length cap14]
    have R15 := (R14.on hb14).alloc (.cells #[.slice A14 (tagsR vs).length cap14] 25)
    have Q15 := (Q14.on hb14).alloc (.cells #[.slice A14 (tagsR vs).length cap14] 25)
    have P15 := P14.alloc (.cells #[.slice A14 (tagsR vs).length cap14] 25)
    have k9 := (I12.nth 3 rfl).one.1
    clear I11 R14 Q14 P14 hb14 HC13
    go_wp2_with fail
    generalize w14.alloc (.cells #[.slice A14 (tagsR vs).length cap14] 25) = W14 at I12 R15 Q15 P15 k9 ⊢
    refine (eqPast_any A14 A3 cap14 cap3 (tagsR vs) (tagsR vs) _ (by omega) (by omega) P15.tg R15.tg).mono ?_
    rintro e w15 ⟨rfl, hb15⟩
    rw [decide_eq_true rfl]
    have I13 := (I12.on hb15).top
    have Q16 := Q15.on hb15
    clear I12 R15 Q15 P15 hb15 k9
    have k9 := (I13.nth 1 rfl).one.1
    go_wp2_with fail
    refine (heldPast_any A5 cap5 (tagsR vs).length 1 w15 (by omega) (by omega) (by omega) Q16.tg).mono ?_
    rintro e w16 ⟨rfl, hb16⟩
    have I14 := I13.on hb16
    clear I13 Q16 k9 hb16
    go_wp2
    go_ret
    exact ⟨rfl, I14.below⟩
  · go_enter Try.func6, Try.ntmps6
    go_wp2_with fail
    refine (szStore_not a c vs 1048576 _ (by omega) (by omega) hl HM.out (by omega) ((hv.on S0.below).up S0.base)).mono ?_
    rintro e w1 ⟨rfl, hb1⟩
    have S1 := S0.on hb1
    clear S0
    go_wp2
    go_ret
    exact ⟨rfl, S1.below⟩

set_option maxRecDepth 100000 in
theorem lifted (os : Os) (started : os.Started) (H : Type) (enc : TypeId × Value → H) :
    ReturnsInHanded {} Try.checked os 6 .any (Rows.fnExactStoreTagsSpec.pre6 enc Try.prog Try.f6 Rows.fnExactStoreTagsRow.domain false) (Rows.fnExactStoreTagsSpec.post enc Try.prog Try.f6 false true false false) := by
  refine returnsInHanded_of_change (C := Try.checked) own started (by kernel_rfl) Try.func6
    (ChangeSpec.witness6 (enc := enc) (C := Try.checked) false ⟨#[], #[.agg #[.slice none 0 0]], []⟩ 8 (by kernel_rfl) (by kernel_rfl) (by kernel_rfl) (by kernel_rfl)) ?_
  intro W base args ds gs before hval0 hW hcnd _
  have hval : ∀ (j : Nat) t v, Try.f6.params[j]? = some t → args[j]? = some v → Value.okWide Try.prog W .any base t v := hval0
  have hW' := hW
  obtain ⟨p, q, hA0, hV, rfl, hfz, hnd⟩ := hW
  have hA : DataW.TrodAll enc Try.prog W 0 (fun _ => true) true Try.f6.params.toList args.toList ds p := hA0
  rw [Try.params6] at hA hval
  have hK := hA
  obtain ⟨v0, vs0, d0, ds0, p0, q0, hargs, rfl, rfl, h0, r0⟩ := trodAll_cons hA
  obtain ⟨rfl, rfl, rfl⟩ := trodAll_nil r0
  obtain rfl : args = #[v0] := by cases args; simp_all
  obtain ⟨rfl, rfl⟩ := trodVars_none hV
  obtain ⟨a0, cap0, z0, rfl, b0⟩ := read_store (hval 0 37 v0 rfl rfl) h0
  clear hA0 hval0
  refine (walk a0 cap0 z0 W b0.1 b0.2.1 b0.2.2).mono fun e W' ⟨he, hb⟩ => ?_
  subst he
  have hK' := stay_all hb (by intro t ht; simp only [List.mem_cons, List.not_mem_nil, or_false] at ht; rcases ht with rfl <;> exact ⟨by kernel_rfl, of_decide_eq_true (by kernel_rfl)⟩) hK
  exact ⟨_, rfl, _, _, _, [], _, [], hW', trodAll_mk1 (shut_bool Try.underlying4 _), hK', rfl, hb.frame _, fun h => by cases h⟩

theorem over : Rows.fnExactStoreTagsRow.holds Try.pinned (OpenSpec.ofChange Rows.fnExactStoreTagsSpec) :=
  OpenClaim.holds_of_wide 6 Try.f6 rfl rfl rfl rfl rfl rfl rfl ⟨rfl, rfl, rfl, rfl, rfl⟩ rfl rfl rfl rfl rfl (by kernel_rfl) Try.func6
    (by refine joined_of ?_; kernel_rfl) (of_decide_eq_true (by kernel_rfl)) (by unfold Func.isWrapper; first | (rw [if_pos (by decide +kernel)]; kernel_rfl) | (rw [if_neg (by decide +kernel)]; exact ⟨rfl, rfl⟩))
    (fun os started H enc _ => lifted os started H enc)
end Go.Proofs.Ytkkjhfgjjakmfaa.LawStoreTags
namespace Go.Proofs.Ytkkjhfgjjakmfaa
/-- The statement itself. -/
theorem fnExactStoreTags_holds : Rows.FnExactStoreTagsSaid := LawStoreTags.over
#print axioms fnExactStoreTags_holds
end Go.Proofs.Ytkkjhfgjjakmfaa
namespace Go.Proofs.Ytkkjhfgjjakmfaa.LawStoreTags
end Go.Proofs.Ytkkjhfgjjakmfaa.LawStoreTags
