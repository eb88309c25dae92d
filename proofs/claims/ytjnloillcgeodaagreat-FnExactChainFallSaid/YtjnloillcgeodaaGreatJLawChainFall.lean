/- The law FnExactChainFall holds: for every chain and every number the program's ChainFall answers as the model's, leaves its arguments as they were, and answers in memory of its own. No condition. -/
import Derived.Test.YtjnloillcgeodaaGreatJLiftC
import Derived.Test.YtjnloillcgeodaaGreatJAppendMore
import Derived.Test.YtjnloillcgeodaaGreatJSortLay
import Derived.Test.YtjnloillcgeodaaGreatJChainFall
import Derived.Test.YtjnloillcgeodaaGreatJTags
namespace Go.Proofs.YtjnloillcgeodaaGreat.LawChainFall
open Go.ChangeShapes Go.WideShapes Go.ChangeAt Go.RowKit Go.Joins
attribute [local go_sem ↓] Go.wp_at_zero Go.wp_at_succ

theorem answerCB_like {w w' : World} {rs rs' : List Nd} {b b' : Bool} {e : Ending} (h : AnswerCB w rs b e w') (hl : NL rs rs' ∧ b = b') : AnswerCB w rs' b' e w' := by
  obtain ⟨A, cap, us, he, h1, h2, h3⟩ := h
  exact ⟨A, cap, us, by rw [he, hl.1.1, hl.2], nl_trans h1 hl.1, h2, h3⟩
set_option maxRecDepth 100000 in
set_option maxHeartbeats 8000000 in
theorem walk (a : Option Addr) (c : Nat) (ns : List Nd) (k : Int) (w : World) (hv : Ng w w.heap.size a ns) (hl : ns.length ≤ 9223372036854775807) (hm0 : BigN ns) :
    Calls Tryz.prog 6 #[.agg #[.slice a ns.length c], .int .i64 k] w fun e w' => e = .returned (.bool true) ∧ Below w.heap.size w w' := by
  have S0 := (Inv.start w).box 58 #[.slice a ns.length c]
  simp only [World.size_alloc] at S0
  have HM := hide hm0
  clear hm0
  by_cases hsum : ns.length + totNs ns ≤ 1048576
  · have hn : ns.length ≤ 1048576 := by omega
    have SM := hide (smN_fits HM.out hsum)
    have HTO : Hid (∀ W, Below w.heap.size w W → Calls Tryz.prog 25 #[.agg #[.slice a ns.length c]] W (CopiedC W ns)) := fun W hW => toChain_own a c ns W hn SM.out ((hv.on hW).up hW.size)
    have HSP : Hid (∀ (g : Nat) us cur B U W, NRow W B U g us cur → NL us ns → Calls Tryz.prog 9 #[.agg #[.slice (some ⟨g, 0, none⟩) ns.length ns.length], .int .i64 k] W (AnswerCB W (fallN ns k) (fallK ns k))) := fun g us cur B U W hR hN => by
      have C := specChainFall_any (some ⟨g, 0, none⟩) ns.length us k W (by rw [hN.1]; exact hn) (smN_like hN SM.out) (.inr ⟨g, cur, rfl, hR.cg⟩)
      rw [hN.1] at C
      exact C.mono fun e w' h => answerCB_like h (fallN_like hN k)
    have HIM : Hid (∀ (g : Nat) us cur B U W, NRow W B U g us cur → NL us ns → Calls Tryz.prog 8 #[.agg #[.slice (some ⟨g, 0, none⟩) ns.length ns.length], .int .i64 k] W (AnswerCB W (fallN ns k) (fallK ns k))) := fun g us cur B U W hR hN => by
      have C := implChainFall_any (some ⟨g, 0, none⟩) ns.length us k W (by rw [hN.1]; exact hn) (smN_like hN SM.out) (.inr ⟨g, cur, rfl, hR.cg⟩)
      rw [hN.1] at C
      exact C.mono fun e w' h => answerCB_like h (fallN_like hN k)
    have FN := hide (fallN_fine ns k)
    generalize fallN ns k = rs at HSP HIM FN
    generalize fallK ns k = ob at HSP HIM
    have hp : ¬ ((1048576 : Int) - (ns.length : Int) - (totNs ns : Int) < 0) := by omega
    go_enter Tryz.func6, Tryz.ntmps6
    go_wp2_with fail
    refine (szChain_fits a c ns 1048576 _ (by omega) (by omega) ((hv.on S0.below).up S0.base)).mono ?_
    rintro e w1 ⟨rfl, hb1⟩
    have S1 := S0.on hb1
    have k1 := (S1.nth 0 rfl).one.1
    have z1 := S1.room
    go_wp2_with fail
    with_reducible refine (HTO.out _ S1.below).mono ?_
    rintro e w2 ⟨g2, us2, cur2, rfl, hli2, hR2, hb2⟩
    have S2 := S1.on hb2
    have C2 := hide (HSP.out g2 us2 cur2 _ _ w2 hR2 hli2)
    have z2 := hb2.size
    clear S0 S1 k1 hR2 hli2
    go_wp2_with fail
    with_reducible refine C2.out.mono ?_
    rintro e w3 ⟨A3, cap3, us3, rfl, hn3, R3, hb3⟩
    have HN3 := hide hn3
    clear hn3
    have z3 := hb3.size
    have I1 := ((S2.on hb3).top).box 25 #[.slice A3 rs.length cap3]
    have R4 := R3.on (below_alloc1 w3 (.cells #[.slice A3 rs.length cap3] 25))
    have k3 := (I1.nth 1 rfl).one.1
    clear S2 hb2 hb3 R3 C2
    go_wp2_with fail
    generalize hW : w3.alloc (.cells #[.slice A3 rs.length cap3] 25) = W at I1 R4 k3 ⊢
    have zW : w3.heap.size < W.heap.size := by rw [← hW]; simp
    clear hW
    with_reducible refine (HTO.out _ I1.below).mono ?_
    rintro e w4 ⟨g4, us4, cur4, rfl, hli4, hR4, hb4⟩
    have z4 := hb4.size
    have I2 := ((I1.on hb4).top).box 25 #[.slice (some ⟨g4, 0, none⟩) ns.length ns.length]
    have R5 := (R4.on hb4).on (below_alloc1 w4 (.cells #[.slice (some ⟨g4, 0, none⟩) ns.length ns.length] 25))
    have O5 := hide (hR4.on (below_alloc1 w4 (.cells #[.slice (some ⟨g4, 0, none⟩) ns.length ns.length] 25)))
    have HI4 := hide hli4
    have glo := hR4.lo
    clear hb4 I1 R4 hR4 k3 hli4
    go_wp2_with fail
    generalize hW4 : w4.alloc (.cells #[.slice (some ⟨g4, 0, none⟩) ns.length ns.length] 25) = W4 at I2 R5 O5 ⊢
    have zW4 : w4.heap.size < W4.heap.size := by rw [← hW4]; simp
    clear hW4
    have C4 := hide (HIM.out g4 us4 cur4 _ _ W4 O5.out HI4.out)
    with_reducible refine C4.out.mono ?_
    rintro e w5 ⟨A5, cap5, us5, rfl, hn5, Q5, hb5⟩
    have HN5 := hide hn5
    clear hn5
    have z5 := hb5.size
    have I3 := ((I2.on hb5).top).box 25 #[.slice A5 rs.length cap5]
    have R6 := (R5.on hb5).on (below_alloc1 w5 (.cells #[.slice A5 rs.length cap5] 25))
    have Q6 := Q5.on (below_alloc1 w5 (.cells #[.slice A5 rs.length cap5] 25))
    have O6 := hide ((O5.out.on hb5).on (below_alloc1 w5 (.cells #[.slice A5 rs.length cap5] 25)))
    have k3 := (I3.nth 2 rfl).one.1
    clear I2 R5 Q5 hb5 O5 C4
    go_wp2_with fail
    generalize hW5 : w5.alloc (.cells #[.slice A5 rs.length cap5] 25) = W5 at I3 R6 Q6 O6 k3 ⊢
    have zW5 : w5.heap.size < W5.heap.size := by rw [← hW5]; simp
    clear hW5
    with_reducible refine (eqChain_fine _ _ _ _ A5 A3 cap5 cap3 rs us5 us3 W5 FN.out HN5.out HN3.out Q6 R6).mono ?_
    rintro e w6 ⟨rfl, hb6⟩
    have z6 := hb6.size
    have I4 := (I3.on hb6).top
    have R7 := R6.on hb6
    have Q7 := Q6.on hb6
    have O7 := hide (O6.out.on hb6)
    clear I3 R6 Q6 O6 k3 hb6
    go_wp2_with fail
    refine wp_region_noPanic ?_
    refine wp_region_held_drew (S := (fun w' => w'.cell? ⟨w4.heap.size, 0, none⟩ = some (.slice (some ⟨g4, 0, none⟩) ns.length ns.length) ∧ w'.cell? ⟨w.heap.size, 0, none⟩ = some (.slice a ns.length c) ∧ Inv w w6.heap.size [(w5.heap.size, 25, #[.slice A5 rs.length cap5]), (w4.heap.size, 25, #[.slice (some ⟨g4, 0, none⟩) ns.length ns.length]), (w3.heap.size, 25, #[.slice A3 rs.length cap3]), (w.heap.size, 58, #[.slice a ns.length c])] w' ∧ Hid (NRow w' W.heap.size w4.heap.size g4 us4 cur4) ∧ ResN w' w2.heap.size w3.heap.size A3 us3 ∧ ResN w' W4.heap.size w5.heap.size A5 us5)) (by kernel_rfl) (by exact ⟨(I4.nth 1 rfl).at 0, (I4.nth 3 rfl).at 0, I4.drew, O7.out.on (Below.refl _ _).drew, R7.on (Below.refl _ _).drew, Q7.on (Below.refl _ _).drew⟩) (fun hHeld => ?_)
    refine take_run 0 (some 45) (v := ?_) rfl rfl (by kernel_rfl) (by kernel_rfl) (by kernel_rfl) (fun _ _ _ h => h) (by rfl) ?_ hHeld ?_
    rotate_left
    · ((intro w hSw); (try dsimp only at hSw); go_simp <;> with_reducible rfl)
    simp only [Act.put, List.setIfInBounds_toArray, List.set_cons_zero, List.set_cons_succ]
    refine take_run 1 (some 46) (v := ?_) rfl rfl (by kernel_rfl) (by kernel_rfl) (by kernel_rfl) (fun _ _ _ h => h) (by rfl) ?_ hHeld ?_
    rotate_left
    · ((intro w hSw); (try dsimp only at hSw); go_simp <;> with_reducible rfl)
    simp only [Act.put, List.setIfInBounds_toArray, List.set_cons_zero, List.set_cons_succ]
    refine take_one 2 (by kernel_rfl) rfl (fun K hK => ?_)
    go_simp
    ((with_reducible refine (HTO.out _ hHeld.2.2.1.below).mono ?_); rintro e w7 ⟨g7, us7, cur7, rfl, hli7, hR7, hb⟩; have R17 := hide hR7; have HI7 := hide hli7; clear hR7 hli7)
    try go_wp2_with fail
    refine hK.out _ _ (by exact ⟨((hHeld.2.2.1.on hb).nth 1 rfl).at 0, ((hHeld.2.2.1.on hb).nth 3 rfl).at 0, hHeld.2.2.1.on hb, hHeld.2.2.2.1.out.on hb, hHeld.2.2.2.2.1.on hb, hHeld.2.2.2.2.2.on hb⟩) (fun hHeld => ?_)
    clear hK K
    refine take_one 3 (by kernel_rfl) rfl (fun K hK => ?_)
    go_simp
    ((with_reducible refine (eqChain_copies _ _ _ _ _ _ _ _ ns us4 us7 cur4 cur7 _ hn SM.out HI4.out HI7.out hHeld.2.2.2.1.out R17.out).mono ?_); rintro e w8 ⟨rfl, hb⟩)
    try go_wp2_with fail
    refine hK.out _ _ (by exact ⟨((hHeld.2.2.1.on hb).nth 1 rfl).at 0, ((hHeld.2.2.1.on hb).nth 3 rfl).at 0, hHeld.2.2.1.on hb, hHeld.2.2.2.1.out.on hb, hHeld.2.2.2.2.1.on hb, hHeld.2.2.2.2.2.on hb⟩) (fun hHeld => ?_)
    clear hK K
    refine take_run 4 (some 49) (v := ?_) rfl rfl (by kernel_rfl) (by kernel_rfl) (by kernel_rfl) (fun _ _ _ h => h) (by rfl) ?_ hHeld ?_
    rotate_left
    · ((intro w hSw); (try dsimp only at hSw); go_simp <;> with_reducible rfl)
    simp only [Act.put, List.setIfInBounds_toArray, List.set_cons_zero, List.set_cons_succ]
    refine wpAnyH_done (by kernel_rfl) ?_ _
    refine NoPanic.normal ?_
    obtain ⟨-, -, I5, O8, R8, Q8⟩ := hHeld
    clear I4 R7 Q7 O7 R17 HI7
    have I6 := I5.top
    have k5 := (I6.nth 1 rfl).one.1
    clear I5
    have hwp := (wtNs_few HI4.out hsum).2
    have hwq := (wtNs_few HI4.out hsum).1
    have C9 := hide (markChain_copy W.heap.size w4.heap.size g4 ns.length us4 ns cur4 w8 O8.out HI4.out SM.out hsum)
    go_wp2_with fail
    with_reducible refine C9.out.mono ?_
    rintro e w9 ⟨rfl, hT9⟩
    have R10 := R8.turn hT9 (fun g h1 h2 h3 => by omega)
    have Q10 := Q8.turn hT9 (fun g h1 h2 h3 => by omega)
    have I7 := I6.turned hT9 (fun g h => by have := I6.base; have := zW; have := z2; have hq := h.1; omega) (fun x hx h => by
      simp only [List.mem_cons, List.not_mem_nil, or_false] at hx
      rcases hx with rfl | rfl | rfl | rfl <;> simp only at h <;> omega)
    have z9 := hT9.size
    have hp9 : ¬ ((1 : Int) + wtNs us4 < 0) := by omega
    have k7 := (I7.nth 0 rfl).one.1
    have k8 := (I7.nth 2 rfl).one.1
    clear R8 Q8 I6 hT9 O8 C9 k5
    go_wp2_with fail
    with_reducible refine (eqChain_fine _ _ _ _ A5 A3 cap5 cap3 rs us5 us3 w9 FN.out HN5.out HN3.out Q10 R10).mono ?_
    rintro e w10 ⟨rfl, hb10⟩
    have z10 := hb10.size
    have I8 := (I7.on hb10).top
    have R11 := R10.on hb10
    have Q11 := Q10.on hb10
    clear I7 R10 Q10 hb10 k7 k8
    have k7 := (I8.nth 0 rfl).one.1
    go_wp2_with fail
    with_reducible refine (markChain_fine W4.heap.size w5.heap.size A5 cap5 rs us5 w10 FN.out HN5.out Q11).mono ?_
    rintro e w11 ⟨rfl, Q12, hT11⟩
    have R12 := R11.turn hT11 (fun g h1 h2 h3 => by omega)
    have I9 := I8.turned hT11 (fun g h => by have := I8.base; have hq := h.1; omega) (fun x hx h => by
      simp only [List.mem_cons, List.not_mem_nil, or_false] at hx
      rcases hx with rfl | rfl | rfl | rfl <;> simp only at h <;> omega)
    have z11 := hT11.size
    clear R11 Q11 I8 hT11 k7
    have k7 := (I9.nth 0 rfl).one.1
    go_wp2_with fail
    with_reducible refine (heldChain_fine W4.heap.size w5.heap.size A5 cap5 rs us5 w11 FN.out HN5.out Q12).mono ?_
    rintro e w12 ⟨rfl, hb12⟩
    have z12 := hb12.size
    have I10 := (I9.on hb12).top
    have R13 := R12.on hb12
    have Q13 := Q12.on hb12
    clear I9 R12 Q12 hb12 k7
    have hwp5 := wtNs_pos us5
    have hp12 : ¬ ((1 : Int) + wtNs us5 < 0) := by omega
    have hne : ((1 : Int) + wtNs us5 != 1 + wtNs us5) = false := by simp
    have k10 := (I10.nth 3 rfl).one.1
    go_wp2_with fail
    with_reducible refine (HTO.out _ I10.below).mono ?_
    rintro e w13 ⟨g13, us13, cur13, rfl, hli13, hR13, hb13⟩
    have z13 := hb13.size
    have I11 := (I10.on hb13).top
    have R14 := R13.on hb13
    have Q14 := Q13.on hb13
    have HC13 := hide (HIM.out g13 us13 cur13 _ _ w13 hR13 hli13)
    clear I10 R13 Q13 hb13 hR13 hli13 k10
    go_wp2_with fail
    with_reducible refine HC13.out.mono ?_
    rintro e w14 ⟨A14, cap14, us14, rfl, hn14, P14, hb14⟩
    have HN14 := hide hn14
    clear hn14
    have z14 := hb14.size
    have I12 := ((I11.on hb14).top).box 25 #[.slice A14 rs.length cap14]
    have R15 := (R14.on hb14).on (below_alloc1 w14 (.cells #[.slice A14 rs.length cap14] 25))
    have Q15 := (Q14.on hb14).on (below_alloc1 w14 (.cells #[.slice A14 rs.length cap14] 25))
    have P15 := P14.on (below_alloc1 w14 (.cells #[.slice A14 rs.length cap14] 25))
    have k9 := (I12.nth 3 rfl).one.1
    clear I11 R14 Q14 P14 hb14 HC13
    go_wp2_with fail
    generalize w14.alloc (.cells #[.slice A14 rs.length cap14] 25) = W14 at I12 R15 Q15 P15 k9 ⊢
    with_reducible refine (eqChain_fine _ _ _ _ A14 A3 cap14 cap3 rs us14 us3 W14 FN.out HN14.out HN3.out P15 R15).mono ?_
    rintro e w15 ⟨rfl, hb15⟩
    have I13 := (I12.on hb15).top
    have Q16 := Q15.on hb15
    clear I12 R15 Q15 P15 hb15 k9
    have k9 := (I13.nth 1 rfl).one.1
    go_wp2_with fail
    with_reducible refine (heldChain_fine W4.heap.size w5.heap.size A5 cap5 rs us5 w15 FN.out HN5.out Q16).mono ?_
    rintro e w16 ⟨rfl, hb16⟩
    have I14 := I13.on hb16
    clear I13 Q16 k9 hb16
    go_wp2
    go_ret
    exact ⟨rfl, I14.below⟩
  · go_enter Tryz.func6, Tryz.ntmps6
    go_wp2_with fail
    refine (szChain_not a c ns 1048576 _ (by omega) (by omega) hl HM.out (by omega) ((hv.on S0.below).up S0.base)).mono ?_
    rintro e w1 ⟨rfl, hb1⟩
    have S1 := S0.on hb1
    clear S0
    go_wp2
    go_ret
    exact ⟨rfl, S1.below⟩

set_option maxRecDepth 100000 in
theorem lifted (os : Os) (started : os.Started) (H : Type) (enc : TypeId × Value → H) :
    ReturnsInHanded {} Tryz.checked os 6 .any (Rows.fnExactChainFallSpec.pre6 enc Tryz.prog Tryz.f6 Rows.fnExactChainFallRow.domain false) (Rows.fnExactChainFallSpec.post enc Tryz.prog Tryz.f6 false true false false) := by
  refine returnsInHanded_of_change (C := Tryz.checked) own started (by kernel_rfl) Tryz.func6
    (ChangeSpec.witness6 (enc := enc) (C := Tryz.checked) false ⟨#[], #[.agg #[.slice none 0 0], .int .i64 0], []⟩ 8 (by kernel_rfl) (by kernel_rfl) (by kernel_rfl) (by kernel_rfl)) ?_
  intro W base args ds gs before hval0 hW hcnd _
  have hval : ∀ (j : Nat) t v, Tryz.f6.params[j]? = some t → args[j]? = some v → Value.okWide Tryz.prog W .any base t v := hval0
  have hW' := hW
  obtain ⟨p, q, hA0, hV, rfl, hfz, hnd⟩ := hW
  have hA : DataW.TrodAll enc Tryz.prog W 0 (fun _ => true) true Tryz.f6.params.toList args.toList ds p := hA0
  rw [Tryz.params6] at hA hval
  have hK := hA
  obtain ⟨v0, vs0, d0, ds0, p0, q0, hargs, rfl, rfl, h0, r0⟩ := trodAll_cons hA
  obtain ⟨v1, vs1, d1, ds1, p1, q1, rfl, rfl, rfl, h1, r1⟩ := trodAll_cons r0
  obtain ⟨rfl, rfl, rfl⟩ := trodAll_nil r1
  obtain rfl : args = #[v0, v1] := by cases args; simp_all
  obtain ⟨rfl, rfl⟩ := trodVars_none hV
  obtain ⟨a0, cap0, z0, rfl, b0⟩ := read_chain (hval 0 58 v0 rfl rfl) h0
  obtain ⟨a1, rfl, rfl, rfl, w1⟩ := open_int Tryz.underlying3 (hval 1 3 v1 rfl rfl) h1
  clear hA0 hval0
  refine (walk a0 cap0 z0 a1 W b0.1 b0.2.1 b0.2.2).mono fun e W' ⟨he, hb⟩ => ?_
  subst he
  have hK' := stay_all hb (by intro t ht; simp only [List.mem_cons, List.not_mem_nil, or_false] at ht; rcases ht with rfl | rfl <;> exact ⟨by kernel_rfl, of_decide_eq_true (by kernel_rfl)⟩) hK
  exact ⟨_, rfl, _, _, _, [], _, [], hW', trodAll_mk1 (shut_bool Tryz.underlying4 _), hK', rfl, hb.frame _, fun h => by cases h⟩

theorem over : Rows.fnExactChainFallRow.holds Tryz.pinned (OpenSpec.ofChange Rows.fnExactChainFallSpec) :=
  OpenClaim.holds_of_wide 6 Tryz.f6 rfl rfl rfl rfl rfl rfl rfl ⟨rfl, rfl, rfl, rfl, rfl⟩ rfl rfl rfl rfl rfl (by kernel_rfl) Tryz.func6
    (by refine joined_of ?_; kernel_rfl) (of_decide_eq_true (by kernel_rfl)) (by unfold Func.isWrapper; first | (rw [if_pos (by decide +kernel)]; kernel_rfl) | (rw [if_neg (by decide +kernel)]; exact ⟨rfl, rfl⟩))
    (fun os started H enc _ => lifted os started H enc)
end Go.Proofs.YtjnloillcgeodaaGreat.LawChainFall
namespace Go.Proofs.YtjnloillcgeodaaGreat
/-- The statement itself. -/
theorem fnExactChainFall_holds : Rows.FnExactChainFallSaid := LawChainFall.over
#print axioms fnExactChainFall_holds
end Go.Proofs.YtjnloillcgeodaaGreat
namespace Go.Proofs.YtjnloillcgeodaaGreat.LawChainFall
end Go.Proofs.YtjnloillcgeodaaGreat.LawChainFall
