/- The law FnExactPlaceFall holds: for every place and every number the program's PlaceFall answers as the model's, leaves its arguments as they were, and answers in memory of its own. No condition. -/
import Derived.Test.YtnaggcdhimcilaaGreatJLogRow
import Derived.Test.YtnaggcdhimcilaaGreatJChainRow
import Derived.Test.YtnaggcdhimcilaaGreatJPlaceCopy2
import Derived.Test.YtnaggcdhimcilaaGreatJPlaceFit
import Derived.Test.YtnaggcdhimcilaaGreatJPastOk
namespace Go.Proofs.YtnaggcdhimcilaaGreat.LawPlaceFall
open Go.ChangeShapes Go.WideShapes Go.ChangeAt Go.RowKit Go.Joins
attribute [local go_sem ↓] Go.wp_at_zero Go.wp_at_succ

set_option maxRecDepth 100000 in
set_option maxHeartbeats 8000000 in
theorem walk (p : Pl) (k : Int) (w : World) (hv : Pg w w.heap.size p) (hB : BigP p) :
    Calls Tryz.prog 4 #[.agg (plCells p), .int .i64 k] w fun e w' => e = .returned (.bool true) ∧ Below w.heap.size w w' := by
  have S0 := (Inv.start w).box 28 (plCells p)
  simp only [World.size_alloc] at S0
  have HM := hide hB
  clear hB
  by_cases hsum : totP p ≤ 1048576
  · have SM := hide (smP_fits HM.out hsum)
    have HTO : Hid (∀ W, Below w.heap.size w W → Calls Tryz.prog 8 #[.agg (plCells p)] W (CopiedPl W p)) := fun W hW => toPlace_own p W SM.out ((hv.on hW).up hW.size)
    have HSZ := hide (szPlace_fits p 1048576 _ (by omega) (by omega) ((hv.on S0.below).up S0.base))
    have hp : ¬ ((1048576 : Int) - (totP p : Int) < 0) := by omega
    have HFW : Hid (∀ q q', LP q p → LP q' p → ∀ B U B' U' W, PRes W B U q → PRes W B' U' q' → Calls Tryz.prog 10 #[.agg (plCells q), .agg (plCells q')] W fun e w' => e = .returned (.bool true) ∧ Below W.heap.size W w') := fun q q' h h' B U B' U' W r r' => eqPlace_own B U B' U' q q' W (lp_trans h (lp_symm h')) (smP_few (smP_like h SM.out)) r r'
    have HMK : Hid (∀ q, LP q p → FewP q ∧ (1 : Int) + wtP q ≤ 8388000 ∧ 0 ≤ wtP q) := fun q h => ⟨smP_few (smP_like h SM.out), wtP_few h hsum⟩
    have HSP : Hid (∀ q W B U, LP q p → PRes W B U q → Calls Tryz.prog 13 #[.agg (plCells q), .int .i64 k] W (AnswerPB W (fallP p k) (fallPK p k))) := fun q W B U h r => (specPlaceFall_any q k W (smP_like h SM.out) r.cp).mono fun e w' ha => answerPB_like ha (fallP_like k h)
    have HIM : Hid (∀ q W B U, LP q p → (q.lc = q.log.length ∧ ∀ l ∈ q.gs, l.c = l.vs.length) → PRes W B U q → Calls Tryz.prog 14 #[.agg (plCells q), .int .i64 k] W (AnswerPB W (fallP p k) (fallPK p k))) := fun q W B U h hc r => (implPlaceFall_any q k W (smP_like h SM.out) ⟨by rw [hc.1]; exact Nat.le_refl _, fun l hl => by rw [hc.2 l hl]; exact Nat.le_refl _⟩ r.cp).mono fun e w' ha => answerPB_like ha (fallP_like k h)
    have FN := hide (fallP_fine p k)
    generalize fallP p k = rs at HSP HIM FN
    generalize fallPK p k = ob at HSP HIM
    have HFN : Hid (∀ q, LP q rs → FewP q ∧ (1 : Int) + wtP q ≤ 8388000 ∧ 0 ≤ wtP q) := fun q h => ⟨(FN.out.like h).few, (FN.out.like h).wt⟩
    have HEQ : Hid (∀ q q', LP q rs → LP q' rs → ∀ B U B' U' W, PRes W B U q → PRes W B' U' q' → Calls Tryz.prog 10 #[.agg (plCells q), .agg (plCells q')] W fun e w' => e = .returned (.bool true) ∧ Below W.heap.size W w') := fun q q' h h' B U B' U' W r r' => eqPlace_own B U B' U' q q' W (lp_trans h (lp_symm h')) (HFN.out q h).1 r r'
    generalize (totP p : Int) = tp at HSZ hp
    obtain ⟨me, ck, ca, cc, ns, la, lc, log, ga, gc, gs, fell⟩ := p
    have q0 := (S0.nth 0 rfl).six
    go_enter Tryz.func4, Tryz.ntmps4
    go_wp2_with fail
    with_reducible refine HSZ.out.mono ?_
    rintro e w1 ⟨rfl, hb1⟩
    have S1 := S0.on hb1
    have z1 := S1.room
    have q1 := (S1.nth 0 rfl).six
    clear q0 HSZ
    go_wp2_with fail
    with_reducible refine (HTO.out _ S1.below).mono ?_
    rintro e w2 ⟨q2, rfl, hli2, hc2, hR2, hb2⟩
    have S2 := S1.on hb2
    have z2 := hb2.size
    have CT := hide (HSP.out q2 w2 _ _ hli2 hR2)
    obtain ⟨me2, ck2, ca2, cc2, ns2, la2, lc2, log2, ga2, gc2, gs2, fell2⟩ := q2
    clear S0 S1 q1 hR2 hli2 hc2 hb2
    go_wp2_with fail
    with_reducible refine CT.out.mono ?_
    rintro e w3 ⟨q3, rfl, hq3, hr3, hb3⟩
    have HL3 := hide hq3
    have z3 := hb3.size
    have I1 := ((S2.on hb3).top).box 36 (plCells q3)
    have R4 := hide (hr3.alloc (.cells (plCells q3) 36))
    obtain ⟨me3, ck3, ca3, cc3, ns3, la3, lc3, log3, ga3, gc3, gs3, fell3⟩ := q3
    have k3 := (I1.nth 1 rfl).six
    clear S2 hq3 hr3 hb3 CT
    go_wp2_with fail
    generalize hW : w3.alloc (.cells (plAt me3 ck3 ca3 ns3.length cc3 la3 log3.length lc3 ga3 gs3.length gc3 fell3) 36) = W at I1 R4 k3 ⊢
    have zW : w3.heap.size < W.heap.size := by rw [← hW]; simp
    clear hW
    with_reducible refine (HTO.out _ I1.below).mono ?_
    rintro e w4 ⟨q4, rfl, hli4, hc4, hR4, hb4⟩
    have z4 := hb4.size
    have HL4 := hide hli4
    have I2 := ((I1.on hb4).top).box 36 (plCells q4)
    have R5 := hide ((R4.out.on hb4).alloc (.cells (plCells q4) 36))
    have O5 := hide (hR4.alloc (.cells (plCells q4) 36))
    have CJ := hide (fun W B U hR => HIM.out q4 W B U hli4 hc4 hR)
    obtain ⟨me4, ck4, ca4, cc4, ns4, la4, lc4, log4, ga4, gc4, gs4, fell4⟩ := q4
    clear I1 R4 hR4 k3 hli4 hc4 hb4
    go_wp2_with fail
    generalize hW4 : w4.alloc (.cells (plAt me4 ck4 ca4 ns4.length cc4 la4 log4.length lc4 ga4 gs4.length gc4 fell4) 36) = W4 at I2 R5 O5 ⊢
    have zW4 : w4.heap.size < W4.heap.size := by rw [← hW4]; simp
    clear hW4
    have C4 := hide (CJ.out W4 _ _ O5.out)
    clear CJ
    with_reducible refine C4.out.mono ?_
    rintro e w5 ⟨q5, rfl, hq5, hr5, hb5⟩
    have HL5 := hide hq5
    have z5 := hb5.size
    have I3 := ((I2.on hb5).top).box 36 (plCells q5)
    have R6 := hide ((R5.out.on hb5).alloc (.cells (plCells q5) 36))
    have Q6 := hide (hr5.alloc (.cells (plCells q5) 36))
    have O6 := hide ((O5.out.on hb5).alloc (.cells (plCells q5) 36))
    obtain ⟨me5, ck5, ca5, cc5, ns5, la5, lc5, log5, ga5, gc5, gs5, fell5⟩ := q5
    have k3 := (I3.nth 2 rfl).six
    clear I2 R5 hq5 hr5 hb5 O5 C4
    go_wp2_with fail
    generalize hW5 : w5.alloc (.cells (plAt me5 ck5 ca5 ns5.length cc5 la5 log5.length lc5 ga5 gs5.length gc5 fell5) 36) = W5 at I3 R6 Q6 O6 k3 ⊢
    have zW5 : w5.heap.size < W5.heap.size := by rw [← hW5]; simp
    clear hW5
    have C6 := hide (HEQ.out _ _ HL5.out HL3.out _ _ _ _ W5 Q6.out R6.out)
    with_reducible refine C6.out.mono ?_
    rintro e w6 ⟨rfl, hb6⟩
    have z6 := hb6.size
    have I4 := (I3.on hb6).top
    have R7 := hide (R6.out.on hb6)
    have Q7 := hide (Q6.out.on hb6)
    have O7 := hide (O6.out.on hb6)
    clear I3 R6 Q6 O6 k3 hb6 C6
    have HFW4 := hide (fun q' h => HFW.out _ q' HL4.out h)
    go_wp2_with fail
    refine wp_region_noPanic ?_
    refine wp_region_held_drew (S := (fun w' => (w'.cell? ⟨w4.heap.size, 0, none⟩ = some (.int .i64 me4) ∧ w'.cell? ⟨w4.heap.size, 1, none⟩ = some (.int .i64 ck4) ∧ w'.cell? ⟨w4.heap.size, 2, none⟩ = some (.slice ca4 ns4.length cc4) ∧ w'.cell? ⟨w4.heap.size, 3, none⟩ = some (.slice la4 log4.length lc4) ∧ w'.cell? ⟨w4.heap.size, 4, none⟩ = some (.slice ga4 gs4.length gc4) ∧ w'.cell? ⟨w4.heap.size, 5, none⟩ = some (.bool fell4)) ∧ (w'.cell? ⟨w.heap.size, 0, none⟩ = some (.int .i64 me) ∧ w'.cell? ⟨w.heap.size, 1, none⟩ = some (.int .i64 ck) ∧ w'.cell? ⟨w.heap.size, 2, none⟩ = some (.slice ca ns.length cc) ∧ w'.cell? ⟨w.heap.size, 3, none⟩ = some (.slice la log.length lc) ∧ w'.cell? ⟨w.heap.size, 4, none⟩ = some (.slice ga gs.length gc) ∧ w'.cell? ⟨w.heap.size, 5, none⟩ = some (.bool fell)) ∧ Inv w w6.heap.size [(w5.heap.size, 36, plAt me5 ck5 ca5 ns5.length cc5 la5 log5.length lc5 ga5 gs5.length gc5 fell5), (w4.heap.size, 36, plAt me4 ck4 ca4 ns4.length cc4 la4 log4.length lc4 ga4 gs4.length gc4 fell4), (w3.heap.size, 36, plAt me3 ck3 ca3 ns3.length cc3 la3 log3.length lc3 ga3 gs3.length gc3 fell3), (w.heap.size, 28, plAt me ck ca ns.length cc la log.length lc ga gs.length gc fell)] w' ∧ Hid (PRes w' W.heap.size w4.heap.size ⟨me4, ck4, ca4, cc4, ns4, la4, lc4, log4, ga4, gc4, gs4, fell4⟩) ∧ Hid (PRes w' w2.heap.size w3.heap.size ⟨me3, ck3, ca3, cc3, ns3, la3, lc3, log3, ga3, gc3, gs3, fell3⟩) ∧ Hid (PRes w' W4.heap.size w5.heap.size ⟨me5, ck5, ca5, cc5, ns5, la5, lc5, log5, ga5, gc5, gs5, fell5⟩))) (by kernel_rfl) (by exact ⟨(I4.drew.nth 1 rfl).six.1, (I4.drew.nth 3 rfl).six.1, I4.drew, O7.out.on (Below.refl _ _).drew, R7.out.on (Below.refl _ _).drew, Q7.out.on (Below.refl _ _).drew⟩) (fun hHeld => ?_)
    refine mvR 0 (some 45) hHeld ?_
    refine mvR 1 (some 46) hHeld ?_
    refine take_one 2 (by kernel_rfl) rfl (fun K hK => ?_)
    go_simp
    ((with_reducible refine (HTO.out _ hHeld.2.2.1.below).mono ?_); rintro e w7 ⟨q7, rfl, hli7, hc7, hR7, hb⟩; have CE := hide (HFW4.out q7 hli7); have R17 := hide hR7; obtain ⟨me7, ck7, ca7, cc7, ns7, la7, lc7, log7, ga7, gc7, gs7, fell7⟩ := q7; clear hR7 hli7 hc7)
    try go_wp2_with fail
    refine hK.out _ _ (by exact ⟨((hHeld.2.2.1.on hb).nth 1 rfl).six.1, ((hHeld.2.2.1.on hb).nth 3 rfl).six.1, hHeld.2.2.1.on hb, hHeld.2.2.2.1.out.on hb, hHeld.2.2.2.2.1.out.on hb, hHeld.2.2.2.2.2.out.on hb⟩) (fun hHeld => ?_)
    clear hK K
    refine take_one 3 (by kernel_rfl) rfl (fun K hK => ?_)
    go_simp
    ((with_reducible refine (CE.out _ _ _ _ _ hHeld.2.2.2.1.out R17.out).mono ?_); rintro e w8 ⟨rfl, hb⟩)
    try go_wp2_with fail
    refine hK.out _ _ (by exact ⟨((hHeld.2.2.1.on hb).nth 1 rfl).six.1, ((hHeld.2.2.1.on hb).nth 3 rfl).six.1, hHeld.2.2.1.on hb, hHeld.2.2.2.1.out.on hb, hHeld.2.2.2.2.1.out.on hb, hHeld.2.2.2.2.2.out.on hb⟩) (fun hHeld => ?_)
    clear hK K
    refine mvR 4 (some 49) hHeld ?_
    refine wpAnyH_done (by kernel_rfl) ?_ _
    refine NoPanic.normal ?_
    obtain ⟨-, -, I5, O8, R8, Q8⟩ := hHeld
    clear I4 R7 Q7 O7 R17 CE
    have I6 := I5.top
    have k5 := (I6.nth 1 rfl).six
    have zI5 := I5.room
    clear I5
    have hwp := (HMK.out _ HL4.out).2.2
    have hwq := (HMK.out _ HL4.out).2.1
    have C9 := hide (markPlace_own W.heap.size w4.heap.size _ 1 w8 O8.out (by omega) (HMK.out _ HL4.out).1 (by omega) hwq)
    unfold MarkedP at C9
    generalize wtP ⟨me4, ck4, ca4, cc4, ns4, la4, lc4, log4, ga4, gc4, gs4, fell4⟩ = wt4 at hwp hwq C9
    go_wp2_with fail
    with_reducible refine C9.out.mono ?_
    rintro e w9 ⟨rfl, -, hT9⟩
    have R10 := hide (R8.out.turn hT9 (fun g h1 h2 h3 => by omega))
    have Q10 := hide (Q8.out.turn hT9 (fun g h1 h2 h3 => by omega))
    have I7 := I6.turned hT9 (fun g h => by have := I6.base; have := zW; have := z2; have hq := h.1; omega) (fun x hx h => by
      simp only [List.mem_cons, List.not_mem_nil, or_false] at hx
      rcases hx with rfl | rfl | rfl | rfl <;> simp only at h <;> omega)
    have z9 := hT9.size
    have hp9 : ¬ ((1 : Int) + wt4 < 0) := by omega
    have k7 := (I7.nth 0 rfl).six
    have k8 := (I7.nth 2 rfl).six
    clear R8 Q8 I6 hT9 O8 C9 k5
    have C10 := hide (HEQ.out _ _ HL5.out HL3.out _ _ _ _ w9 Q10.out R10.out)
    go_wp2_with fail
    with_reducible refine C10.out.mono ?_
    rintro e w10 ⟨rfl, hb10⟩
    have z10 := hb10.size
    have I8 := (I7.on hb10).top
    have R11 := hide (R10.out.on hb10)
    have Q11 := hide (Q10.out.on hb10)
    have zI7 := I7.room
    clear I7 R10 Q10 hb10 k7 k8 C10
    have k7 := (I8.nth 0 rfl).six
    have hwr := (HFN.out _ HL5.out).2.2
    have hws := (HFN.out _ HL5.out).2.1
    have C11 := hide (markPlace_own W4.heap.size w5.heap.size _ 1 w10 Q11.out (by omega) (HFN.out _ HL5.out).1 (by omega) hws)
    have CH := hide (fun W hR => heldPlace_own W4.heap.size w5.heap.size _ 1 W hR (HFN.out _ HL5.out).1 (by omega) hws)
    unfold MarkedP at C11
    generalize wtP ⟨me5, ck5, ca5, cc5, ns5, la5, lc5, log5, ga5, gc5, gs5, fell5⟩ = wt5 at hwr hws C11 CH
    go_wp2_with fail
    with_reducible refine C11.out.mono ?_
    rintro e w11 ⟨rfl, Q12, hT11⟩
    have R12 := hide (R11.out.turn hT11 (fun g h1 h2 h3 => by omega))
    have Q12 := hide Q12
    have I9 := I8.turned hT11 (fun g h => by have := I8.base; have hq := h.1; omega) (fun x hx h => by
      simp only [List.mem_cons, List.not_mem_nil, or_false] at hx
      rcases hx with rfl | rfl | rfl | rfl <;> simp only at h <;> omega)
    have z11 := hT11.size
    clear R11 Q11 I8 hT11 k7 C11
    have k7 := (I9.nth 0 rfl).six
    have C12 := hide (CH.out w11 Q12.out)
    go_wp2_with fail
    with_reducible refine C12.out.mono ?_
    rintro e w12 ⟨rfl, hb12⟩
    have z12 := hb12.size
    have I10 := (I9.on hb12).top
    have R13 := hide (R12.out.on hb12)
    have Q13 := hide (Q12.out.on hb12)
    clear I9 R12 Q12 hb12 k7 C12
    have hp12 : ¬ ((1 : Int) + wt5 < 0) := by omega
    have hne : ((1 : Int) + wt5 != 1 + wt5) = false := by simp
    have k10 := (I10.nth 3 rfl).six
    go_wp2_with fail
    with_reducible refine (HTO.out _ I10.below).mono ?_
    rintro e w13 ⟨q13, rfl, hli13, hc13, hR13, hb13⟩
    have z13 := hb13.size
    have I11 := (I10.on hb13).top
    have R14 := hide (R13.out.on hb13)
    have Q14 := hide (Q13.out.on hb13)
    have HC13 := hide (HIM.out q13 w13 _ _ hli13 hc13 hR13)
    obtain ⟨me13, ck13, ca13, cc13, ns13, la13, lc13, log13, ga13, gc13, gs13, fell13⟩ := q13
    clear I10 R13 Q13 hb13 hR13 hli13 hc13 k10
    go_wp2_with fail
    with_reducible refine HC13.out.mono ?_
    rintro e w14 ⟨q14, rfl, hq14, hr14, hb14⟩
    have HL14 := hide hq14
    have z14 := hb14.size
    have I12 := ((I11.on hb14).top).box 36 (plCells q14)
    have R15 := hide ((R14.out.on hb14).alloc (.cells (plCells q14) 36))
    have Q15 := hide ((Q14.out.on hb14).alloc (.cells (plCells q14) 36))
    have P15 := hide (hr14.alloc (.cells (plCells q14) 36))
    obtain ⟨me14, ck14, ca14, cc14, ns14, la14, lc14, log14, ga14, gc14, gs14, fell14⟩ := q14
    have k9 := (I12.nth 3 rfl).six
    clear I11 R14 Q14 hq14 hr14 hb14 HC13
    go_wp2_with fail
    generalize w14.alloc (.cells (plAt me14 ck14 ca14 ns14.length cc14 la14 log14.length lc14 ga14 gs14.length gc14 fell14) 36) = W14 at I12 R15 Q15 P15 k9 ⊢
    have C15 := hide (HEQ.out _ _ HL14.out HL3.out _ _ _ _ W14 P15.out R15.out)
    with_reducible refine C15.out.mono ?_
    rintro e w15 ⟨rfl, hb15⟩
    have I13 := (I12.on hb15).top
    have Q16 := hide (Q15.out.on hb15)
    clear I12 R15 Q15 P15 hb15 k9 C15
    have k9 := (I13.nth 1 rfl).six
    have C16 := hide (CH.out w15 Q16.out)
    go_wp2_with fail
    with_reducible refine C16.out.mono ?_
    rintro e w16 ⟨rfl, hb16⟩
    have I14 := I13.on hb16
    clear I13 Q16 k9 hb16 C16
    go_wp2
    go_ret
    exact ⟨rfl, I14.below⟩
  · have HSZ := hide (szPlace_not p 1048576 _ (by omega) (by omega) HM.out (by omega) ((hv.on S0.below).up S0.base))
    obtain ⟨me, ck, ca, cc, ns, la, lc, log, ga, gc, gs, fell⟩ := p
    have q0 := (S0.nth 0 rfl).six
    go_enter Tryz.func4, Tryz.ntmps4
    go_wp2_with fail
    with_reducible refine HSZ.out.mono ?_
    rintro e w1 ⟨rfl, hb1⟩
    have S1 := S0.on hb1
    clear S0 q0
    go_wp2
    go_ret
    exact ⟨rfl, S1.below⟩

set_option maxRecDepth 100000 in
theorem lifted (os : Os) (started : os.Started) (H : Type) (enc : TypeId × Value → H) :
    ReturnsInHanded {} Tryz.checked os 4 .any (Rows.fnExactPlaceFallSpec.pre6 enc Tryz.prog Tryz.f4 Rows.fnExactPlaceFallRow.domain false) (Rows.fnExactPlaceFallSpec.post enc Tryz.prog Tryz.f4 false true false false) := by
  refine returnsInHanded_of_change (C := Tryz.checked) own started (by kernel_rfl) Tryz.func4
    (ChangeSpec.witness6 (enc := enc) (C := Tryz.checked) false ⟨#[], #[.agg #[.int .i64 0, .int .i64 0, .slice none 0 0, .slice none 0 0, .slice none 0 0, .bool false], .int .i64 0], []⟩ 8 (by kernel_rfl) (by kernel_rfl) (by kernel_rfl) (by kernel_rfl)) ?_
  intro W base args ds gs before hval0 hW hcnd _
  have hval : ∀ (j : Nat) t v, Tryz.f4.params[j]? = some t → args[j]? = some v → Value.okWide Tryz.prog W .any base t v := hval0
  have hW' := hW
  obtain ⟨p, q, hA0, hV, rfl, hfz, hnd⟩ := hW
  have hA : DataW.TrodAll enc Tryz.prog W 0 (fun _ => true) true Tryz.f4.params.toList args.toList ds p := hA0
  rw [Tryz.params4] at hA hval
  have hK := hA
  obtain ⟨v0, vs0, d0, ds0, p0, q0, hargs, rfl, rfl, h0, r0⟩ := trodAll_cons hA
  obtain ⟨v1, vs1, d1, ds1, p1, q1, rfl, rfl, rfl, h1, r1⟩ := trodAll_cons r0
  obtain ⟨rfl, rfl, rfl⟩ := trodAll_nil r1
  obtain rfl : args = #[v0, v1] := by cases args; simp_all
  obtain ⟨rfl, rfl⟩ := trodVars_none hV
  obtain ⟨pl0, rfl, b0⟩ := read_place (hval 0 28 v0 rfl rfl) h0
  obtain ⟨a1, rfl, rfl, rfl, w1⟩ := open_int Tryz.underlying3 (hval 1 3 v1 rfl rfl) h1
  clear hA0 hval0
  refine (walk pl0 a1 W b0.1 b0.2).mono fun e W' ⟨he, hb⟩ => ?_
  subst he
  have hK' := stay_all hb (by intro t ht; simp only [List.mem_cons, List.not_mem_nil, or_false] at ht; rcases ht with rfl | rfl <;> exact ⟨by kernel_rfl, of_decide_eq_true (by kernel_rfl)⟩) hK
  exact ⟨_, rfl, _, _, _, [], _, [], hW', trodAll_mk1 (shut_bool Tryz.underlying4 _), hK', rfl, hb.frame _, fun h => by cases h⟩

theorem over : Rows.fnExactPlaceFallRow.holds Tryz.pinned (OpenSpec.ofChange Rows.fnExactPlaceFallSpec) :=
  OpenClaim.holds_of_wide 4 Tryz.f4 rfl rfl rfl rfl rfl rfl rfl ⟨rfl, rfl, rfl, rfl, rfl⟩ rfl rfl rfl rfl rfl (by kernel_rfl) Tryz.func4
    (by refine joined_of ?_; kernel_rfl) (of_decide_eq_true (by kernel_rfl)) (by unfold Func.isWrapper; first | (rw [if_pos (by decide +kernel)]; kernel_rfl) | (rw [if_neg (by decide +kernel)]; exact ⟨rfl, rfl⟩))
    (fun os started H enc _ => lifted os started H enc)
end Go.Proofs.YtnaggcdhimcilaaGreat.LawPlaceFall
namespace Go.Proofs.YtnaggcdhimcilaaGreat
/-- The statement itself. -/
theorem fnExactPlaceFall_holds : Rows.FnExactPlaceFallSaid := LawPlaceFall.over
#print axioms fnExactPlaceFall_holds
end Go.Proofs.YtnaggcdhimcilaaGreat
namespace Go.Proofs.YtnaggcdhimcilaaGreat.LawPlaceFall
end Go.Proofs.YtnaggcdhimcilaaGreat.LawPlaceFall
