/- The law FnExactPlaceOk holds: for every place the program's PlaceOk answers as the model's, and leaves its argument as it was. No condition. -/
import Derived.Test.YtbbaogpgapemhaaGreatJSlotPure
import Derived.Test.YtbbaogpgapemhaaGreatJChainClone2
import Derived.Test.YtbbaogpgapemhaaGreatJPlaceSpec2
import Derived.Test.YtbbaogpgapemhaaGreatJPlaceSpec3
import Derived.Test.YtbbaogpgapemhaaGreatJNotePure
import Derived.Test.YtbbaogpgapemhaaGreatJPastOk
namespace Go.Proofs.YtbbaogpgapemhaaGreat.LawPlaceOk
open Go.ChangeShapes Go.WideShapes Go.ChangeAt Go.RowKit Go.Joins
attribute [local go_sem ↓] Go.wp_at_zero Go.wp_at_succ

set_option maxRecDepth 100000 in
set_option maxHeartbeats 4000000 in
theorem walk (p : Pl) (w : World) (hv : Pg w w.heap.size p) (hB : BigP p) :
    Calls Tryz.prog 3 #[.agg (plCells p)] w fun e w' => e = .returned (.bool true) ∧ Below w.heap.size w w' := by
  have S0 := (Inv.start w).box 28 (plCells p)
  simp only [World.size_alloc] at S0
  have HM := hide hB
  clear hB
  by_cases hsum : totP p ≤ 1048576
  · have SM := hide (smP_fits HM.out hsum)
    have HTO : Hid (∀ W, Below w.heap.size w W → Calls Tryz.prog 12 #[.agg (plCells p)] W (CopiedPl W p)) := fun W hW => toPlace_own p W SM.out ((hv.on hW).up hW.size)
    have HSZ := hide (szPlace_fits p 1048576 _ (by omega) (by omega) ((hv.on S0.below).up S0.base))
    have hp : ¬ ((1048576 : Int) - (totP p : Int) < 0) := by omega
    have HFW : Hid (∀ q q', LP q p → LP q' p → ∀ B U B' U' W, PRes W B U q → PRes W B' U' q' → Calls Tryz.prog 14 #[.agg (plCells q), .agg (plCells q')] W fun e w' => e = .returned (.bool true) ∧ Below W.heap.size W w') := fun q q' h h' B U B' U' W r r' => eqPlace_own B U B' U' q q' W (lp_trans h (lp_symm h')) (smP_few (smP_like h SM.out)) r r'
    have HSP : Hid (∀ q W B U, LP q p → PRes W B U q → Calls Tryz.prog 11 #[.agg (plCells q)] W fun e w' => e = .returned (.bool (plB p)) ∧ Below W.heap.size W w') := fun q W B U h r => by
      rw [← plB_like h]
      exact specPlaceOk_any q W (smP_like h SM.out) r.cp
    have HIM : Hid (∀ q W B U, LP q p → (q.lc = q.log.length ∧ ∀ l ∈ q.gs, l.c = l.vs.length) → PRes W B U q → Calls Tryz.prog 13 #[.agg (plCells q)] W fun e w' => e = .returned (.bool (plB p)) ∧ Below W.heap.size W w') := fun q W B U h hc r => by
      rw [← plB_like h]
      exact implPlaceOk_any q W (smP_like h SM.out) ⟨by rw [hc.1]; exact Nat.le_refl _, fun l hl => by rw [hc.2 l hl]; exact Nat.le_refl _⟩ r.cp
    generalize plB p = x at HSP HIM
    generalize (totP p : Int) = tp at HSZ hp
    obtain ⟨me, ck, ca, cc, ns, la, lc, log, ga, gc, gs, fell⟩ := p
    have q0 := (S0.nth 0 rfl).six
    go_enter Tryz.func3, Tryz.ntmps3
    go_wp2_with fail
    with_reducible refine HSZ.out.mono ?_
    rintro e w1 ⟨rfl, hb1⟩
    have S1 := S0.on hb1
    have q1 := (S1.nth 0 rfl).six
    clear q0 HSZ
    go_wp2_with fail
    with_reducible refine (HTO.out _ S1.below).mono ?_
    rintro e w2 ⟨p2, rfl, hli2, hc2, hR2, hb2⟩
    have S2 := S1.on hb2
    have CT := hide (HSP.out p2 w2 _ _ hli2 hR2)
    obtain ⟨me2, ck2, ca2, cc2, ns2, la2, lc2, log2, ga2, gc2, gs2, fell2⟩ := p2
    clear S0 S1 q1 hR2 hli2 hc2
    go_wp2_with fail
    with_reducible refine CT.out.mono ?_
    rintro e w3 ⟨rfl, hb3⟩
    have S3 := S2.on hb3
    have q3 := (S3.nth 0 rfl).six
    clear S2 CT
    go_wp2_with fail
    with_reducible refine (HTO.out _ S3.below).mono ?_
    rintro e w4 ⟨p4, rfl, hli4, hc4, hR4, hb4⟩
    have HI4 := hide hli4
    have HC4 := hide hc4
    have S4 := ((S3.on hb4).top).box 37 (plCells p4)
    have R4 := hide (hR4.alloc (.cells (plCells p4) 37))
    have HFW4 := hide (fun q' h => HFW.out p4 q' hli4 h)
    have CI := hide (fun W hR => HIM.out p4 W w3.heap.size w4.heap.size HI4.out HC4.out hR)
    obtain ⟨me4, ck4, ca4, cc4, ns4, la4, lc4, log4, ga4, gc4, gs4, fell4⟩ := p4
    have q4 := (S4.nth 0 rfl).six
    clear S3 q3 hR4 hli4 hc4
    go_wp2_with fail
    generalize w4.alloc (.cells (plAt me4 ck4 ca4 ns4.length cc4 la4 log4.length lc4 ga4 gs4.length gc4 fell4) 37) = W4 at S4 R4 q4 ⊢
    with_reducible refine (CI.out W4 R4.out).mono ?_
    rintro e w5 ⟨rfl, hb5⟩
    have S5 := S4.on hb5
    have R5 := hide (R4.out.on hb5)
    clear S4 CI R4 q4
    go_wp2_with fail
    refine wp_region_noPanic ?_
    refine wp_region_held_drew (S := (fun w' => (w'.cell? ⟨w4.heap.size, 0, none⟩ = some (.int .i64 me4) ∧ w'.cell? ⟨w4.heap.size, 1, none⟩ = some (.int .i64 ck4) ∧ w'.cell? ⟨w4.heap.size, 2, none⟩ = some (.slice ca4 ns4.length cc4) ∧ w'.cell? ⟨w4.heap.size, 3, none⟩ = some (.slice la4 log4.length lc4) ∧ w'.cell? ⟨w4.heap.size, 4, none⟩ = some (.slice ga4 gs4.length gc4) ∧ w'.cell? ⟨w4.heap.size, 5, none⟩ = some (.bool fell4)) ∧ (w'.cell? ⟨w.heap.size, 0, none⟩ = some (.int .i64 me) ∧ w'.cell? ⟨w.heap.size, 1, none⟩ = some (.int .i64 ck) ∧ w'.cell? ⟨w.heap.size, 2, none⟩ = some (.slice ca ns.length cc) ∧ w'.cell? ⟨w.heap.size, 3, none⟩ = some (.slice la log.length lc) ∧ w'.cell? ⟨w.heap.size, 4, none⟩ = some (.slice ga gs.length gc) ∧ w'.cell? ⟨w.heap.size, 5, none⟩ = some (.bool fell)) ∧ Inv w W4.heap.size [(w4.heap.size, 37, plAt me4 ck4 ca4 ns4.length cc4 la4 log4.length lc4 ga4 gs4.length gc4 fell4), (w.heap.size, 28, plAt me ck ca ns.length cc la log.length lc ga gs.length gc fell)] w' ∧ Hid (PRes w' w3.heap.size w4.heap.size ⟨me4, ck4, ca4, cc4, ns4, la4, lc4, log4, ga4, gc4, gs4, fell4⟩))) (by kernel_rfl) (by exact ⟨(S5.drew.nth 0 rfl).six.1, (S5.drew.nth 1 rfl).six.1, S5.drew, R5.out.on (Below.refl _ _).drew⟩) (fun hHeld => ?_)
    refine take_run 0 (some 22) (v := ?_) rfl rfl (by kernel_rfl) (by kernel_rfl) (by kernel_rfl) (fun _ _ _ h => h) (by rfl) ?_ hHeld ?_
    rotate_left
    · ((intro w hSw); (try dsimp only at hSw); go_simp <;> with_reducible rfl)
    simp only [Act.put, List.setIfInBounds_toArray, List.set_cons_zero, List.set_cons_succ]
    refine take_run 1 (some 23) (v := ?_) rfl rfl (by kernel_rfl) (by kernel_rfl) (by kernel_rfl) (fun _ _ _ h => h) (by rfl) ?_ hHeld ?_
    rotate_left
    · ((intro w hSw); (try dsimp only at hSw); go_simp <;> with_reducible rfl)
    simp only [Act.put, List.setIfInBounds_toArray, List.set_cons_zero, List.set_cons_succ]
    refine take_one 2 (by kernel_rfl) rfl (fun K hK => ?_)
    go_simp
    ((with_reducible refine (HTO.out _ hHeld.2.2.1.below).mono ?_); rintro e w6 ⟨p6, rfl, hli6, hc6, hR6, hb⟩; have C6 := hide (HFW4.out p6 hli6); have R6 := hide hR6; obtain ⟨me6, ck6, ca6, cc6, ns6, la6, lc6, log6, ga6, gc6, gs6, fell6⟩ := p6; clear hR6 hli6 hc6)
    try go_wp2_with fail
    refine hK.out _ _ (by exact ⟨((hHeld.2.2.1.on hb).nth 0 rfl).six.1, ((hHeld.2.2.1.on hb).nth 1 rfl).six.1, hHeld.2.2.1.on hb, hHeld.2.2.2.out.on hb⟩) (fun hHeld => ?_)
    clear hK K
    refine take_one 3 (by kernel_rfl) rfl (fun K hK => ?_)
    go_simp
    ((with_reducible refine (C6.out _ _ _ _ _ hHeld.2.2.2.out R6.out).mono ?_); rintro e w7 ⟨rfl, hb⟩)
    try go_wp2_with fail
    refine hK.out _ _ (by exact ⟨((hHeld.2.2.1.on hb).nth 0 rfl).six.1, ((hHeld.2.2.1.on hb).nth 1 rfl).six.1, hHeld.2.2.1.on hb, hHeld.2.2.2.out.on hb⟩) (fun hHeld => ?_)
    clear hK K
    refine take_run 4 (some 26) (v := ?_) rfl rfl (by kernel_rfl) (by kernel_rfl) (by kernel_rfl) (fun _ _ _ h => h) (by rfl) ?_ hHeld ?_
    rotate_left
    · ((intro w hSw); (try dsimp only at hSw); go_simp <;> with_reducible rfl)
    simp only [Act.put, List.setIfInBounds_toArray, List.set_cons_zero, List.set_cons_succ]
    refine wpAnyH_done (by kernel_rfl) ?_ _
    refine NoPanic.normal ?_
    have S6 := hHeld.2.2.1
    clear hHeld
    go_wp2
    go_ret
    exact ⟨rfl, S6.below⟩
  · have HSZ := hide (szPlace_not p 1048576 _ (by omega) (by omega) HM.out (by omega) ((hv.on S0.below).up S0.base))
    obtain ⟨me, ck, ca, cc, ns, la, lc, log, ga, gc, gs, fell⟩ := p
    have q0 := (S0.nth 0 rfl).six
    go_enter Tryz.func3, Tryz.ntmps3
    go_wp2_with fail
    with_reducible refine HSZ.out.mono ?_
    rintro e w1 ⟨rfl, hb1⟩
    have S1 := S0.on hb1
    clear S0 q0
    go_wp2
    go_ret
    exact ⟨rfl, S1.below⟩

set_option maxRecDepth 100000 in
theorem lifted (os : Os) (started : os.Started) (H : Type) (enc : TypeId × Value → H) :
    ReturnsInHanded {} Tryz.checked os 3 .any (Rows.fnExactPlaceOkSpec.pre6 enc Tryz.prog Tryz.f3 Rows.fnExactPlaceOkRow.domain false) (Rows.fnExactPlaceOkSpec.post enc Tryz.prog Tryz.f3 false true false false) := by
  refine returnsInHanded_of_change (C := Tryz.checked) own started (by kernel_rfl) Tryz.func3
    (ChangeSpec.witness6 (enc := enc) (C := Tryz.checked) false ⟨#[], #[.agg #[.int .i64 0, .int .i64 0, .slice none 0 0, .slice none 0 0, .slice none 0 0, .bool false]], []⟩ 8 (by kernel_rfl) (by kernel_rfl) (by kernel_rfl) (by kernel_rfl)) ?_
  intro W base args ds gs before hval0 hW hcnd _
  have hval : ∀ (j : Nat) t v, Tryz.f3.params[j]? = some t → args[j]? = some v → Value.okWide Tryz.prog W .any base t v := hval0
  have hW' := hW
  obtain ⟨p, q, hA0, hV, rfl, hfz, hnd⟩ := hW
  have hA : DataW.TrodAll enc Tryz.prog W 0 (fun _ => true) true Tryz.f3.params.toList args.toList ds p := hA0
  rw [Tryz.params3] at hA hval
  have hK := hA
  obtain ⟨v0, vs0, d0, ds0, p0, q0, hargs, rfl, rfl, h0, r0⟩ := trodAll_cons hA
  obtain ⟨rfl, rfl, rfl⟩ := trodAll_nil r0
  obtain rfl : args = #[v0] := by cases args; simp_all
  obtain ⟨rfl, rfl⟩ := trodVars_none hV
  obtain ⟨pl0, rfl, b0⟩ := read_place (hval 0 28 v0 rfl rfl) h0
  clear hA0 hval0
  refine (walk pl0 W b0.1 b0.2).mono fun e W' ⟨he, hb⟩ => ?_
  subst he
  have hK' := stay_all hb (by intro t ht; simp only [List.mem_cons, List.not_mem_nil, or_false] at ht; rcases ht with rfl <;> exact ⟨by kernel_rfl, of_decide_eq_true (by kernel_rfl)⟩) hK
  exact ⟨_, rfl, _, _, _, [], _, [], hW', trodAll_mk1 (shut_bool Tryz.underlying4 _), hK', rfl, hb.frame _, fun h => by cases h⟩

theorem over : Rows.fnExactPlaceOkRow.holds Tryz.pinned (OpenSpec.ofChange Rows.fnExactPlaceOkSpec) :=
  OpenClaim.holds_of_wide 3 Tryz.f3 rfl rfl rfl rfl rfl rfl rfl ⟨rfl, rfl, rfl, rfl, rfl⟩ rfl rfl rfl rfl rfl (by kernel_rfl) Tryz.func3
    (by refine joined_of ?_; kernel_rfl) (of_decide_eq_true (by kernel_rfl)) (by unfold Func.isWrapper; first | (rw [if_pos (by decide +kernel)]; kernel_rfl) | (rw [if_neg (by decide +kernel)]; exact ⟨rfl, rfl⟩))
    (fun os started H enc _ => lifted os started H enc)
end Go.Proofs.YtbbaogpgapemhaaGreat.LawPlaceOk
namespace Go.Proofs.YtbbaogpgapemhaaGreat
/-- The statement itself. -/
theorem fnExactPlaceOk_holds : Rows.FnExactPlaceOkSaid := LawPlaceOk.over
#print axioms fnExactPlaceOk_holds
end Go.Proofs.YtbbaogpgapemhaaGreat
namespace Go.Proofs.YtbbaogpgapemhaaGreat.LawPlaceOk
end Go.Proofs.YtbbaogpgapemhaaGreat.LawPlaceOk
