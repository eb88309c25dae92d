/- The law FnExactChainOk holds: for every chain the program's ChainOk answers as the model's, and leaves its argument as it was. No condition. -/
import Derived.Test.YtpelibkdphgpjaaChainCopy
import Derived.Test.YtpelibkdphgpjaaChainSpec3
import Derived.Test.YtpelibkdphgpjaaTags
namespace Go.Proofs.Ytpelibkdphgpjaa.LawChainOk
open Go.ChangeShapes Go.WideShapes Go.ChangeAt Go.RowKit Go.Joins
attribute [local go_sem ↓] Go.wp_at_zero Go.wp_at_succ

set_option maxRecDepth 100000 in
set_option maxHeartbeats 2000000 in
theorem walk (a : Option Addr) (c : Nat) (ns : List Nd) (w : World) (hv : Ng w w.heap.size a ns) (hl : ns.length ≤ 9223372036854775807) (hB : BigN ns) :
    Calls Try.prog 4 #[.agg #[.slice a ns.length c]] w fun e w' => e = .returned (.bool true) ∧ Below w.heap.size w w' := by
  have S0 := (Inv.start w).box 39 #[.slice a ns.length c]
  simp only [World.size_alloc] at S0
  have HM := hide hB
  clear hB
  by_cases hsum : ns.length + totNs ns ≤ 1048576
  · have hn : ns.length ≤ 1048576 := by omega
    have SM := hide (smN_fits HM.out hsum)
    have HTO : Hid (∀ W, Below w.heap.size w W → Calls Try.prog 20 #[.agg #[.slice a ns.length c]] W (CopiedC W ns)) := fun W hW => toChain_own a c ns W hn SM.out ((hv.on hW).up hW.size)
    go_enter Try.func4, Try.ntmps4
    go_wp2_with fail
    refine (szChain_fits a c ns 1048576 _ (by omega) (by omega) ((hv.on S0.below).up S0.base)).mono ?_
    rintro e w1 ⟨rfl, hb1⟩
    have S1 := S0.on hb1
    have k1 := (S1.nth 0 rfl).one.1
    have hp : ¬ ((1048576 : Int) - (ns.length : Int) - (totNs ns : Int) < 0) := by omega
    go_wp2_with fail
    with_reducible refine (HTO.out _ S1.below).mono ?_
    rintro e w2 ⟨g2, us2, cur2, rfl, hli2, hR2, hb2⟩
    have S2 := S1.on hb2
    have CT := hide (specChainOk_any (some ⟨g2, 0, none⟩) ns.length us2 w2 (by rw [hli2.1]; exact hn) (smN_like hli2 SM.out) (.inr ⟨g2, cur2, rfl, hR2.cg⟩))
    rw [hli2.1, chainB_like hli2] at CT
    clear S0 S1 k1 hR2 hli2
    go_wp2_with fail
    with_reducible refine CT.out.mono ?_
    rintro e w3 ⟨rfl, hb3⟩
    have S3 := S2.on hb3
    have k3 := (S3.nth 0 rfl).one.1
    clear S2 CT
    go_wp2_with fail
    with_reducible refine (HTO.out _ S3.below).mono ?_
    rintro e w4 ⟨g4, us4, cur4, rfl, hli4, hR4, hb4⟩
    have S4 := ((S3.on hb4).top).box 26 #[.slice (some ⟨g4, 0, none⟩) ns.length ns.length]
    have R4 := hide (hR4.on (below_alloc1 w4 (.cells #[.slice (some ⟨g4, 0, none⟩) ns.length ns.length] 26)))
    have HI4 := hide hli4
    clear S3 k3 hR4 hli4
    go_wp2_with fail
    generalize w4.alloc (.cells #[.slice (some ⟨g4, 0, none⟩) ns.length ns.length] 26) = W4 at S4 R4 ⊢
    have C4 := hide (implChainOk_any (some ⟨g4, 0, none⟩) ns.length us4 W4 (by rw [HI4.out.1]; exact hn) (smN_like HI4.out SM.out) (.inr ⟨g4, cur4, rfl, R4.out.cg⟩))
    rw [HI4.out.1, chainB_like HI4.out] at C4
    with_reducible refine C4.out.mono ?_
    rintro e w5 ⟨rfl, hb5⟩
    have S5 := S4.on hb5
    have R5 := hide (R4.out.on hb5)
    clear S4 C4 R4
    generalize chainB ns = x
    go_wp2_with fail
    refine wp_region_noPanic ?_
    refine wp_region_held_drew (S := (fun w' => w'.cell? ⟨w4.heap.size, 0, none⟩ = some (.slice (some ⟨g4, 0, none⟩) ns.length ns.length) ∧ w'.cell? ⟨w.heap.size, 0, none⟩ = some (.slice a ns.length c) ∧ Inv w W4.heap.size [(w4.heap.size, 26, #[.slice (some ⟨g4, 0, none⟩) ns.length ns.length]), (w.heap.size, 39, #[.slice a ns.length c])] w' ∧ Hid (NRow w' w3.heap.size w4.heap.size g4 us4 cur4))) (by kernel_rfl) (by exact ⟨(S5.nth 0 rfl).at 0, (S5.nth 1 rfl).at 0, S5.drew, R5.out.on (Below.refl _ _).drew⟩) (fun hHeld => ?_)
    refine take_run 0 (some 22) (v := ?_) rfl rfl (by kernel_rfl) (by kernel_rfl) (by kernel_rfl) (fun _ _ _ h => h) (by rfl) ?_ hHeld ?_
    rotate_left
    · ((intro w hSw); (try dsimp only at hSw); go_simp <;> with_reducible rfl)
    simp only [Act.put, List.setIfInBounds_toArray, List.set_cons_zero, List.set_cons_succ]
    refine take_run 1 (some 23) (v := ?_) rfl rfl (by kernel_rfl) (by kernel_rfl) (by kernel_rfl) (fun _ _ _ h => h) (by rfl) ?_ hHeld ?_
    rotate_left
    · ((intro w hSw); (try dsimp only at hSw); go_simp <;> with_reducible rfl)
    simp only [Act.put, List.setIfInBounds_toArray, List.set_cons_zero, List.set_cons_succ]
    refine take_one 2 (by kernel_rfl) rfl (fun K hK => ?_)
    go_simp
    ((with_reducible refine (HTO.out _ hHeld.2.2.1.below).mono ?_); rintro e w6 ⟨g6, us6, cur6, rfl, hli6, hR6, hb⟩; have R6 := hide hR6; have HI6 := hide hli6; clear hR6 hli6)
    try go_wp2_with fail
    refine hK.out _ _ (by exact ⟨((hHeld.2.2.1.on hb).nth 0 rfl).at 0, ((hHeld.2.2.1.on hb).nth 1 rfl).at 0, hHeld.2.2.1.on hb, hHeld.2.2.2.out.on hb⟩) (fun hHeld => ?_)
    clear hK K
    refine take_one 3 (by kernel_rfl) rfl (fun K hK => ?_)
    go_simp
    ((with_reducible refine (eqChain_copies _ _ _ _ _ _ _ _ ns us4 us6 cur4 cur6 _ hn SM.out HI4.out HI6.out hHeld.2.2.2.out R6.out).mono ?_); rintro e w7 ⟨rfl, hb⟩)
    try go_wp2_with fail
    refine hK.out _ _ (by exact ⟨((hHeld.2.2.1.on hb).nth 0 rfl).at 0, ((hHeld.2.2.1.on hb).nth 1 rfl).at 0, hHeld.2.2.1.on hb, hHeld.2.2.2.out.on hb⟩) (fun hHeld => ?_)
    clear hK K
    refine take_run 4 (some 26) (v := ?_) rfl rfl (by kernel_rfl) (by kernel_rfl) (by kernel_rfl) (fun _ _ _ h => h) (by rfl) ?_ hHeld ?_
    rotate_left
    · ((intro w hSw); (try dsimp only at hSw); go_simp <;> with_reducible rfl)
    simp only [Act.put, List.setIfInBounds_toArray, List.set_cons_zero, List.set_cons_succ]
    refine wpAnyH_done (by kernel_rfl) ?_ _
    refine NoPanic.normal ?_
    have S6 := hHeld.2.2.1
    clear hHeld
    go_wp2
    go_ret
    exact ⟨rfl, S6.below⟩
  · go_enter Try.func4, Try.ntmps4
    go_wp2_with fail
    refine (szChain_not a c ns 1048576 _ (by omega) (by omega) hl HM.out (by omega) ((hv.on S0.below).up S0.base)).mono ?_
    rintro e w1 ⟨rfl, hb1⟩
    have S1 := S0.on hb1
    clear S0
    go_wp2
    go_ret
    exact ⟨rfl, S1.below⟩

set_option maxRecDepth 100000 in
theorem lifted (os : Os) (started : os.Started) (H : Type) (enc : TypeId × Value → H) :
    ReturnsInHanded {} Try.checked os 4 .any (Rows.fnExactChainOkSpec.pre6 enc Try.prog Try.f4 Rows.fnExactChainOkRow.domain false) (Rows.fnExactChainOkSpec.post enc Try.prog Try.f4 false true false false) := by
  refine returnsInHanded_of_change (C := Try.checked) own started (by kernel_rfl) Try.func4
    (ChangeSpec.witness6 (enc := enc) (C := Try.checked) false ⟨#[], #[.agg #[.slice none 0 0]], []⟩ 8 (by kernel_rfl) (by kernel_rfl) (by kernel_rfl) (by kernel_rfl)) ?_
  intro W base args ds gs before hval0 hW hcnd _
  have hval : ∀ (j : Nat) t v, Try.f4.params[j]? = some t → args[j]? = some v → Value.okWide Try.prog W .any base t v := hval0
  have hW' := hW
  obtain ⟨p, q, hA0, hV, rfl, hfz, hnd⟩ := hW
  have hA : DataW.TrodAll enc Try.prog W 0 (fun _ => true) true Try.f4.params.toList args.toList ds p := hA0
  rw [Try.params4] at hA hval
  have hK := hA
  obtain ⟨v0, vs0, d0, ds0, p0, q0, hargs, rfl, rfl, h0, r0⟩ := trodAll_cons hA
  obtain ⟨rfl, rfl, rfl⟩ := trodAll_nil r0
  obtain rfl : args = #[v0] := by cases args; simp_all
  obtain ⟨rfl, rfl⟩ := trodVars_none hV
  obtain ⟨a0, cap0, z0, rfl, b0⟩ := read_chain (hval 0 39 v0 rfl rfl) h0
  clear hA0 hval0
  refine (walk a0 cap0 z0 W b0.1 b0.2.1 b0.2.2).mono fun e W' ⟨he, hb⟩ => ?_
  subst he
  have hK' := stay_all hb (by intro t ht; simp only [List.mem_cons, List.not_mem_nil, or_false] at ht; rcases ht with rfl <;> exact ⟨by kernel_rfl, of_decide_eq_true (by kernel_rfl)⟩) hK
  exact ⟨_, rfl, _, _, _, [], _, [], hW', trodAll_mk1 (shut_bool Try.underlying4 _), hK', rfl, hb.frame _, fun h => by cases h⟩

theorem over : Rows.fnExactChainOkRow.holds Try.pinned (OpenSpec.ofChange Rows.fnExactChainOkSpec) :=
  OpenClaim.holds_of_wide 4 Try.f4 rfl rfl rfl rfl rfl rfl rfl ⟨rfl, rfl, rfl, rfl, rfl⟩ rfl rfl rfl rfl rfl (by kernel_rfl) Try.func4
    (by refine joined_of ?_; kernel_rfl) (of_decide_eq_true (by kernel_rfl)) (by unfold Func.isWrapper; first | (rw [if_pos (by decide +kernel)]; kernel_rfl) | (rw [if_neg (by decide +kernel)]; exact ⟨rfl, rfl⟩))
    (fun os started H enc _ => lifted os started H enc)
end Go.Proofs.Ytpelibkdphgpjaa.LawChainOk
namespace Go.Proofs.Ytpelibkdphgpjaa
/-- The statement itself. -/
theorem fnExactChainOk_holds : Rows.FnExactChainOkSaid := LawChainOk.over
#print axioms fnExactChainOk_holds
end Go.Proofs.Ytpelibkdphgpjaa
namespace Go.Proofs.Ytpelibkdphgpjaa.LawChainOk
end Go.Proofs.Ytpelibkdphgpjaa.LawChainOk
