/- The law FnExactPastWithin holds: for every two vectors of tags the program's PastWithin answers as the model's, and leaves its arguments as they were. No condition. -/
import Derived.Test.YtnblnafajlnofaaLift
import Derived.Test.YtnblnafajlnofaaPastWithin
import Derived.Test.YtnblnafajlnofaaReg
namespace Go.Proofs.Ytnblnafajlnofaa.LawPastWithin
open Go.ChangeShapes Go.WideShapes Go.ChangeAt Go.RowKit Go.Joins
attribute [local go_sem ↓] Go.wp_at_zero Go.wp_at_succ

set_option maxRecDepth 100000 in
set_option maxHeartbeats 4000000 in
theorem walk (a : Option Addr) (c : Nat) (ts : List (Int × Int)) (a' : Option Addr) (c' : Nat) (us : List (Int × Int)) (w : World) (ht : Tg w w.heap.size a ts) (hl : ts.length ≤ 9223372036854775807) (hu : Tg w w.heap.size a' us) (hl' : us.length ≤ 9223372036854775807) :
    Calls Try.prog 13 #[.agg #[.slice a ts.length c], .agg #[.slice a' us.length c']] w fun e w' => e = .returned (.bool true) ∧ Below w.heap.size w w' := by
  have S0 := ((Inv.start w).box 47 #[.slice a ts.length c]).box 47 #[.slice a' us.length c']
  simp only [World.size_alloc] at S0
  by_cases hn : ts.length ≤ 1048576
  · go_enter Try.func13, Try.ntmps13
    go_wp2_with fail
    generalize (w.alloc (.cells #[.slice a ts.length c] 47)).alloc (.cells #[.slice a' us.length c'] 47) = W at S0 ⊢
    refine (szPast_fits a ts.length c 1048576 _ (by omega) (by omega)).mono ?_
    rintro e w1 ⟨rfl, hb1⟩
    have S1 := S0.on hb1
    have k1 := (S1.nth 0 rfl).one.1
    have hp : ¬ ((1048576 : Int) - (ts.length : Int) < 0) := by omega
    clear S0
    go_wp2_with fail
    by_cases hn2 : (us.length : Int) ≤ 1048576 - (ts.length : Int)
    · have hn' : us.length ≤ 1048576 := by omega
      refine (szPast_fits a' us.length c' _ _ (by omega) hn2).mono ?_
      rintro e w2 ⟨rfl, hb2⟩
      have S2 := S1.on hb2
      have hp2 : ¬ ((1048576 : Int) - (ts.length : Int) - (us.length : Int) < 0) := by omega
      clear S1 k1
      go_wp2_with fail
      clear hp hp2 hn2
      refine wp_region_noPanic ?_
      refine wp_region_held_drew (S := (fun w' => w'.cell? ⟨w.heap.size, 0, none⟩ = some (.slice a ts.length c) ∧ w'.cell? ⟨w.heap.size + 1, 0, none⟩ = some (.slice a' us.length c') ∧ Inv w (w.heap.size + 1 + 1) [(w.heap.size + 1, 47, #[.slice a' us.length c']), (w.heap.size, 47, #[.slice a ts.length c])] w')) (by kernel_rfl) (by exact ⟨(S2.nth 1 rfl).at 0, (S2.nth 0 rfl).at 0, S2.drew⟩) (fun hHeld => ?_)
      refine take_run 0 (some 20) (v := ?_) rfl rfl (by kernel_rfl) (by kernel_rfl) (by kernel_rfl) (fun _ _ _ h => h) (by rfl) ?_ hHeld ?_
      rotate_left
      · ((intro w hSw); (try dsimp only at hSw); go_simp <;> with_reducible rfl)
      simp only [Act.put, List.setIfInBounds_toArray, List.set_cons_zero, List.set_cons_succ]
      refine take_run 2 (some 22) (v := ?_) rfl rfl (by kernel_rfl) (by kernel_rfl) (by kernel_rfl) (fun _ _ _ h => h) (by rfl) ?_ hHeld ?_
      rotate_left
      · ((intro w hSw); (try dsimp only at hSw); go_simp <;> with_reducible rfl)
      simp only [Act.put, List.setIfInBounds_toArray, List.set_cons_zero, List.set_cons_succ]
      refine take_one 1 (by kernel_rfl) rfl (fun K hK => ?_)
      go_simp
      (refine (toPast_any a c ts _ hn ((ht.on hHeld.2.2.below).up hHeld.2.2.base)).mono ?_; rintro e w3 ⟨g3, cur3, rfl, hg3, hB3, hsz3, hcur3, hb⟩; have HC3 := hide hcur3; clear hcur3)
      try go_wp2_with fail
      refine hK.out _ _ (by exact ⟨((hHeld.2.2.on hb).nth 1 rfl).at 0, ((hHeld.2.2.on hb).nth 0 rfl).at 0, hHeld.2.2.on hb⟩) (fun hHeld => ?_)
      clear hK K
      refine take_one 3 (by kernel_rfl) rfl (fun K hK => ?_)
      go_simp
      (refine (toPast_any a' c' us _ hn' ((hu.on hHeld.2.2.below).up hHeld.2.2.base)).mono ?_; rintro e w4 ⟨g4, cur4, rfl, hg4, hB4, hsz4, hcur4, hb⟩; have HC4 := hide hcur4; have hB3' := hB3.on hb; clear hcur4)
      try go_wp2_with fail
      refine hK.out _ _ (by exact ⟨((hHeld.2.2.on hb).nth 1 rfl).at 0, ((hHeld.2.2.on hb).nth 0 rfl).at 0, hHeld.2.2.on hb⟩) (fun hHeld => ?_)
      clear hK K
      refine take_one 4 (by kernel_rfl) rfl (fun K hK => ?_)
      go_simp
      (refine (specPastWithin_any _ _ _ _ ts us _ hn hn' (Tg.of hB3' hB3'.inside HC3.out) (Tg.of hB4 hB4.inside HC4.out)).mono ?_; rintro e w5 ⟨rfl, hb⟩)
      try go_wp2_with fail
      refine hK.out _ _ (by exact ⟨((hHeld.2.2.on hb).nth 1 rfl).at 0, ((hHeld.2.2.on hb).nth 0 rfl).at 0, hHeld.2.2.on hb⟩) (fun hHeld => ?_)
      clear hK K
      refine take_run 5 (some 6) (v := ?_) rfl rfl (by kernel_rfl) (by kernel_rfl) (by kernel_rfl) (fun _ _ _ h => h) (by rfl) ?_ hHeld ?_
      rotate_left
      · ((intro w hSw); (try dsimp only at hSw); go_simp <;> with_reducible rfl)
      simp only [Act.put, List.setIfInBounds_toArray, List.set_cons_zero, List.set_cons_succ]
      refine wpAnyH_done (by kernel_rfl) ?_ _
      refine NoPanic.normal ?_
      have S3 := hHeld.2.2
      have k1 := (S3.nth 1 rfl).one.1
      clear hHeld S2 hB3 hB4 hB3' HC3 HC4
      go_wp2_with fail
      refine (toPast_any a c ts _ hn ((ht.on S3.below).up S3.base)).mono ?_
      rintro e w6 ⟨g6, cur6, rfl, hg6, hB6, hsz6, hcur6, hb6⟩
      have S4 := (((S3.on hb6).add (by have := S3.base; omega) hB6)).box 33 #[.slice (some ⟨g6, 0, none⟩) ts.length ts.length]
      have HC6 := hide hcur6
      have k2 := (S4.nth 2 rfl).one.1
      clear S3 k1 hcur6
      go_wp2_with fail
      generalize w6.alloc (.cells #[.slice (some ⟨g6, 0, none⟩) ts.length ts.length] 33) = W6 at S4 k2 ⊢
      refine (toPast_any a' c' us _ hn' ((hu.on S4.below).up S4.base)).mono ?_
      rintro e w7 ⟨g7, cur7, rfl, hg7, hB7, hsz7, hcur7, hb7⟩
      have S5 := (((S4.on hb7).add (by have := S4.base; omega) hB7)).box 33 #[.slice (some ⟨g7, 0, none⟩) us.length us.length]
      have HC7 := hide hcur7
      clear S4 k2 hcur7
      have k3 := (S5.nth 2 rfl).one.1
      go_wp2_with fail
      generalize w7.alloc (.cells #[.slice (some ⟨g7, 0, none⟩) us.length us.length] 33) = W7 at S5 k3 ⊢
      refine (implPastWithin_any _ _ _ _ ts us _ hn hn' (Tg.of (S5.nth 3 rfl) (S5.nth 3 rfl).inside HC6.out) (Tg.of (S5.nth 1 rfl) (S5.nth 1 rfl).inside HC7.out)).mono ?_
      rintro e w8 ⟨rfl, hb8⟩
      have S6 := (S5.on hb8).top
      clear S5 k3
      go_wp2_with fail
      refine wp_region_noPanic ?_
      refine wp_region_held_drew (S := (fun w' => w'.cell? ⟨w6.heap.size, 0, none⟩ = some (.slice (some ⟨g6, 0, none⟩) ts.length ts.length) ∧ w'.cell? ⟨w.heap.size, 0, none⟩ = some (.slice a ts.length c) ∧ Inv w w8.heap.size [(w7.heap.size, 33, #[.slice (some ⟨g7, 0, none⟩) us.length us.length]), (g7, 24, cur7), (w6.heap.size, 33, #[.slice (some ⟨g6, 0, none⟩) ts.length ts.length]), (g6, 24, cur6), (w.heap.size + 1, 47, #[.slice a' us.length c']), (w.heap.size, 47, #[.slice a ts.length c])] w')) (by kernel_rfl) (by exact ⟨(S6.nth 2 rfl).at 0, (S6.nth 5 rfl).at 0, S6.drew⟩) (fun hHeld => ?_)
      refine take_run 0 (some 35) (v := ?_) rfl rfl (by kernel_rfl) (by kernel_rfl) (by kernel_rfl) (fun _ _ _ h => h) (by rfl) ?_ hHeld ?_
      rotate_left
      · ((intro w hSw); (try dsimp only at hSw); go_simp <;> with_reducible rfl)
      simp only [Act.put, List.setIfInBounds_toArray, List.set_cons_zero, List.set_cons_succ]
      refine take_run 1 (some 36) (v := ?_) rfl rfl (by kernel_rfl) (by kernel_rfl) (by kernel_rfl) (fun _ _ _ h => h) (by rfl) ?_ hHeld ?_
      rotate_left
      · ((intro w hSw); (try dsimp only at hSw); go_simp <;> with_reducible rfl)
      simp only [Act.put, List.setIfInBounds_toArray, List.set_cons_zero, List.set_cons_succ]
      refine take_one 2 (by kernel_rfl) rfl (fun K hK => ?_)
      go_simp
      (refine (toPast_any a c ts _ hn ((ht.on hHeld.2.2.below).up hHeld.2.2.base)).mono ?_; rintro e w9 ⟨g9, cur9, rfl, hg9, hB9, hsz9, hcur9, hb⟩; have HC9 := hide hcur9; clear hcur9)
      try go_wp2_with fail
      refine hK.out _ _ (by exact ⟨((hHeld.2.2.on hb).nth 2 rfl).at 0, ((hHeld.2.2.on hb).nth 5 rfl).at 0, hHeld.2.2.on hb⟩) (fun hHeld => ?_)
      clear hK K
      refine take_one 3 (by kernel_rfl) rfl (fun K hK => ?_)
      go_simp
      (refine (eqPast_any _ _ _ _ ts ts _ hn hn (Tg.of (hHeld.2.2.nth 3 rfl) (hHeld.2.2.nth 3 rfl).inside HC6.out) (Tg.of hB9 hB9.inside HC9.out)).mono ?_; rintro e wa ⟨rfl, hb⟩; rw [decide_eq_true rfl])
      try go_wp2_with fail
      refine hK.out _ _ (by exact ⟨((hHeld.2.2.on hb).nth 2 rfl).at 0, ((hHeld.2.2.on hb).nth 5 rfl).at 0, hHeld.2.2.on hb⟩) (fun hHeld => ?_)
      clear hK K
      refine take_run 4 (some 39) (v := ?_) rfl rfl (by kernel_rfl) (by kernel_rfl) (by kernel_rfl) (fun _ _ _ h => h) (by rfl) ?_ hHeld ?_
      rotate_left
      · ((intro w hSw); (try dsimp only at hSw); go_simp <;> with_reducible rfl)
      simp only [Act.put, List.setIfInBounds_toArray, List.set_cons_zero, List.set_cons_succ]
      refine wpAnyH_done (by kernel_rfl) ?_ _
      refine NoPanic.normal ?_
      have S7 := hHeld.2.2
      clear hHeld S6 hB9 HC9
      go_wp2_with fail
      refine wp_region_noPanic ?_
      refine wp_region_held_drew (S := (fun w' => w'.cell? ⟨w7.heap.size, 0, none⟩ = some (.slice (some ⟨g7, 0, none⟩) us.length us.length) ∧ w'.cell? ⟨w.heap.size + 1, 0, none⟩ = some (.slice a' us.length c') ∧ Inv w w8.heap.size [(w7.heap.size, 33, #[.slice (some ⟨g7, 0, none⟩) us.length us.length]), (g7, 24, cur7), (w6.heap.size, 33, #[.slice (some ⟨g6, 0, none⟩) ts.length ts.length]), (g6, 24, cur6), (w.heap.size + 1, 47, #[.slice a' us.length c']), (w.heap.size, 47, #[.slice a ts.length c])] w')) (by kernel_rfl) (by exact ⟨(S7.nth 0 rfl).at 0, (S7.nth 4 rfl).at 0, S7.drew⟩) (fun hHeld => ?_)
      refine take_run 0 (some 40) (v := ?_) rfl rfl (by kernel_rfl) (by kernel_rfl) (by kernel_rfl) (fun _ _ _ h => h) (by rfl) ?_ hHeld ?_
      rotate_left
      · ((intro w hSw); (try dsimp only at hSw); go_simp <;> with_reducible rfl)
      simp only [Act.put, List.setIfInBounds_toArray, List.set_cons_zero, List.set_cons_succ]
      refine take_run 1 (some 41) (v := ?_) rfl rfl (by kernel_rfl) (by kernel_rfl) (by kernel_rfl) (fun _ _ _ h => h) (by rfl) ?_ hHeld ?_
      rotate_left
      · ((intro w hSw); (try dsimp only at hSw); go_simp <;> with_reducible rfl)
      simp only [Act.put, List.setIfInBounds_toArray, List.set_cons_zero, List.set_cons_succ]
      refine take_one 2 (by kernel_rfl) rfl (fun K hK => ?_)
      go_simp
      (refine (toPast_any a' c' us _ hn' ((hu.on hHeld.2.2.below).up hHeld.2.2.base)).mono ?_; rintro e wb ⟨gb, curb, rfl, hgb, hBb, hszb, hcurb, hb⟩; have HCb := hide hcurb; clear hcurb)
      try go_wp2_with fail
      refine hK.out _ _ (by exact ⟨((hHeld.2.2.on hb).nth 0 rfl).at 0, ((hHeld.2.2.on hb).nth 4 rfl).at 0, hHeld.2.2.on hb⟩) (fun hHeld => ?_)
      clear hK K
      refine take_one 3 (by kernel_rfl) rfl (fun K hK => ?_)
      go_simp
      (refine (eqPast_any _ _ _ _ us us _ hn' hn' (Tg.of (hHeld.2.2.nth 1 rfl) (hHeld.2.2.nth 1 rfl).inside HC7.out) (Tg.of hBb hBb.inside HCb.out)).mono ?_; rintro e wc ⟨rfl, hb⟩; rw [decide_eq_true rfl])
      try go_wp2_with fail
      refine hK.out _ _ (by exact ⟨((hHeld.2.2.on hb).nth 0 rfl).at 0, ((hHeld.2.2.on hb).nth 4 rfl).at 0, hHeld.2.2.on hb⟩) (fun hHeld => ?_)
      clear hK K
      refine take_run 4 (some 44) (v := ?_) rfl rfl (by kernel_rfl) (by kernel_rfl) (by kernel_rfl) (fun _ _ _ h => h) (by rfl) ?_ hHeld ?_
      rotate_left
      · ((intro w hSw); (try dsimp only at hSw); go_simp <;> with_reducible rfl)
      simp only [Act.put, List.setIfInBounds_toArray, List.set_cons_zero, List.set_cons_succ]
      refine wpAnyH_done (by kernel_rfl) ?_ _
      refine NoPanic.normal ?_
      have S8 := hHeld.2.2
      clear hHeld S7
      go_wp2
      go_ret
      exact ⟨rfl, S8.below⟩
    · refine (szPast_not a' us.length c' _ _ (by omega) (by omega) hl' (by omega)).mono ?_
      rintro e w2 ⟨rfl, hb2⟩
      have S2 := S1.on hb2
      clear S1 k1
      go_wp2
      go_ret
      exact ⟨rfl, S2.below⟩
  · go_enter Try.func13, Try.ntmps13
    go_wp2_with fail
    refine (szPast_not a ts.length c 1048576 _ (by omega) (by omega) hl (by omega)).mono ?_
    rintro e w1 ⟨rfl, hb1⟩
    have S1 := S0.on hb1
    clear S0
    go_wp2
    go_ret
    exact ⟨rfl, S1.below⟩

set_option maxRecDepth 100000 in
theorem lifted (os : Os) (started : os.Started) (H : Type) (enc : TypeId × Value → H) :
    ReturnsInHanded {} Try.checked os 13 .any (Rows.fnExactPastWithinSpec.pre6 enc Try.prog Try.f13 Rows.fnExactPastWithinRow.domain false) (Rows.fnExactPastWithinSpec.post enc Try.prog Try.f13 false true false false) := by
  refine returnsInHanded_of_change (C := Try.checked) own started (by kernel_rfl) Try.func13
    (ChangeSpec.witness6 (enc := enc) (C := Try.checked) false ⟨#[], #[.agg #[.slice none 0 0], .agg #[.slice none 0 0]], []⟩ 8 (by kernel_rfl) (by kernel_rfl) (by kernel_rfl) (by kernel_rfl)) ?_
  intro W base args ds gs before hval0 hW hcnd _
  have hval : ∀ (j : Nat) t v, Try.f13.params[j]? = some t → args[j]? = some v → Value.okWide Try.prog W .any base t v := hval0
  have hW' := hW
  obtain ⟨p, q, hA0, hV, rfl, hfz, hnd⟩ := hW
  have hA : DataW.TrodAll enc Try.prog W 0 (fun _ => true) true Try.f13.params.toList args.toList ds p := hA0
  rw [Try.params13] at hA hval
  have hK := hA
  obtain ⟨v0, vs0, d0, ds0, p0, q0, hargs, rfl, rfl, h0, r0⟩ := trodAll_cons hA
  obtain ⟨v1, vs1, d1, ds1, p1, q1, rfl, rfl, rfl, h1, r1⟩ := trodAll_cons r0
  obtain ⟨rfl, rfl, rfl⟩ := trodAll_nil r1
  obtain rfl : args = #[v0, v1] := by cases args; simp_all
  obtain ⟨rfl, rfl⟩ := trodVars_none hV
  obtain ⟨a0, cap0, z0, rfl, b0⟩ := read_past (hval 0 47 v0 rfl rfl) h0
  obtain ⟨a1, cap1, z1, rfl, b1⟩ := read_past (hval 1 47 v1 rfl rfl) h1
  clear hA0 hval0
  refine (walk a0 cap0 z0 a1 cap1 z1 W b0.1 b0.2 b1.1 b1.2).mono fun e W' ⟨he, hb⟩ => ?_
  subst he
  have hK' := stay_all hb (by intro t ht; simp only [List.mem_cons, List.not_mem_nil, or_false] at ht; rcases ht with rfl | rfl <;> exact ⟨by kernel_rfl, of_decide_eq_true (by kernel_rfl)⟩) hK
  exact ⟨_, rfl, _, _, _, [], _, [], hW', trodAll_mk1 (shut_bool Try.underlying4 _), hK', rfl, hb.frame _, fun h => by cases h⟩

theorem over : Rows.fnExactPastWithinRow.holds Try.pinned (OpenSpec.ofChange Rows.fnExactPastWithinSpec) :=
  OpenClaim.holds_of_wide 13 Try.f13 rfl rfl rfl rfl rfl rfl rfl ⟨rfl, rfl, rfl, rfl, rfl⟩ rfl rfl rfl rfl rfl (by kernel_rfl) Try.func13
    (by refine joined_of ?_; kernel_rfl) (of_decide_eq_true (by kernel_rfl)) (by unfold Func.isWrapper; first | (rw [if_pos (by decide +kernel)]; kernel_rfl) | (rw [if_neg (by decide +kernel)]; exact ⟨rfl, rfl⟩))
    (fun os started H enc _ => lifted os started H enc)
end Go.Proofs.Ytnblnafajlnofaa.LawPastWithin
namespace Go.Proofs.Ytnblnafajlnofaa
/-- The statement itself. -/
theorem fnExactPastWithin_holds : Rows.FnExactPastWithinSaid := LawPastWithin.over
#print axioms fnExactPastWithin_holds
end Go.Proofs.Ytnblnafajlnofaa
namespace Go.Proofs.Ytnblnafajlnofaa.LawPastWithin
end Go.Proofs.Ytnblnafajlnofaa.LawPastWithin
