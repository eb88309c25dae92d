/- The law FnChainNew (promise 12) holds: a new chain of a drawn number of nodes is as the model's; within bounds it is valid, has so many nodes, and all that its nodes have is nothing. No condition. -/
import Derived.Test.YtpelibkdphgpjaaJLift
import Derived.Test.YtpelibkdphgpjaaJDec
import Derived.Test.YtpelibkdphgpjaaJChainStable
import Derived.Test.YtpelibkdphgpjaaJVers
import Derived.Test.YtpelibkdphgpjaaJTags
namespace Go.Proofs.Ytpelibkdphgpjaa.FnChainNew
open Go.ChangeShapes Go.WideShapes Go.ChangeAt Go.RowKit Go.Joins
attribute [local go_sem ↓] Go.wp_at_zero Go.wp_at_succ

theorem store0 : storeB [v0, v0, v0, v0] = true := by
  refine storeB_ok rfl (fun i v hi => ?_)
  have : v = v0 := by
    have := List.mem_of_getElem? hi
    simpa using this
  rw [this]
  exact slotB_none (by unfold noneC; rw [ByteArray.toList_eq]; rfl)
theorem node0 (g : Nat) : nodeB (nd0 g) = true := nodeB_mk store0 (by simp [nd0]) (fun i v hi => by simp [nd0] at hi)
theorem sm0 (gs : List Nat) : SmN (gs.map nd0) := fun i n hi => by
  obtain ⟨g, rfl⟩ := nd0_at hi
  refine ⟨⟨by simp [nd0], by simp [nd0]⟩, fun v hv => ?_, fun v hv => by simp [nd0] at hv⟩
  have : v = v0 := by simpa [nd0] using hv
  rw [this]
  exact ⟨by simp [v0], by simp [v0]; decide⟩
theorem chain0 {gs : List Nat} (h1 : 1 ≤ gs.length) (h4 : gs.length ≤ 4) : chainB (gs.map nd0) = true := by
  refine chainB_ok (by rw [List.length_map]; exact ⟨h1, h4⟩) (fun i n hi => ?_) (fun i hi => ?_)
  · obtain ⟨g, rfl⟩ := nd0_at hi
    exact node0 g
  · obtain ⟨n, hn⟩ : ∃ n, (gs.map nd0)[i]? = some n := ⟨_, List.getElem?_eq_getElem hi⟩
    obtain ⟨g, rfl⟩ := nd0_at hn
    cases hm : (gs.map nd0)[i + 1]? with
    | none => rw [stepB_last hn (by have := List.getElem?_eq_none_iff.1 hm; omega)]; rfl
    | some m =>
      obtain ⟨g', rfl⟩ := nd0_at hm
      rw [stepB_mid hn hm, linkB_some (us := [v0, v0, v0, v0]) rfl]
      exact (likesB_ll _ _).2 (ll_refl _)
theorem stable0 {gs : List Nat} (h1 : 1 ≤ gs.length) (h4 : gs.length ≤ 4) : stableR (gs.map nd0) = z4 := by
  obtain ⟨p, hp⟩ : ∃ p, (gs.map nd0).length = p + 1 := ⟨gs.length - 1, by rw [List.length_map]; omega⟩
  obtain ⟨n, hn⟩ : ∃ n, (gs.map nd0)[p]? = some n := ⟨_, List.getElem?_eq_getElem (by omega)⟩
  rw [stableR_yes (chain0 h1 h4) hp hn]
  obtain ⟨g, rfl⟩ := nd0_at hn
  show tagsR [v0, v0, v0, v0] = z4
  unfold tagsR
  rw [store0]
  rfl
set_option maxRecDepth 100000 in
set_option maxHeartbeats 4000000 in
theorem walk (a : Option Addr) (len cap : Nat) (w : World) (hc : Code0 w a len cap) :
    Calls Try.prog 3 #[.slice a len cap] w fun e w' => e = .returned (.bool true) ∧ Below w.heap.size w w' := by
  by_cases h1 : 1048576 < len
  · have h1' : (1048576 : Int) < (len : Int) := by omega
    go_enter Try.func3, Try.ntmps3
    go_wp2
    go_ret
    exact ⟨rfl, Below.refl _ _⟩
  · have h1' : (len : Int) ≤ 1048576 := by omega
    go_enter Try.func3, Try.ntmps3
    go_wp2_with fail
    refine (drawChainNew_any w a len cap hc (by omega)).mono ?_
    rintro e w1 ⟨n, rfl, hb1⟩
    clear hc
    go_wp2_with fail
    refine (implChainNew_any n w1).mono ?_
    rintro e w2 ⟨A2, cap2, gs, rfl, hgl, hR2, hb2⟩
    have S2 := ((((Inv.start w).on hb1).on hb2).top).box 26 #[.slice A2 (chN n) cap2]
    have R2 := hide (hR2.n.alloc (.cells #[.slice A2 (chN n) cap2] 26))
    have HGL := hide hgl
    have HLN : Hid ((gs.map nd0).length = chN n) := by unfold Hid; rw [List.length_map]; exact hgl
    have hcn : chN n ≤ 4 := by unfold chN; split <;> omega
    have z1 := hb1.size
    have z2 := hb2.size
    clear hb1 hb2 hR2 hgl
    have CF : Hid (∀ W (gs' : List Nat) A' cap' B U, gs'.length = chN n → ResN W w1.heap.size w2.heap.size A2 (gs.map nd0) → ResN W B U A' (gs'.map nd0) → Calls Try.prog 12 #[.agg #[.slice A2 (chN n) cap2], .agg #[.slice A' (chN n) cap']] W fun e w' => e = .returned (.bool true) ∧ Below W.heap.size W w') := fun W gs' A' cap' B U h1 h2 h3 =>
      cfChain_same _ _ _ _ _ _ _ _ (chN n) (gs.map nd0) (gs'.map nd0) W (by omega) HLN.out (by rw [List.length_map]; exact h1) nd0_like (nd0_small gs) h2 h3
    by_cases h0 : chN n = 0
    · have hz : ((chN n : Int) == 0) = true := by rw [h0]; rfl
      have hout : n < 1 ∨ 4 < n := by
        unfold chN at h0
        split at h0
        · rename_i h; omega
        · omega
      have HOUT := hide hout
      have H0 := hide h0
      clear h0 hout
      go_wp2_with fail
      generalize w2.alloc (.cells #[.slice A2 (chN n) cap2] 26) = W2 at S2 R2 ⊢
      refine wp_region_noPanic ?_
      refine wp_region_held_drew (S := (fun w' => w'.cell? ⟨w2.heap.size, 0, none⟩ = some (.slice A2 (chN n) cap2) ∧ Inv w W2.heap.size [(w2.heap.size, 26, #[.slice A2 (chN n) cap2])] w' ∧ Hid (ResN w' w1.heap.size w2.heap.size A2 (gs.map nd0)))) (by kernel_rfl) (by exact ⟨(S2.nth 0 rfl).at 0, S2.drew, R2.out.on (Below.refl _ _).drew⟩) (fun hHeld => ?_)
      refine take_run 0 (some 12) (v := ?_) rfl rfl (by kernel_rfl) (by kernel_rfl) (by kernel_rfl) (fun _ _ _ h => h) (by rfl) ?_ hHeld ?_
      rotate_left
      · ((intro w hSw); (try dsimp only at hSw); go_simp <;> with_reducible rfl)
      simp only [Act.put, List.setIfInBounds_toArray, List.set_cons_zero, List.set_cons_succ]
      refine take_run 1 (some 13) (v := ?_) rfl rfl (by kernel_rfl) (by kernel_rfl) (by kernel_rfl) (fun _ _ _ h => h) (by rfl) ?_ hHeld ?_
      rotate_left
      · ((intro w hSw); (try dsimp only at hSw); go_simp <;> with_reducible rfl)
      simp only [Act.put, List.setIfInBounds_toArray, List.set_cons_zero, List.set_cons_succ]
      refine take_one 2 (by kernel_rfl) rfl (fun K hK => ?_)
      go_simp
      ((with_reducible refine (specChainNew_any n _).mono ?_); rintro e w3 ⟨A3, cap3, gs3, rfl, hgl3, hR3, hb⟩; have R3 := hide hR3.n; have HL3 := hide hgl3; clear hR3 hgl3)
      try go_wp2_with fail
      refine hK.out _ _ (by exact ⟨((hHeld.2.1.on hb).nth 0 rfl).at 0, hHeld.2.1.on hb, hHeld.2.2.out.on hb⟩) (fun hHeld => ?_)
      clear hK K
      refine take_one 3 (by kernel_rfl) rfl (fun K hK => ?_)
      go_simp
      ((with_reducible refine (CF.out _ gs3 A3 cap3 _ _ HL3.out hHeld.2.2.out R3.out).mono ?_); rintro e w4 ⟨rfl, hb⟩)
      try go_wp2_with fail
      refine hK.out _ _ (by exact ⟨((hHeld.2.1.on hb).nth 0 rfl).at 0, hHeld.2.1.on hb, hHeld.2.2.out.on hb⟩) (fun hHeld => ?_)
      clear hK K
      refine take_run 4 (some 16) (v := ?_) rfl rfl (by kernel_rfl) (by kernel_rfl) (by kernel_rfl) (fun _ _ _ h => h) (by rfl) ?_ hHeld ?_
      rotate_left
      · ((intro w hSw); (try dsimp only at hSw); go_simp <;> with_reducible rfl)
      simp only [Act.put, List.setIfInBounds_toArray, List.set_cons_zero, List.set_cons_succ]
      refine take_run 5 (some 17) (v := ?_) rfl rfl (by kernel_rfl) (by kernel_rfl) (by kernel_rfl) (fun _ _ _ h => h) (by rfl) ?_ hHeld ?_
      rotate_left
      · ((intro w hSw); (try dsimp only at hSw); go_simp <;> with_reducible rfl)
      simp only [Act.put, List.setIfInBounds_toArray, List.set_cons_zero, List.set_cons_succ]
      refine take_run 6 (some 18) (v := ?_) rfl rfl (by kernel_rfl) (by kernel_rfl) (by kernel_rfl) (fun _ _ _ h => h) (by rfl) ?_ hHeld ?_
      rotate_left
      · ((intro w hSw); (try dsimp only at hSw); go_simp <;> with_reducible rfl)
      simp only [Act.put, List.setIfInBounds_toArray, List.set_cons_zero, List.set_cons_succ]
      refine take_run 7 (some 19) (v := ?_) rfl rfl (by kernel_rfl) (by kernel_rfl) (by kernel_rfl) (fun _ _ _ h => h) (by rfl) ?_ hHeld ?_
      rotate_left
      · ((intro w hSw); (try dsimp only at hSw); go_simp <;> with_reducible rfl)
      simp only [Act.put, List.setIfInBounds_toArray, List.set_cons_zero, List.set_cons_succ]
      refine take_run 8 (some 20) (v := ?_) rfl rfl (by kernel_rfl) (by kernel_rfl) (by kernel_rfl) (fun _ _ _ h => h) (by rfl) ?_ hHeld ?_
      rotate_left
      · ((intro w hSw); (try dsimp only at hSw); go_simp <;> with_reducible rfl)
      simp only [Act.put, List.setIfInBounds_toArray, List.set_cons_zero, List.set_cons_succ]
      refine take_run 9 (some 21) (v := ?_) rfl rfl (by kernel_rfl) (by kernel_rfl) (by kernel_rfl) (fun _ _ _ h => h) (by rfl) ?_ hHeld ?_
      rotate_left
      · ((intro w hSw); (try dsimp only at hSw); go_simp <;> with_reducible rfl)
      simp only [Act.put, List.setIfInBounds_toArray, List.set_cons_zero, List.set_cons_succ]
      refine take_run 10 (some 22) (v := ?_) rfl rfl (by kernel_rfl) (by kernel_rfl) (by kernel_rfl) (fun _ _ _ h => h) (by rfl) ?_ hHeld ?_
      rotate_left
      · ((intro w hSw); (try dsimp only at hSw); go_simp <;> with_reducible rfl)
      simp only [Act.put, List.setIfInBounds_toArray, List.set_cons_zero, List.set_cons_succ]
      refine wpAnyH_done (by kernel_rfl) ?_ _
      refine NoPanic.normal ?_
      have S3 := hHeld.2.1
      have R5 := hHeld.2.2
      clear hHeld S2 R2 R3 HL3
      go_wp2_with fail
      rcases HOUT.out with q | q
      · have e1 : decide (n < 1) = true := decide_eq_true q
        refine wp_region_noPanic ?_
        refine wp_region_held_drew (S := (fun w' => w'.cell? ⟨w2.heap.size, 0, none⟩ = some (.slice A2 (chN n) cap2) ∧ Inv w W2.heap.size [(w2.heap.size, 26, #[.slice A2 (chN n) cap2])] w' ∧ Hid (ResN w' w1.heap.size w2.heap.size A2 (gs.map nd0)))) (by kernel_rfl) (by exact ⟨(S3.nth 0 rfl).at 0, S3.drew, R5.out.on (Below.refl _ _).drew⟩) (fun hHeld => ?_)
        refine take_run 0 (some 23) (v := ?_) rfl rfl (by kernel_rfl) (by kernel_rfl) (by kernel_rfl) (fun _ _ _ h => h) (by rfl) ?_ hHeld ?_
        rotate_left
        · ((intro w hSw); (try dsimp only at hSw); go_simp <;> with_reducible rfl)
        simp only [Act.put, List.setIfInBounds_toArray, List.set_cons_zero, List.set_cons_succ]
        refine take_run 1 (some 24) (v := ?_) rfl rfl (by kernel_rfl) (by kernel_rfl) (by kernel_rfl) (fun _ _ _ h => h) (by rfl) ?_ hHeld ?_
        rotate_left
        · ((intro w hSw); (try dsimp only at hSw); go_simp <;> with_reducible rfl)
        simp only [Act.put, List.setIfInBounds_toArray, List.set_cons_zero, List.set_cons_succ]
        refine take_one 2 (by kernel_rfl) rfl (fun K hK => ?_)
        go_simp
        ((with_reducible refine (specChainNew_any n _).mono ?_); rintro e w13 ⟨A13, cap13, gs13, rfl, hgl13, hR13, hb⟩; have R13 := hide hR13.n; have HL13 := hide hgl13; clear hR13 hgl13)
        try go_wp2_with fail
        refine hK.out _ _ (by exact ⟨((hHeld.2.1.on hb).nth 0 rfl).at 0, hHeld.2.1.on hb, hHeld.2.2.out.on hb⟩) (fun hHeld => ?_)
        clear hK K
        refine take_one 3 (by kernel_rfl) rfl (fun K hK => ?_)
        go_simp
        ((with_reducible refine (CF.out _ gs13 A13 cap13 _ _ HL13.out hHeld.2.2.out R13.out).mono ?_); rintro e w14 ⟨rfl, hb⟩)
        try go_wp2_with fail
        refine hK.out _ _ (by exact ⟨((hHeld.2.1.on hb).nth 0 rfl).at 0, hHeld.2.1.on hb, hHeld.2.2.out.on hb⟩) (fun hHeld => ?_)
        clear hK K
        refine take_run 4 (some 27) (v := ?_) rfl rfl (by kernel_rfl) (by kernel_rfl) (by kernel_rfl) (fun _ _ _ h => h) (by rfl) ?_ hHeld ?_
        rotate_left
        · ((intro w hSw); (try dsimp only at hSw); go_simp <;> with_reducible rfl)
        simp only [Act.put, List.setIfInBounds_toArray, List.set_cons_zero, List.set_cons_succ]
        refine take_run 5 (some 28) (v := ?_) rfl rfl (by kernel_rfl) (by kernel_rfl) (by kernel_rfl) (fun _ _ _ h => h) (by rfl) ?_ hHeld ?_
        rotate_left
        · ((intro w hSw); (try dsimp only at hSw); go_simp <;> with_reducible rfl)
        simp only [Act.put, List.setIfInBounds_toArray, List.set_cons_zero, List.set_cons_succ]
        refine take_run 6 (some 29) (v := ?_) rfl rfl (by kernel_rfl) (by kernel_rfl) (by kernel_rfl) (fun _ _ _ h => h) (by rfl) ?_ hHeld ?_
        rotate_left
        · ((intro w hSw); (try dsimp only at hSw); go_simp <;> with_reducible rfl)
        simp only [Act.put, List.setIfInBounds_toArray, List.set_cons_zero, List.set_cons_succ]
        refine take_run 7 (some 30) (v := ?_) rfl rfl (by kernel_rfl) (by kernel_rfl) (by kernel_rfl) (fun _ _ _ h => h) (by rfl) ?_ hHeld ?_
        rotate_left
        · ((intro w hSw); (try dsimp only at hSw); go_simp <;> with_reducible rfl)
        simp only [Act.put, List.setIfInBounds_toArray, List.set_cons_zero, List.set_cons_succ]
        refine take_skip 8 (some 31) rfl rfl (by kernel_rfl) (by kernel_rfl) (by kernel_rfl) (fun _ _ _ h => h) (by rfl) hHeld ?_
        simp only [Act.put, List.setIfInBounds_toArray, List.set_cons_zero, List.set_cons_succ]
        refine take_skip 9 (some 32) rfl rfl (by kernel_rfl) (by kernel_rfl) (by kernel_rfl) (fun _ _ _ h => h) (by rfl) hHeld ?_
        simp only [Act.put, List.setIfInBounds_toArray, List.set_cons_zero, List.set_cons_succ]
        refine take_run 10 (some 33) (v := ?_) rfl rfl (by kernel_rfl) (by kernel_rfl) (by kernel_rfl) (fun _ _ _ h => h) (by rfl) ?_ hHeld ?_
        rotate_left
        · ((intro w hSw); (try dsimp only at hSw); go_simp <;> with_reducible rfl)
        simp only [Act.put, List.setIfInBounds_toArray, List.set_cons_zero, List.set_cons_succ]
        refine take_run 11 (some 34) (v := ?_) rfl rfl (by kernel_rfl) (by kernel_rfl) (by kernel_rfl) (fun _ _ _ h => h) (by rfl) ?_ hHeld ?_
        rotate_left
        · ((intro w hSw); (try dsimp only at hSw); go_simp <;> with_reducible rfl)
        simp only [Act.put, List.setIfInBounds_toArray, List.set_cons_zero, List.set_cons_succ]
        refine take_run 12 (some 2) (v := ?_) rfl rfl (by kernel_rfl) (by kernel_rfl) (by kernel_rfl) (fun _ _ _ h => h) (by rfl) ?_ hHeld ?_
        rotate_left
        · ((intro w hSw); (try dsimp only at hSw); go_simp <;> with_reducible rfl)
        simp only [Act.put, List.setIfInBounds_toArray, List.set_cons_zero, List.set_cons_succ]
        refine wpAnyH_done (by kernel_rfl) ?_ _
        refine NoPanic.normal ?_
        have S4 := hHeld.2.1
        clear hHeld S3
        go_wp2
        go_ret
        exact ⟨rfl, S4.below⟩
      · have e1 : decide (n < 1) = false := decide_eq_false (by omega)
        have e2 : decide (4 < n) = true := decide_eq_true q
        refine wp_region_noPanic ?_
        refine wp_region_held_drew (S := (fun w' => w'.cell? ⟨w2.heap.size, 0, none⟩ = some (.slice A2 (chN n) cap2) ∧ Inv w W2.heap.size [(w2.heap.size, 26, #[.slice A2 (chN n) cap2])] w' ∧ Hid (ResN w' w1.heap.size w2.heap.size A2 (gs.map nd0)))) (by kernel_rfl) (by exact ⟨(S3.nth 0 rfl).at 0, S3.drew, R5.out.on (Below.refl _ _).drew⟩) (fun hHeld => ?_)
        refine take_run 0 (some 23) (v := ?_) rfl rfl (by kernel_rfl) (by kernel_rfl) (by kernel_rfl) (fun _ _ _ h => h) (by rfl) ?_ hHeld ?_
        rotate_left
        · ((intro w hSw); (try dsimp only at hSw); go_simp <;> with_reducible rfl)
        simp only [Act.put, List.setIfInBounds_toArray, List.set_cons_zero, List.set_cons_succ]
        refine take_run 1 (some 24) (v := ?_) rfl rfl (by kernel_rfl) (by kernel_rfl) (by kernel_rfl) (fun _ _ _ h => h) (by rfl) ?_ hHeld ?_
        rotate_left
        · ((intro w hSw); (try dsimp only at hSw); go_simp <;> with_reducible rfl)
        simp only [Act.put, List.setIfInBounds_toArray, List.set_cons_zero, List.set_cons_succ]
        refine take_one 2 (by kernel_rfl) rfl (fun K hK => ?_)
        go_simp
        ((with_reducible refine (specChainNew_any n _).mono ?_); rintro e w13 ⟨A13, cap13, gs13, rfl, hgl13, hR13, hb⟩; have R13 := hide hR13.n; have HL13 := hide hgl13; clear hR13 hgl13)
        try go_wp2_with fail
        refine hK.out _ _ (by exact ⟨((hHeld.2.1.on hb).nth 0 rfl).at 0, hHeld.2.1.on hb, hHeld.2.2.out.on hb⟩) (fun hHeld => ?_)
        clear hK K
        refine take_one 3 (by kernel_rfl) rfl (fun K hK => ?_)
        go_simp
        ((with_reducible refine (CF.out _ gs13 A13 cap13 _ _ HL13.out hHeld.2.2.out R13.out).mono ?_); rintro e w14 ⟨rfl, hb⟩)
        try go_wp2_with fail
        refine hK.out _ _ (by exact ⟨((hHeld.2.1.on hb).nth 0 rfl).at 0, hHeld.2.1.on hb, hHeld.2.2.out.on hb⟩) (fun hHeld => ?_)
        clear hK K
        refine take_run 4 (some 27) (v := ?_) rfl rfl (by kernel_rfl) (by kernel_rfl) (by kernel_rfl) (fun _ _ _ h => h) (by rfl) ?_ hHeld ?_
        rotate_left
        · ((intro w hSw); (try dsimp only at hSw); go_simp <;> with_reducible rfl)
        simp only [Act.put, List.setIfInBounds_toArray, List.set_cons_zero, List.set_cons_succ]
        refine take_run 5 (some 28) (v := ?_) rfl rfl (by kernel_rfl) (by kernel_rfl) (by kernel_rfl) (fun _ _ _ h => h) (by rfl) ?_ hHeld ?_
        rotate_left
        · ((intro w hSw); (try dsimp only at hSw); go_simp <;> with_reducible rfl)
        simp only [Act.put, List.setIfInBounds_toArray, List.set_cons_zero, List.set_cons_succ]
        refine take_run 6 (some 29) (v := ?_) rfl rfl (by kernel_rfl) (by kernel_rfl) (by kernel_rfl) (fun _ _ _ h => h) (by rfl) ?_ hHeld ?_
        rotate_left
        · ((intro w hSw); (try dsimp only at hSw); go_simp <;> with_reducible rfl)
        simp only [Act.put, List.setIfInBounds_toArray, List.set_cons_zero, List.set_cons_succ]
        refine take_run 7 (some 30) (v := ?_) rfl rfl (by kernel_rfl) (by kernel_rfl) (by kernel_rfl) (fun _ _ _ h => h) (by rfl) ?_ hHeld ?_
        rotate_left
        · ((intro w hSw); (try dsimp only at hSw); go_simp <;> with_reducible rfl)
        simp only [Act.put, List.setIfInBounds_toArray, List.set_cons_zero, List.set_cons_succ]
        refine take_run 8 (some 31) (v := ?_) rfl rfl (by kernel_rfl) (by kernel_rfl) (by kernel_rfl) (fun _ _ _ h => h) (by rfl) ?_ hHeld ?_
        rotate_left
        · ((intro w hSw); (try dsimp only at hSw); go_simp <;> with_reducible rfl)
        simp only [Act.put, List.setIfInBounds_toArray, List.set_cons_zero, List.set_cons_succ]
        refine take_run 9 (some 32) (v := ?_) rfl rfl (by kernel_rfl) (by kernel_rfl) (by kernel_rfl) (fun _ _ _ h => h) (by rfl) ?_ hHeld ?_
        rotate_left
        · ((intro w hSw); (try dsimp only at hSw); go_simp <;> with_reducible rfl)
        simp only [Act.put, List.setIfInBounds_toArray, List.set_cons_zero, List.set_cons_succ]
        refine take_run 10 (some 33) (v := ?_) rfl rfl (by kernel_rfl) (by kernel_rfl) (by kernel_rfl) (fun _ _ _ h => h) (by rfl) ?_ hHeld ?_
        rotate_left
        · ((intro w hSw); (try dsimp only at hSw); go_simp <;> with_reducible rfl)
        simp only [Act.put, List.setIfInBounds_toArray, List.set_cons_zero, List.set_cons_succ]
        refine take_run 11 (some 34) (v := ?_) rfl rfl (by kernel_rfl) (by kernel_rfl) (by kernel_rfl) (fun _ _ _ h => h) (by rfl) ?_ hHeld ?_
        rotate_left
        · ((intro w hSw); (try dsimp only at hSw); go_simp <;> with_reducible rfl)
        simp only [Act.put, List.setIfInBounds_toArray, List.set_cons_zero, List.set_cons_succ]
        refine take_run 12 (some 2) (v := ?_) rfl rfl (by kernel_rfl) (by kernel_rfl) (by kernel_rfl) (fun _ _ _ h => h) (by rfl) ?_ hHeld ?_
        rotate_left
        · ((intro w hSw); (try dsimp only at hSw); go_simp <;> with_reducible rfl)
        simp only [Act.put, List.setIfInBounds_toArray, List.set_cons_zero, List.set_cons_succ]
        refine wpAnyH_done (by kernel_rfl) ?_ _
        refine NoPanic.normal ?_
        have S4 := hHeld.2.1
        clear hHeld S3
        go_wp2
        go_ret
        exact ⟨rfl, S4.below⟩
    · have hz : ((chN n : Int) == 0) = false := by rw [beq_eq_false_iff_ne]; omega
      have hin : (chN n : Int) = n := by
        unfold chN at h0 ⊢
        split at h0
        · rename_i h; rw [if_pos h]; omega
        · exact absurd rfl h0
      have hne : ((chN n : Int) == n) = true := by rw [hin]; simp
      have hpos : 1 ≤ chN n := by omega
      have HCB := hide (chain0 (gs := gs) (by have := HGL.out; omega) (by have := HGL.out; omega))
      have HSB := hide (stable0 (gs := gs) (by have := HGL.out; omega) (by have := HGL.out; omega))
      have COK : Hid (∀ W, ResN W w1.heap.size w2.heap.size A2 (gs.map nd0) → Calls Try.prog 14 #[.agg #[.slice A2 (chN n) cap2]] W fun e w' => e = .returned (.bool true) ∧ Below W.heap.size W w') := fun W hR => by
        have C := implChainOk_any A2 cap2 (gs.map nd0) W (by have := HLN.out; omega) (sm0 gs) hR.cg
        rw [HLN.out, HCB.out] at C
        exact C
      have CST : Hid (∀ W, ResN W w1.heap.size w2.heap.size A2 (gs.map nd0) → Calls Try.prog 16 #[.agg #[.slice A2 (chN n) cap2]] W (Answer W z4)) := fun W hR => by
        have C := implChainStable_any A2 cap2 (gs.map nd0) W (by have := HLN.out; omega) (sm0 gs) hR.cg
        rw [HLN.out, HSB.out] at C
        exact C
      clear h0 hin
      go_wp2_with fail
      generalize w2.alloc (.cells #[.slice A2 (chN n) cap2] 26) = W2 at S2 R2 ⊢
      refine wp_region_noPanic ?_
      refine wp_region_held_drew (S := (fun w' => w'.cell? ⟨w2.heap.size, 0, none⟩ = some (.slice A2 (chN n) cap2) ∧ Inv w W2.heap.size [(w2.heap.size, 26, #[.slice A2 (chN n) cap2])] w' ∧ Hid (ResN w' w1.heap.size w2.heap.size A2 (gs.map nd0)))) (by kernel_rfl) (by exact ⟨(S2.nth 0 rfl).at 0, S2.drew, R2.out.on (Below.refl _ _).drew⟩) (fun hHeld => ?_)
      refine take_run 0 (some 12) (v := ?_) rfl rfl (by kernel_rfl) (by kernel_rfl) (by kernel_rfl) (fun _ _ _ h => h) (by rfl) ?_ hHeld ?_
      rotate_left
      · ((intro w hSw); (try dsimp only at hSw); go_simp <;> with_reducible rfl)
      simp only [Act.put, List.setIfInBounds_toArray, List.set_cons_zero, List.set_cons_succ]
      refine take_run 1 (some 13) (v := ?_) rfl rfl (by kernel_rfl) (by kernel_rfl) (by kernel_rfl) (fun _ _ _ h => h) (by rfl) ?_ hHeld ?_
      rotate_left
      · ((intro w hSw); (try dsimp only at hSw); go_simp <;> with_reducible rfl)
      simp only [Act.put, List.setIfInBounds_toArray, List.set_cons_zero, List.set_cons_succ]
      refine take_one 2 (by kernel_rfl) rfl (fun K hK => ?_)
      go_simp
      ((with_reducible refine (specChainNew_any n _).mono ?_); rintro e w3 ⟨A3, cap3, gs3, rfl, hgl3, hR3, hb⟩; have R3 := hide hR3.n; have HL3 := hide hgl3; clear hR3 hgl3)
      try go_wp2_with fail
      refine hK.out _ _ (by exact ⟨((hHeld.2.1.on hb).nth 0 rfl).at 0, hHeld.2.1.on hb, hHeld.2.2.out.on hb⟩) (fun hHeld => ?_)
      clear hK K
      refine take_one 3 (by kernel_rfl) rfl (fun K hK => ?_)
      go_simp
      ((with_reducible refine (CF.out _ gs3 A3 cap3 _ _ HL3.out hHeld.2.2.out R3.out).mono ?_); rintro e w4 ⟨rfl, hb⟩)
      try go_wp2_with fail
      refine hK.out _ _ (by exact ⟨((hHeld.2.1.on hb).nth 0 rfl).at 0, hHeld.2.1.on hb, hHeld.2.2.out.on hb⟩) (fun hHeld => ?_)
      clear hK K
      refine take_run 4 (some 16) (v := ?_) rfl rfl (by kernel_rfl) (by kernel_rfl) (by kernel_rfl) (fun _ _ _ h => h) (by rfl) ?_ hHeld ?_
      rotate_left
      · ((intro w hSw); (try dsimp only at hSw); go_simp <;> with_reducible rfl)
      simp only [Act.put, List.setIfInBounds_toArray, List.set_cons_zero, List.set_cons_succ]
      refine take_run 5 (some 17) (v := ?_) rfl rfl (by kernel_rfl) (by kernel_rfl) (by kernel_rfl) (fun _ _ _ h => h) (by rfl) ?_ hHeld ?_
      rotate_left
      · ((intro w hSw); (try dsimp only at hSw); go_simp <;> with_reducible rfl)
      simp only [Act.put, List.setIfInBounds_toArray, List.set_cons_zero, List.set_cons_succ]
      refine take_run 6 (some 18) (v := ?_) rfl rfl (by kernel_rfl) (by kernel_rfl) (by kernel_rfl) (fun _ _ _ h => h) (by rfl) ?_ hHeld ?_
      rotate_left
      · ((intro w hSw); (try dsimp only at hSw); go_simp <;> with_reducible rfl)
      simp only [Act.put, List.setIfInBounds_toArray, List.set_cons_zero, List.set_cons_succ]
      refine take_run 7 (some 19) (v := ?_) rfl rfl (by kernel_rfl) (by kernel_rfl) (by kernel_rfl) (fun _ _ _ h => h) (by rfl) ?_ hHeld ?_
      rotate_left
      · ((intro w hSw); (try dsimp only at hSw); go_simp <;> with_reducible rfl)
      simp only [Act.put, List.setIfInBounds_toArray, List.set_cons_zero, List.set_cons_succ]
      refine take_run 8 (some 20) (v := ?_) rfl rfl (by kernel_rfl) (by kernel_rfl) (by kernel_rfl) (fun _ _ _ h => h) (by rfl) ?_ hHeld ?_
      rotate_left
      · ((intro w hSw); (try dsimp only at hSw); go_simp <;> with_reducible rfl)
      simp only [Act.put, List.setIfInBounds_toArray, List.set_cons_zero, List.set_cons_succ]
      refine take_run 9 (some 21) (v := ?_) rfl rfl (by kernel_rfl) (by kernel_rfl) (by kernel_rfl) (fun _ _ _ h => h) (by rfl) ?_ hHeld ?_
      rotate_left
      · ((intro w hSw); (try dsimp only at hSw); go_simp <;> with_reducible rfl)
      simp only [Act.put, List.setIfInBounds_toArray, List.set_cons_zero, List.set_cons_succ]
      refine take_run 10 (some 22) (v := ?_) rfl rfl (by kernel_rfl) (by kernel_rfl) (by kernel_rfl) (fun _ _ _ h => h) (by rfl) ?_ hHeld ?_
      rotate_left
      · ((intro w hSw); (try dsimp only at hSw); go_simp <;> with_reducible rfl)
      simp only [Act.put, List.setIfInBounds_toArray, List.set_cons_zero, List.set_cons_succ]
      refine wpAnyH_done (by kernel_rfl) ?_ _
      refine NoPanic.normal ?_
      have S3 := hHeld.2.1
      have R5 := hHeld.2.2
      have k3 := (S3.nth 0 rfl).one.1
      clear hHeld S2 R2 R3 HL3
      go_wp2_with fail
      with_reducible refine (COK.out _ R5.out).mono ?_
      rintro e w5 ⟨rfl, hb5⟩
      have S4 := S3.on hb5
      have R6 := hide (R5.out.on hb5)
      have k4 := (S4.nth 0 rfl).one.1
      clear S3 R5 k3
      go_wp2_with fail
      with_reducible refine (CST.out _ R6.out).mono ?_
      rintro e w6 ⟨A6, cap6, rfl, R7, hb6⟩
      have S5 := S4.on hb6
      clear S4 R6 k4
      go_wp2_with fail
      refine (implPastNone_any w6).mono ?_
      rintro e w7 ⟨g7, cap7, T7, cur7, rfl, hg7, hB7, hsz7, hcur7, hb7⟩
      have S6 := S5.on hb7
      have T6 := hide ((R7.on hb7).tg)
      have T7' := hide (Tg.of hB7 hB7.inside hcur7)
      clear S5 R7 hB7 hsz7 hcur7
      have CP := hide (cfPast_any A6 (some ⟨g7, 0, none⟩) cap6 cap7 z4 z4 w7 (by decide) (by decide) T6.out T7'.out)
      rw [decide_eq_true rfl] at CP
      go_wp2_with fail
      refine CP.out.mono ?_
      rintro e w8 ⟨rfl, hb8⟩
      have S7 := S6.on hb8
      clear S6
      go_wp2
      go_ret
      exact ⟨rfl, S7.below⟩

set_option maxRecDepth 100000 in
theorem lifted (os : Os) (started : os.Started) (H : Type) (enc : TypeId × Value → H) :
    ReturnsInHanded {} Try.checked os 3 .any (Rows.fnChainNewSpec.pre6 enc Try.prog Try.f3 Rows.fnChainNewRow.domain false) (Rows.fnChainNewSpec.post enc Try.prog Try.f3 false true false false) := by
  refine returnsInHanded_of_change (C := Try.checked) own started (by kernel_rfl) Try.func3
    (ChangeSpec.witness6 (enc := enc) (C := Try.checked) false ⟨#[], #[.slice none 0 0], []⟩ 8 (by kernel_rfl) (by kernel_rfl) (by kernel_rfl) (by kernel_rfl)) ?_
  intro W base args ds gs before hval0 hW hcnd _
  have hval : ∀ (j : Nat) t v, Try.f3.params[j]? = some t → args[j]? = some v → Value.okWide Try.prog W .any base t v := hval0
  have hW' := hW
  obtain ⟨p, q, hA0, hV, rfl, hfz, hnd⟩ := hW
  have hA : DataW.TrodAll enc Try.prog W 0 (fun _ => true) true Try.f3.params.toList args.toList ds p := hA0
  rw [Try.params3] at hA hval
  have hK := hA
  obtain ⟨v0, vs0, d0, ds0, p0, q0, hargs, rfl, rfl, h0, r0⟩ := trodAll_cons hA
  obtain ⟨rfl, rfl, rfl⟩ := trodAll_nil r0
  obtain rfl : args = #[v0] := by cases args; simp_all
  obtain ⟨rfl, rfl⟩ := trodVars_none hV
  obtain ⟨a0, len0, cap0, rfl, b0⟩ := read_bytes (hval 0 22 v0 rfl rfl) h0
  clear hA0 hval0
  refine (walk a0 len0 cap0 W b0).mono fun e W' ⟨he, hb⟩ => ?_
  subst he
  have hK' := stay_all hb (by intro t ht; simp only [List.mem_cons, List.not_mem_nil, or_false] at ht; rcases ht with rfl <;> exact ⟨by kernel_rfl, of_decide_eq_true (by kernel_rfl)⟩) hK
  exact ⟨_, rfl, _, _, _, [], _, [], hW', trodAll_mk1 (shut_bool Try.underlying4 _), hK', rfl, hb.frame _, fun h => by cases h⟩

theorem over : Rows.fnChainNewRow.holds Try.pinned (OpenSpec.ofChange Rows.fnChainNewSpec) :=
  OpenClaim.holds_of_wide 3 Try.f3 rfl rfl rfl rfl rfl rfl rfl ⟨rfl, rfl, rfl, rfl, rfl⟩ rfl rfl rfl rfl rfl (by kernel_rfl) Try.func3
    (by refine joined_of ?_; kernel_rfl) (of_decide_eq_true (by kernel_rfl)) (by unfold Func.isWrapper; first | (rw [if_pos (by decide +kernel)]; kernel_rfl) | (rw [if_neg (by decide +kernel)]; exact ⟨rfl, rfl⟩))
    (fun os started H enc _ => lifted os started H enc)
end Go.Proofs.Ytpelibkdphgpjaa.FnChainNew
namespace Go.Proofs.Ytpelibkdphgpjaa
/-- The statement itself. -/
theorem fnChainNew_holds : Rows.FnChainNewSaid := FnChainNew.over
#print axioms fnChainNew_holds
end Go.Proofs.Ytpelibkdphgpjaa
namespace Go.Proofs.Ytpelibkdphgpjaa.FnChainNew
end Go.Proofs.Ytpelibkdphgpjaa.FnChainNew
