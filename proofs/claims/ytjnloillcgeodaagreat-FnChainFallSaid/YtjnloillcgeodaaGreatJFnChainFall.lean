/- The law FnChainFall (promise 16) holds: of a drawn chain and a drawn number the program's ChainFall answers as the model's; of a chain that is ok, of more than one node, and one of them, what the others had they have, and what all nodes have is no less. No condition. -/
import Derived.Test.YtjnloillcgeodaaGreatJVerOk0
import Derived.Test.YtjnloillcgeodaaGreatJCfStores
import Derived.Test.YtjnloillcgeodaaGreatJFnChainKit
import Derived.Test.YtjnloillcgeodaaGreatJSortRow
import Derived.Test.YtjnloillcgeodaaGreatJChainFall
import Derived.Test.YtjnloillcgeodaaGreatJLift0
namespace Go.Proofs.YtjnloillcgeodaaGreat.FnChainFall
open Go.ChangeShapes Go.WideShapes Go.ChangeAt Go.RowKit Go.Joins
attribute [local go_sem ↓] Go.wp_at_zero Go.wp_at_succ

set_option maxRecDepth 100000 in
set_option maxHeartbeats 8000000 in
theorem walk (a : Option Addr) (len cap : Nat) (w : World) (hc : Code0 w a len cap) :
    Calls Tryz.prog 3 #[.slice a len cap] w fun e w' => e = .returned (.bool true) ∧ Below w.heap.size w w' := by
  by_cases h1 : 1048576 < len
  · have h1' : (1048576 : Int) < (len : Int) := by omega
    go_enter Tryz.func3, Tryz.ntmps3
    go_wp2
    go_ret
    exact ⟨rfl, Below.refl _ _⟩
  have h1' : (len : Int) ≤ 1048576 := by omega
  go_enter Tryz.func3, Tryz.ntmps3
  go_wp2_with fail
  refine (drawChainFall_any w a len cap hc (by omega)).mono ?_
  rintro e w1 ⟨A1, c1, ns, k, rfl, hf, hC1, hb1⟩
  have hnn : ns.length ≤ 1048576 := by have := hf.1; omega
  have SM := hide (fewN_sm hf)
  have SL := hide (fewN_small hf)
  have LA := below_alloc1 w1 (.cells #[.slice A1 ns.length c1] 25)
  have B3 := Blk.made w1 25 #[.slice A1 ns.length c1]
  have CN := hC1.on LA
  have L0 := hb1.trans (LA.mono hb1.size)
  have k3 := B3.one.1
  clear hC1 LA hb1 hc hf
  go_wp2_with fail
  generalize w1.alloc (.cells #[.slice A1 ns.length c1] 25) = W1 at B3 CN L0 k3 ⊢
  generalize w1.heap.size = p3 at *
  with_reducible refine (implChainFall_any A1 c1 ns k W1 hnn SM.out CN).mono ?_
  rintro e w2 ⟨A5, cap5, us5, rfl, hn5, R5, hb2⟩
  have HN5 := hide hn5
  have LB := hb2.trans ((below_alloc1 w2 (.cells #[.slice A5 (fallN ns k).length cap5] 25)).mono hb2.size)
  replace B3 := B3.on LB
  have B5 := Blk.made w2 25 #[.slice A5 (fallN ns k).length cap5]
  replace CN := CN.on LB
  have C5 := R5.cg.on (below_alloc1 w2 (.cells #[.slice A5 (fallN ns k).length cap5] 25))
  replace L0 := L0.trans (LB.mono L0.size)
  clear hn5 R5 hb2
  replace k3 := B3.one.1
  go_wp2_with fail
  generalize w2.alloc (.cells #[.slice A5 (fallN ns k).length cap5] 25) = W2 at B3 B5 CN C5 L0 k3 LB ⊢
  generalize w2.heap.size = p5 at *
  with_reducible refine (specChainFall_any A1 c1 ns k W2 hnn SM.out CN).mono ?_
  rintro e w3 ⟨A7, cap7, us7, rfl, hn7, R7, hb3⟩
  have HN7 := hide hn7
  have LD := hb3.trans ((below_alloc1 w3 (.cells #[.slice A7 (fallN ns k).length cap7] 25)).mono hb3.size)
  replace B3 := B3.on LD
  replace B5 := B5.on LD
  have B7 := Blk.made w3 25 #[.slice A7 (fallN ns k).length cap7]
  replace CN := CN.on LD
  replace C5 := C5.on LD
  have C7 := R7.cg.on (below_alloc1 w3 (.cells #[.slice A7 (fallN ns k).length cap7] 25))
  replace L0 := L0.trans (LD.mono L0.size)
  have k5 := B5.one.1
  clear hn7 R7 hb3 LB k3
  go_wp2_with fail
  clear k5
  generalize w3.alloc (.cells #[.slice A7 (fallN ns k).length cap7] 25) = W at B3 B5 B7 CN C5 C7 L0 ⊢
  generalize w3.heap.size = p7 at *
  clear LD
  have PF := hide (fallN_fine ns k)
  have hpl : (fallN ns k).length ≤ 1048576 := by have := PF.out.1; omega
  cases ho : chainB ns
  · have HE := fallN_no (k := k) ho
    rw [HE.1] at HN5 HN7 B5 B7 PF hpl
    simp only [HE.1, HE.2]
    have HP := hide ho
    clear ho HE
    have k5 := B5.one.1
    have k7 := B7.one.1
    with_reducible refine (cfChain_nl (rs := []) PF.out.small hpl HN5.out HN7.out C5 C7).mono ?_
    rintro e w4 ⟨rfl, hb4⟩
    have k3 := (B3.on hb4).one.1
    have HB4 := hide hb4
    clear hb4 k5 k7
    go_wp2_with fail
    with_reducible refine (implChainOk_any A1 c1 ns w4 hnn SM.out (CN.on HB4.out)).mono ?_
    rintro e w5 ⟨rfl, hb5⟩
    rw [HP.out]
    have LX := HB4.out.trans (hb5.mono HB4.out.size)
    have k5 := (B5.on LX).one.1
    have k7 := (B7.on LX).one.1
    clear hb5 HB4 k3
    go_wp2_with fail
    refine (cfChain_nl (rs := []) PF.out.small hpl HN5.out HN7.out (C5.on LX) (C7.on LX)).mono ?_
    rintro e w6 ⟨rfl, hb6⟩
    have L9 := L0.trans ((LX.trans (hb6.mono LX.size)).mono L0.size)
    clear hb6 LX k5 k7
    go_wp2
    go_ret
    exact ⟨rfl, L9⟩
  have HP := hide ho
  cases hcan : fallB ns k
  · have HE := fallN_not ho hcan
    rw [HE.1] at HN5 HN7 B5 B7 PF hpl
    simp only [HE.1, HE.2]
    clear ho HE
    have k5 := B5.one.1
    have k7 := B7.one.1
    with_reducible refine (cfChain_nl (rs := ns) PF.out.small hpl HN5.out HN7.out C5 C7).mono ?_
    rintro e w4 ⟨rfl, hb4⟩
    have k3 := (B3.on hb4).one.1
    have HB4 := hide hb4
    clear hb4 k5 k7
    go_wp2_with fail
    with_reducible refine (implChainOk_any A1 c1 ns w4 hnn SM.out (CN.on HB4.out)).mono ?_
    rintro e w5 ⟨rfl, hb5⟩
    rw [HP.out]
    have LX := HB4.out.trans (hb5.mono HB4.out.size)
    have k3 := (B3.on LX).one.1
    have k5 := (B5.on LX).one.1
    clear hb5 HB4
    go_wp2_with fail
    with_reducible refine (cfChain_nl (rs := ns) SL.out hnn HN5.out (nl_same ns) (C5.on LX) (CN.on LX)).mono ?_
    rintro e w6 ⟨rfl, hb6⟩
    have L9 := L0.trans ((LX.trans (hb6.mono LX.size)).mono L0.size)
    clear hb6 LX k5 k3
    go_wp2
    go_ret
    exact ⟨rfl, L9⟩
  have HE := fallN_yes ho hcan
  obtain ⟨h2, hk0, hkl⟩ : 2 ≤ ns.length ∧ 0 ≤ k ∧ k < (ns.length : Int) := by
    unfold fallB at hcan
    rw [Bool.and_eq_true, decide_eq_true_eq, decide_eq_true_eq] at hcan
    exact hcan
  obtain ⟨kn, rfl⟩ : ∃ kn : Nat, k = (kn : Int) := ⟨k.toNat, by omega⟩
  rw [Int.toNat_natCast] at HE
  have hkn : kn < ns.length := by omega
  obtain ⟨fl, hfl⟩ : ∃ fl, fl = (fallG ns kn).length := ⟨_, rfl⟩
  have hfl1 : fl + 1 = ns.length := by rw [hfl, fallG_len hkn]; omega
  have HCA := hide (chain_fall ho h2 hkn)
  have HST := hide (stable_fall ho h2 hkn)
  have hl4 := (chainB_parts ho).1.2
  rw [HE.1] at HN5 HN7 B5 B7 PF hpl
  rw [← hfl] at B5 B7
  simp only [HE.1, HE.2, ← hfl]
  obtain ⟨G1, cur1, rfl, hg1⟩ := cgA_at CN (by omega)
  have hul : us5.length = fl := by rw [HN5.out.1, hfl]
  obtain ⟨G5, cur5, rfl, hg5⟩ := cgA_at C5 (by omega)
  have CG1 := hide hg1
  have CG5 := hide hg5
  have HFL := hide hfl
  have HUL := hide hul
  have SM5 := hide (fine_sm (PF.out.like HN5.out))
  have HOK : Hid (chainB us5 = true) := by unfold Hid; rw [chainB_like HN5.out]; exact HCA.out
  have HST5 : Hid (pwB (stableR ns) (stableR us5) = true) := by unfold Hid; rw [stableR_like HN5.out]; exact HST.out
  have HF1 := hide hfl1
  clear hg1 hg5 hul hfl ho HE hcan h2
  have k5 := B5.one.1
  have k7 := B7.one.1
  have CT := hide (cfChain_nl (A := some ⟨G5, 0, none⟩) (A' := A7) (c := cap5) (c' := cap7) (rs := fallG ns kn) PF.out.small hpl HN5.out HN7.out C5 C7)
  unfold Hid at CT
  rw [← HFL.out] at CT
  with_reducible refine CT.mono ?_
  clear CT
  rintro e w4 ⟨rfl, hb4⟩
  have k3 := (B3.on hb4).one.1
  have HB4 := hide hb4
  clear hb4 k5 k7
  go_wp2_with fail
  with_reducible refine (implChainOk_any (some ⟨G1, 0, none⟩) c1 ns w4 hnn SM.out (CN.on HB4.out)).mono ?_
  rintro e w5 ⟨rfl, hb5⟩
  rw [HP.out]
  have LX := HB4.out.trans (hb5.mono HB4.out.size)
  clear hb5 HB4 k3
  go_wp2_with fail
  go_loopw [9, 10] (fun a i wr => ∃ (j q : Nat), j ≤ ns.length ∧ i = .int .i64 (j : Int) ∧ a = .int .i64 (q : Int) ∧ Hid (q = if j ≤ kn then j else j - 1) ∧ Below W.heap.size W wr) (fun _ i _ => ns.length - (intOf i).toNat)
  case atStart => exact ⟨0, 0, Nat.zero_le _, rfl, rfl, by unfold Hid; rw [if_pos (Nat.zero_le _)], LX⟩
  case round =>
    clear LX
    obtain ⟨j, q, hj, rfl, rfl, HQ, hL⟩ := hrel
    have k3 := (B3.on hL).one.1
    by_cases hlt : j < ns.length
    · by_cases hjk : j = kn
      · have hjb : ((j : Int) == (kn : Int)) = true := by rw [hjk]; simp
        have HJK := hide hjk
        clear hjk
        go_wp2
        exact ⟨⟨j + 1, q, by omega, by go_num, rfl, by unfold Hid; rw [HQ.out, if_pos (by rw [HJK.out]; exact Nat.le_refl _), if_neg (by rw [HJK.out]; omega)]; omega, hL⟩, by simp [intOf]; omega⟩
      · have hjb : ((j : Int) == (kn : Int)) = false := by rw [beq_eq_false_iff_ne]; omega
        obtain ⟨n0, hn0⟩ : ∃ n0, ns[j]? = some n0 := ⟨_, List.getElem?_eq_getElem hlt⟩
        have hqf : q < fl := by have := HF1.out; rw [HQ.out]; split <;> omega
        have hqs : (if q < kn then q else q + 1) = j := by rw [HQ.out]; split <;> split <;> omega
        obtain ⟨x5, hx5⟩ : ∃ x5, (fallG ns kn)[q]? = some x5 := ⟨_, List.getElem?_eq_getElem (by have := HFL.out; omega)⟩
        obtain ⟨y, hy, hys, -⟩ := fall_at hkn hx5
        have hy2 := erase_at hy
        rw [hqs, hn0] at hy2
        injection hy2 with hy2
        subst hy2
        obtain ⟨n5, hn5, hlk⟩ := nl_at (nl_symm HN5.out) hx5
        have hss : LL n5.ss n0.ss := by rw [← hys]; exact ll_symm ⟨hlk.1, hlk.2.1⟩
        have A1 := CG1.out.at' j n0 hn0
        have A5 := CG5.out.at' q n5 hn5
        rw [NdAt, hss.1] at A5
        have HSS := hide hss
        have Q1 := hide A1
        have Q5 := hide A5
        have HT5 := hide (ts_ss SM5.out hn5)
        have hnl : n0.ss.length ≤ 1048576 := len_ss SM.out hn0
        have V1 := hide (CG1.out.store j n0 hn0)
        have V5 := hide (CG5.out.store q n5 hn5)
        have HJN := hide hjk
        clear A1 A5 hss hlk hn0 hn5 hx5 hy hys hqs hjk
        have i1 : (0 : Int) ≤ (j : Int) := by omega
        have i2 : (j : Int) < (ns.length : Int) := by omega
        have i3 : (0 : Int) ≤ (q : Int) := by omega
        have i4 : (q : Int) < (fl : Int) := by omega
        have i9 : q ≤ 4 := by have := HF1.out; omega
        go_wp2_with fail
        refine wp_region_noPanic ?_
        refine wp_region_held_drew (S := (fun w' => (w'.cell? ⟨p3, 0, none⟩ = some (.slice (some ⟨G1, 0, none⟩) ns.length c1) ∧ w'.cell? ⟨p5, 0, none⟩ = some (.slice (some ⟨G5, 0, none⟩) fl cap5) ∧ w'.cell? ⟨G5, q * 2, none⟩ = some (.slice n5.sa n0.ss.length n5.sc) ∧ w'.cell? ⟨G1, j * 2, none⟩ = some (.slice n0.sa n0.ss.length n0.sc)) ∧ Below W.heap.size W w')) (by kernel_rfl) (by exact ⟨⟨(B3.on ((hL).drew)).at 0, (B5.on ((hL).drew)).at 0, ((CG5.out.blk.on ((hL).drew)).at _).trans Q5.out.1, ((CG1.out.blk.on ((hL).drew)).at _).trans Q1.out.1⟩, (hL).drew⟩) (fun hHeld => ?_)
        refine take_run 0 (some 68) (v := ?_) rfl rfl (by kernel_rfl) (by kernel_rfl) (by kernel_rfl) (fun _ _ _ h => h) (by rfl) ?_ hHeld ?_
        rotate_left
        · ((intro w hSw); (try dsimp only at hSw); go_simp <;> with_reducible rfl)
        simp only [Act.put, List.setIfInBounds_toArray, List.set_cons_zero, List.set_cons_succ]
        refine take_run 1 (some 69) (v := ?_) rfl rfl (by kernel_rfl) (by kernel_rfl) (by kernel_rfl) (fun _ _ _ h => h) (by rfl) ?_ hHeld ?_
        rotate_left
        · ((intro w hSw); (try dsimp only at hSw); go_simp <;> with_reducible rfl)
        simp only [Act.put, List.setIfInBounds_toArray, List.set_cons_zero, List.set_cons_succ]
        refine take_run 2 (some 70) (v := ?_) rfl rfl (by kernel_rfl) (by kernel_rfl) (by kernel_rfl) (fun _ _ _ h => h) (by rfl) ?_ hHeld ?_
        rotate_left
        · ((intro w hSw); (try dsimp only at hSw); go_simp <;> with_reducible rfl)
        simp only [Act.put, List.setIfInBounds_toArray, List.set_cons_zero, List.set_cons_succ]
        refine take_run 3 (some 71) (v := ?_) rfl rfl (by kernel_rfl) (by kernel_rfl) (by kernel_rfl) (fun _ _ _ h => h) (by rfl) ?_ hHeld ?_
        rotate_left
        · ((intro w hSw); (try dsimp only at hSw); go_simp <;> with_reducible rfl)
        simp only [Act.put, List.setIfInBounds_toArray, List.set_cons_zero, List.set_cons_succ]
        refine take_run 4 (some 72) (v := ?_) rfl rfl (by kernel_rfl) (by kernel_rfl) (by kernel_rfl) (fun _ _ _ h => h) (by rfl) ?_ hHeld ?_
        rotate_left
        · ((intro w hSw); (try dsimp only at hSw); go_simp <;> with_reducible rfl)
        simp only [Act.put, List.setIfInBounds_toArray, List.set_cons_zero, List.set_cons_succ]
        refine take_run 5 (some 73) (v := ?_) rfl rfl (by kernel_rfl) (by kernel_rfl) (by kernel_rfl) (fun _ _ _ h => h) (by rfl) ?_ hHeld ?_
        rotate_left
        · ((intro w hSw); (try dsimp only at hSw); go_simp <;> with_reducible rfl)
        simp only [Act.put, List.setIfInBounds_toArray, List.set_cons_zero, List.set_cons_succ]
        refine take_run 6 (some 74) (v := ?_) rfl rfl (by kernel_rfl) (by kernel_rfl) (by kernel_rfl) (fun _ _ _ h => h) (by rfl) ?_ hHeld ?_
        rotate_left
        · ((intro w hSw); (try dsimp only at hSw); go_simp <;> with_reducible rfl)
        simp only [Act.put, List.setIfInBounds_toArray, List.set_cons_zero, List.set_cons_succ]
        refine take_run 7 (some 75) (v := ?_) rfl rfl (by kernel_rfl) (by kernel_rfl) (by kernel_rfl) (fun _ _ _ h => h) (by rfl) ?_ hHeld ?_
        rotate_left
        · ((intro w hSw); (try dsimp only at hSw); go_simp <;> with_reducible rfl)
        simp only [Act.put, List.setIfInBounds_toArray, List.set_cons_zero, List.set_cons_succ]
        refine take_run 8 (some 76) (v := ?_) rfl rfl (by kernel_rfl) (by kernel_rfl) (by kernel_rfl) (fun _ _ _ h => h) (by rfl) ?_ hHeld ?_
        rotate_left
        · ((intro w hSw); (try dsimp only at hSw); go_simp <;> with_reducible rfl)
        simp only [Act.put, List.setIfInBounds_toArray, List.set_cons_zero, List.set_cons_succ]
        refine take_run 9 (some 77) (v := ?_) rfl rfl (by kernel_rfl) (by kernel_rfl) (by kernel_rfl) (fun _ _ _ h => h) (by rfl) ?_ hHeld ?_
        rotate_left
        · ((intro w hSw); (try dsimp only at hSw); go_simp <;> with_reducible rfl)
        simp only [Act.put, List.setIfInBounds_toArray, List.set_cons_zero, List.set_cons_succ]
        refine take_run 10 (some 78) (v := ?_) rfl rfl (by kernel_rfl) (by kernel_rfl) (by kernel_rfl) (fun _ _ _ h => h) (by rfl) ?_ hHeld ?_
        rotate_left
        · ((intro w hSw); (try dsimp only at hSw); go_simp <;> with_reducible rfl)
        simp only [Act.put, List.setIfInBounds_toArray, List.set_cons_zero, List.set_cons_succ]
        refine take_run 11 (some 79) (v := ?_) rfl rfl (by kernel_rfl) (by kernel_rfl) (by kernel_rfl) (fun _ _ _ h => h) (by rfl) ?_ hHeld ?_
        rotate_left
        · ((intro w hSw); (try dsimp only at hSw); go_simp <;> with_reducible rfl)
        simp only [Act.put, List.setIfInBounds_toArray, List.set_cons_zero, List.set_cons_succ]
        refine take_one 12 (by kernel_rfl) rfl (fun K hK => ?_)
        go_simp
        ((refine (cfStore_same n5.sa n0.sa n5.sc n0.sc n0.ss.length n5.ss n0.ss _ hnl HSS.out.1 rfl HSS.out.2 HT5.out ((V5.out.on hHeld.2).up hHeld.2.size) ((V1.out.on hHeld.2).up hHeld.2.size)).mono ?_; rintro e w8 ⟨rfl, hb⟩))
        try go_wp2_with fail
        refine hK.out _ _ (by exact ⟨⟨(B3.on (hHeld.2.trans (hb.mono hHeld.2.size))).at 0, (B5.on (hHeld.2.trans (hb.mono hHeld.2.size))).at 0, ((CG5.out.blk.on (hHeld.2.trans (hb.mono hHeld.2.size))).at _).trans Q5.out.1, ((CG1.out.blk.on (hHeld.2.trans (hb.mono hHeld.2.size))).at _).trans Q1.out.1⟩, hHeld.2.trans (hb.mono hHeld.2.size)⟩) (fun hHeld => ?_)
        clear hK K
        refine take_run 13 (some 81) (v := ?_) rfl rfl (by kernel_rfl) (by kernel_rfl) (by kernel_rfl) (fun _ _ _ h => h) (by rfl) ?_ hHeld ?_
        rotate_left
        · ((intro w hSw); (try dsimp only at hSw); go_simp <;> with_reducible rfl)
        simp only [Act.put, List.setIfInBounds_toArray, List.set_cons_zero, List.set_cons_succ]
        refine wpAnyH_done (by kernel_rfl) ?_ _
        refine NoPanic.normal ?_
        have hL2 := hHeld.2
        clear hHeld hL k3
        go_wp2
        exact ⟨⟨j + 1, q + 1, by omega, by go_num, by go_num, by have h9 := HQ.out; have h8 := HJN.out; unfold Hid; revert h9; split <;> split <;> omega, hL2⟩, by simp [intOf]; omega⟩
    · have hjn : j = ns.length := by omega
      have hqf : q = fl := by have := HF1.out; rw [HQ.out, if_neg (by omega)]; omega
      subst hqf
      have hlt' : ¬ (j : Int) < (ns.length : Int) := by omega
      clear hlt hjn
      go_wp2_with fail
      refine wp_region_noPanic ?_
      refine wp_region_held_drew (S := (fun w' => (w'.cell? ⟨p3, 0, none⟩ = some (.slice (some ⟨G1, 0, none⟩) ns.length c1) ∧ w'.cell? ⟨p5, 0, none⟩ = some (.slice (some ⟨G5, 0, none⟩) q cap5)) ∧ Below W.heap.size W w')) (by kernel_rfl) (by exact ⟨⟨(B3.on ((hL).drew)).at 0, (B5.on ((hL).drew)).at 0⟩, (hL).drew⟩) (fun hHeld => ?_)
      refine take_run 0 (some 84) (v := ?_) rfl rfl (by kernel_rfl) (by kernel_rfl) (by kernel_rfl) (fun _ _ _ h => h) (by rfl) ?_ hHeld ?_
      rotate_left
      · ((intro w hSw); (try dsimp only at hSw); go_simp <;> with_reducible rfl)
      simp only [Act.put, List.setIfInBounds_toArray, List.set_cons_zero, List.set_cons_succ]
      refine take_one 1 (by kernel_rfl) rfl (fun K hK => ?_)
      go_simp
      ((have CT := implChainOk_any (some ⟨G5, 0, none⟩) cap5 us5 _ (by have := HUL.out; omega) SM5.out (C5.on hHeld.2); rw [HUL.out, HOK.out] at CT; refine CT.mono ?_; clear CT; rintro e wb1 ⟨rfl, hb⟩))
      try go_wp2_with fail
      refine hK.out _ _ (by exact ⟨⟨(B3.on (hHeld.2.trans (hb.mono hHeld.2.size))).at 0, (B5.on (hHeld.2.trans (hb.mono hHeld.2.size))).at 0⟩, hHeld.2.trans (hb.mono hHeld.2.size)⟩) (fun hHeld => ?_)
      clear hK K
      refine take_run 2 (some 86) (v := ?_) rfl rfl (by kernel_rfl) (by kernel_rfl) (by kernel_rfl) (fun _ _ _ h => h) (by rfl) ?_ hHeld ?_
      rotate_left
      · ((intro w hSw); (try dsimp only at hSw); go_simp <;> with_reducible rfl)
      simp only [Act.put, List.setIfInBounds_toArray, List.set_cons_zero, List.set_cons_succ]
      refine take_run 3 (some 87) (v := ?_) rfl rfl (by kernel_rfl) (by kernel_rfl) (by kernel_rfl) (fun _ _ _ h => h) (by rfl) ?_ hHeld ?_
      rotate_left
      · ((intro w hSw); (try dsimp only at hSw); go_simp <;> with_reducible rfl)
      simp only [Act.put, List.setIfInBounds_toArray, List.set_cons_zero, List.set_cons_succ]
      refine take_run 4 (some 88) (v := ?_) rfl rfl (by kernel_rfl) (by kernel_rfl) (by kernel_rfl) (fun _ _ _ h => h) (by rfl) ?_ hHeld ?_
      rotate_left
      · ((intro w hSw); (try dsimp only at hSw); go_simp <;> with_reducible rfl)
      simp only [Act.put, List.setIfInBounds_toArray, List.set_cons_zero, List.set_cons_succ]
      refine take_run 5 (some 89) (v := ?_) rfl rfl (by kernel_rfl) (by kernel_rfl) (by kernel_rfl) (fun _ _ _ h => h) (by rfl) ?_ hHeld ?_
      rotate_left
      · ((intro w hSw); (try dsimp only at hSw); go_simp <;> with_reducible rfl)
      simp only [Act.put, List.setIfInBounds_toArray, List.set_cons_zero, List.set_cons_succ]
      refine take_run 6 (some 90) (v := ?_) rfl rfl (by kernel_rfl) (by kernel_rfl) (by kernel_rfl) (fun _ _ _ h => h) (by rfl) ?_ hHeld ?_
      rotate_left
      · ((intro w hSw); (try dsimp only at hSw); go_simp <;> with_reducible rfl)
      simp only [Act.put, List.setIfInBounds_toArray, List.set_cons_zero, List.set_cons_succ]
      refine take_run 7 (some 91) (v := ?_) rfl rfl (by kernel_rfl) (by kernel_rfl) (by kernel_rfl) (fun _ _ _ h => h) (by rfl) ?_ hHeld ?_
      rotate_left
      · ((intro w hSw); (try dsimp only at hSw); go_simp <;> with_reducible rfl)
      simp only [Act.put, List.setIfInBounds_toArray, List.set_cons_zero, List.set_cons_succ]
      refine take_run 8 (some 92) (v := ?_) rfl rfl (by kernel_rfl) (by kernel_rfl) (by kernel_rfl) (fun _ _ _ h => h) (by rfl) ?_ hHeld ?_
      rotate_left
      · ((intro w hSw); (try dsimp only at hSw); go_simp <;> with_reducible rfl)
      simp only [Act.put, List.setIfInBounds_toArray, List.set_cons_zero, List.set_cons_succ]
      refine take_run 9 (some 93) (v := ?_) rfl rfl (by kernel_rfl) (by kernel_rfl) (by kernel_rfl) (fun _ _ _ h => h) (by rfl) ?_ hHeld ?_
      rotate_left
      · ((intro w hSw); (try dsimp only at hSw); go_simp <;> with_reducible rfl)
      simp only [Act.put, List.setIfInBounds_toArray, List.set_cons_zero, List.set_cons_succ]
      refine take_run 10 (some 94) (v := ?_) rfl rfl (by kernel_rfl) (by kernel_rfl) (by kernel_rfl) (fun _ _ _ h => h) (by rfl) ?_ hHeld ?_
      rotate_left
      · ((intro w hSw); (try dsimp only at hSw); go_simp <;> with_reducible rfl)
      simp only [Act.put, List.setIfInBounds_toArray, List.set_cons_zero, List.set_cons_succ]
      refine take_run 12 (some 96) (v := ?_) rfl rfl (by kernel_rfl) (by kernel_rfl) (by kernel_rfl) (fun _ _ _ h => h) (by rfl) ?_ hHeld ?_
      rotate_left
      · ((intro w hSw); (try dsimp only at hSw); go_simp <;> with_reducible rfl)
      simp only [Act.put, List.setIfInBounds_toArray, List.set_cons_zero, List.set_cons_succ]
      refine take_one 11 (by kernel_rfl) rfl (fun K hK => ?_)
      go_simp
      ((refine (implChainStable_any (some ⟨G1, 0, none⟩) c1 ns _ hnn SM.out (CN.on hHeld.2)).mono ?_; rintro e wt4 ⟨A4', cap4, rfl, hR4, hb⟩))
      try go_wp2_with fail
      refine hK.out _ _ (by exact ⟨⟨(B3.on (hHeld.2.trans (hb.mono hHeld.2.size))).at 0, (B5.on (hHeld.2.trans (hb.mono hHeld.2.size))).at 0⟩, hHeld.2.trans (hb.mono hHeld.2.size)⟩) (fun hHeld => ?_)
      clear hK K
      refine take_one 13 (by kernel_rfl) rfl (fun K hK => ?_)
      go_simp
      ((have CT := implChainStable_any (some ⟨G5, 0, none⟩) cap5 us5 _ (by have := HUL.out; omega) SM5.out (C5.on hHeld.2); rw [HUL.out] at CT; refine CT.mono ?_; clear CT; rintro e wt6 ⟨A6, cap6, rfl, hR6, hb⟩; have HR4 := hR4.on hb))
      try go_wp2_with fail
      refine hK.out _ _ (by exact ⟨⟨(B3.on (hHeld.2.trans (hb.mono hHeld.2.size))).at 0, (B5.on (hHeld.2.trans (hb.mono hHeld.2.size))).at 0⟩, hHeld.2.trans (hb.mono hHeld.2.size)⟩) (fun hHeld => ?_)
      clear hK K
      refine take_one 14 (by kernel_rfl) rfl (fun K hK => ?_)
      go_simp
      ((refine (implPastWithin_any A4' A6 cap4 cap6 (stableR ns) (stableR us5) _ (by have := stableR_len ns; omega) (by have := stableR_len us5; omega) HR4.tg hR6.tg).mono ?_; rintro e wt9 ⟨rfl, hb⟩; rw [HST5.out]))
      try go_wp2_with fail
      refine hK.out _ _ (by exact ⟨⟨(B3.on (hHeld.2.trans (hb.mono hHeld.2.size))).at 0, (B5.on (hHeld.2.trans (hb.mono hHeld.2.size))).at 0⟩, hHeld.2.trans (hb.mono hHeld.2.size)⟩) (fun hHeld => ?_)
      clear hK K
      refine take_run 15 (some 99) (v := ?_) rfl rfl (by kernel_rfl) (by kernel_rfl) (by kernel_rfl) (fun _ _ _ h => h) (by rfl) ?_ hHeld ?_
      rotate_left
      · ((intro w hSw); (try dsimp only at hSw); go_simp <;> with_reducible rfl)
      simp only [Act.put, List.setIfInBounds_toArray, List.set_cons_zero, List.set_cons_succ]
      refine take_run 16 (some 2) (v := ?_) rfl rfl (by kernel_rfl) (by kernel_rfl) (by kernel_rfl) (fun _ _ _ h => h) (by rfl) ?_ hHeld ?_
      rotate_left
      · ((intro w hSw); (try dsimp only at hSw); go_simp <;> with_reducible rfl)
      simp only [Act.put, List.setIfInBounds_toArray, List.set_cons_zero, List.set_cons_succ]
      refine wpAnyH_done (by kernel_rfl) ?_ _
      refine NoPanic.normal ?_
      have L9 := L0.trans (hHeld.2.mono L0.size)
      clear hHeld
      go_wp2
      go_ret
      exact ⟨rfl, L9⟩

set_option maxRecDepth 100000 in
theorem lifted (os : Os) (started : os.Started) (H : Type) (enc : TypeId × Value → H) :
    ReturnsInHanded {} Tryz.checked os 3 .any (Rows.fnChainFallSpec.pre6 enc Tryz.prog Tryz.f3 Rows.fnChainFallRow.domain false) (Rows.fnChainFallSpec.post enc Tryz.prog Tryz.f3 false true false false) := by
  refine returnsInHanded_of_change (C := Tryz.checked) own started (by kernel_rfl) Tryz.func3
    (ChangeSpec.witness6 (enc := enc) (C := Tryz.checked) false ⟨#[], #[.slice none 0 0], []⟩ 8 (by kernel_rfl) (by kernel_rfl) (by kernel_rfl) (by kernel_rfl)) ?_
  intro W base args ds gs before hval0 hW hcnd _
  have hval : ∀ (j : Nat) t v, Tryz.f3.params[j]? = some t → args[j]? = some v → Value.okWide Tryz.prog W .any base t v := hval0
  have hW' := hW
  obtain ⟨p, q, hA0, hV, rfl, hfz, hnd⟩ := hW
  have hA : DataW.TrodAll enc Tryz.prog W 0 (fun _ => true) true Tryz.f3.params.toList args.toList ds p := hA0
  rw [Tryz.params3] at hA hval
  have hK := hA
  obtain ⟨v0, vs0, d0, ds0, p0, q0, hargs, rfl, rfl, h0, r0⟩ := trodAll_cons hA
  obtain ⟨rfl, rfl, rfl⟩ := trodAll_nil r0
  obtain rfl : args = #[v0] := by cases args; simp_all
  obtain ⟨rfl, rfl⟩ := trodVars_none hV
  obtain ⟨a0, len0, cap0, rfl, b0⟩ := read_bytes (hval 0 22 v0 rfl rfl) h0
  clear hA0 hval0
  refine (walk a0 len0 cap0 W b0).mono fun e W' ⟨he, hb⟩ => ?_
  subst he
  have hK' := stay_all hb (by intro t ht; simp only [List.mem_cons, List.not_mem_nil, or_false] at ht; rcases ht with rfl <;> exact ⟨by kernel_rfl, of_decide_eq_true (by kernel_rfl)⟩) hK
  exact ⟨_, rfl, _, _, _, [], _, [], hW', trodAll_mk1 (shut_bool Tryz.underlying4 _), hK', rfl, hb.frame _, fun h => by cases h⟩

theorem over : Rows.fnChainFallRow.holds Tryz.pinned (OpenSpec.ofChange Rows.fnChainFallSpec) :=
  OpenClaim.holds_of_wide 3 Tryz.f3 rfl rfl rfl rfl rfl rfl rfl ⟨rfl, rfl, rfl, rfl, rfl⟩ rfl rfl rfl rfl rfl (by kernel_rfl) Tryz.func3
    (by refine joined_of ?_; kernel_rfl) (of_decide_eq_true (by kernel_rfl)) (by unfold Func.isWrapper; first | (rw [if_pos (by decide +kernel)]; kernel_rfl) | (rw [if_neg (by decide +kernel)]; exact ⟨rfl, rfl⟩))
    (fun os started H enc _ => lifted os started H enc)
end Go.Proofs.YtjnloillcgeodaaGreat.FnChainFall
namespace Go.Proofs.YtjnloillcgeodaaGreat
/-- The statement itself. -/
theorem fnChainFall_holds : Rows.FnChainFallSaid := FnChainFall.over
#print axioms fnChainFall_holds
end Go.Proofs.YtjnloillcgeodaaGreat
namespace Go.Proofs.YtjnloillcgeodaaGreat.FnChainFall
end Go.Proofs.YtjnloillcgeodaaGreat.FnChainFall
