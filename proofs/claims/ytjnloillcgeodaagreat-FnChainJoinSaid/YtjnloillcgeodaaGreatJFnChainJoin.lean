/- The law FnChainJoin (promise 17) holds: of a drawn chain the program's ChainJoin answers as the model's; of a chain that is ok, and has room, the node that comes has what all have, and if it falls again the chain is as it was. No condition. -/
import Derived.Test.YtjnloillcgeodaaGreatJVerOk0
import Derived.Test.YtjnloillcgeodaaGreatJCfStores
import Derived.Test.YtjnloillcgeodaaGreatJFnChainKit
import Derived.Test.YtjnloillcgeodaaGreatJChainSet
import Derived.Test.YtjnloillcgeodaaGreatJJoinFacts
import Derived.Test.YtjnloillcgeodaaGreatJLift0
namespace Go.Proofs.YtjnloillcgeodaaGreat.FnChainJoin
open Go.ChangeShapes Go.WideShapes Go.ChangeAt Go.RowKit Go.Joins
attribute [local go_sem ↓] Go.wp_at_zero Go.wp_at_succ

set_option maxRecDepth 100000 in
set_option maxHeartbeats 8000000 in
theorem walk (a : Option Addr) (len cap : Nat) (w : World) (hc : Code0 w a len cap) :
    Calls Tryz.prog 4 #[.slice a len cap] w fun e w' => e = .returned (.bool true) ∧ Below w.heap.size w w' := by
  by_cases h1 : 1048576 < len
  · have h1' : (1048576 : Int) < (len : Int) := by omega
    go_enter Tryz.func4, Tryz.ntmps4
    go_wp2
    go_ret
    exact ⟨rfl, Below.refl _ _⟩
  have h1' : (len : Int) ≤ 1048576 := by omega
  go_enter Tryz.func4, Tryz.ntmps4
  go_wp2_with fail
  refine (drawChainJoin_any w a len cap hc (by omega)).mono ?_
  rintro e w1 ⟨A1, c1, ns, rfl, hf, hC1, hb1⟩
  have hnn : ns.length ≤ 1048576 := by have := hf.1; omega
  have SM := hide (fewN_sm hf)
  have SL := hide (fewN_small hf)
  have LA := below_alloc1 w1 (.cells #[.slice A1 ns.length c1] 25)
  have B3 := Blk.made w1 25 #[.slice A1 ns.length c1]
  have CN := hC1.on LA
  have L0 := hb1.trans (LA.mono hb1.size)
  have k3 := B3.one.1
  clear hC1 LA hb1 hc hf
  go_wp2_with fail
  generalize w1.alloc (.cells #[.slice A1 ns.length c1] 25) = W1 at B3 CN L0 k3 ⊢
  generalize w1.heap.size = p3 at *
  with_reducible refine (implChainJoin_any A1 c1 ns W1 hnn SM.out CN).mono ?_
  rintro e w2 ⟨A5, cap5, us5, rfl, hn5, R5, hb2⟩
  have HN5 := hide hn5
  have LB := hb2.trans ((below_alloc1 w2 (.cells #[.slice A5 (joinN ns).length cap5] 25)).mono hb2.size)
  replace B3 := B3.on LB
  have B5 := Blk.made w2 25 #[.slice A5 (joinN ns).length cap5]
  replace CN := CN.on LB
  have C5 := R5.cg.on (below_alloc1 w2 (.cells #[.slice A5 (joinN ns).length cap5] 25))
  replace L0 := L0.trans (LB.mono L0.size)
  clear hn5 R5 hb2
  replace k3 := B3.one.1
  go_wp2_with fail
  generalize w2.alloc (.cells #[.slice A5 (joinN ns).length cap5] 25) = W2 at B3 B5 CN C5 L0 k3 LB ⊢
  generalize w2.heap.size = p5 at *
  with_reducible refine (specChainJoin_any A1 c1 ns W2 hnn SM.out CN).mono ?_
  rintro e w3 ⟨A7, cap7, us7, rfl, hn7, R7, hb3⟩
  have HN7 := hide hn7
  have LD := hb3.trans ((below_alloc1 w3 (.cells #[.slice A7 (joinN ns).length cap7] 25)).mono hb3.size)
  replace B3 := B3.on LD
  replace B5 := B5.on LD
  have B7 := Blk.made w3 25 #[.slice A7 (joinN ns).length cap7]
  replace CN := CN.on LD
  replace C5 := C5.on LD
  have C7 := R7.cg.on (below_alloc1 w3 (.cells #[.slice A7 (joinN ns).length cap7] 25))
  replace L0 := L0.trans (LD.mono L0.size)
  have k5 := B5.one.1
  clear hn7 R7 hb3 LB k3
  go_wp2_with fail
  clear k5
  generalize w3.alloc (.cells #[.slice A7 (joinN ns).length cap7] 25) = W at B3 B5 B7 CN C5 C7 L0 ⊢
  generalize w3.heap.size = p7 at *
  clear LD
  have PF := hide (joinN_fine ns)
  have hpl : (joinN ns).length ≤ 1048576 := by have := PF.out.1; omega
  cases ho : chainB ns
  · have HE := joinN_no ho
    rw [HE.1] at HN5 HN7 B5 B7 PF hpl
    simp only [HE.1, HE.2]
    have HP := hide ho
    clear ho HE
    have k5 := B5.one.1
    have k7 := B7.one.1
    with_reducible refine (cfChain_nl (rs := []) PF.out.small hpl HN5.out HN7.out C5 C7).mono ?_
    rintro e w4 ⟨rfl, hb4⟩
    have k3 := (B3.on hb4).one.1
    have HB4 := hide hb4
    clear hb4 k5 k7
    go_wp2_with fail
    with_reducible refine (implChainOk_any A1 c1 ns w4 hnn SM.out (CN.on HB4.out)).mono ?_
    rintro e w5 ⟨rfl, hb5⟩
    rw [HP.out]
    have LX := HB4.out.trans (hb5.mono HB4.out.size)
    have k5 := (B5.on LX).one.1
    have k7 := (B7.on LX).one.1
    clear hb5 HB4 k3
    go_wp2_with fail
    refine (cfChain_nl (rs := []) PF.out.small hpl HN5.out HN7.out (C5.on LX) (C7.on LX)).mono ?_
    rintro e w6 ⟨rfl, hb6⟩
    have L9 := L0.trans ((LX.trans (hb6.mono LX.size)).mono L0.size)
    clear hb6 LX k5 k7
    go_wp2
    go_ret
    exact ⟨rfl, L9⟩
  have HP := hide ho
  have hl4 := (chainB_parts ho).1
  by_cases hcan : ns.length = 4
  · have HE := joinN_full ho hcan
    have h4e : ((ns.length : Int) == 4) = true := by rw [hcan]; rfl
    clear hcan
    rw [HE.1] at HN5 HN7 B5 B7 PF hpl
    simp only [HE.1, HE.2]
    clear ho HE
    have k5 := B5.one.1
    have k7 := B7.one.1
    with_reducible refine (cfChain_nl (rs := ns) PF.out.small hpl HN5.out HN7.out C5 C7).mono ?_
    rintro e w4 ⟨rfl, hb4⟩
    have k3 := (B3.on hb4).one.1
    have HB4 := hide hb4
    clear hb4 k5 k7
    go_wp2_with fail
    with_reducible refine (implChainOk_any A1 c1 ns w4 hnn SM.out (CN.on HB4.out)).mono ?_
    rintro e w5 ⟨rfl, hb5⟩
    rw [HP.out]
    have LX := HB4.out.trans (hb5.mono HB4.out.size)
    have k3 := (B3.on LX).one.1
    have k5 := (B5.on LX).one.1
    clear hb5 HB4
    go_wp2_with fail
    with_reducible refine (cfChain_nl (rs := ns) SL.out hnn HN5.out (nl_same ns) (C5.on LX) (CN.on LX)).mono ?_
    rintro e w6 ⟨rfl, hb6⟩
    have k3 := (B3.on (LX.trans (hb6.mono LX.size))).one.1
    have L9 := L0.trans ((LX.trans (hb6.mono LX.size)).mono L0.size)
    clear hb6 LX k5
    go_wp2
    go_ret
    exact ⟨rfl, L9⟩
  obtain ⟨p, hp⟩ : ∃ p, ns.length = p + 1 := ⟨ns.length - 1, by omega⟩
  obtain ⟨n, hn⟩ : ∃ n, ns[p]? = some n := ⟨_, List.getElem?_eq_getElem (by omega)⟩
  have hp4 : p + 1 < 4 := by omega
  have HE := joinN_yes ho hp hp4 hn
  obtain ⟨xl, hxl⟩ : ∃ xl, xl = ns.length + 1 := ⟨_, rfl⟩
  have hrl : (ns ++ [bare n]).length = xl := by rw [hxl, List.length_append]; rfl
  have HCA := hide (chain_join ho hp hp4 hn)
  have HJF := hide (join_fall ho hp hn)
  have HST := hide (stable_join ho hp hp4 hn)
  rw [HE.1] at HN5 HN7 B5 B7 PF hpl
  rw [hrl] at B5 B7 hpl
  simp only [HE.1, HE.2, hrl]
  have hul : us5.length = xl := by rw [HN5.out.1, hrl]
  have HUL := hide hul
  have HRL := hide hrl
  have HXL := hide hxl
  have SM5 := hide (fine_sm (PF.out.like HN5.out))
  have HOK : Hid (chainB us5 = true) := by unfold Hid; rw [chainB_like HN5.out]; exact HCA.out
  have HST5 : Hid (stableR us5 = stableR ns) := by unfold Hid; rw [stableR_like HN5.out]; exact HST.out
  have HFF : Hid (fallN (ns ++ [bare n]) (ns.length : Int) = fallG (ns ++ [bare n]) ns.length ∧ fallK (ns ++ [bare n]) (ns.length : Int) = true) := by
    have := fallN_yes (ns := ns ++ [bare n]) (k := (ns.length : Int)) HCA.out (by unfold fallB; rw [HRL.out, decide_eq_true (by omega), decide_eq_true (by omega)]; rfl)
    rwa [Int.toNat_natCast] at this
  have HCF : Hid (∀ W', Below W.heap.size W W' → Calls Tryz.prog 8 #[.agg #[.slice A5 xl cap5], .int .i64 (ns.length : Int)] W' fun e w' => ∃ (A : Option Addr) (cap : Nat) (us : List Nd), e = .returned (.tuple #[.agg #[.slice A ns.length cap], .bool true]) ∧ Hid (NL us ns) ∧ CgA w' A us ∧ Below W'.heap.size W' w') := fun W' hW => by
    have C := implChainFall_any A5 cap5 us5 (ns.length : Int) W' (by rw [HUL.out]; exact hpl) SM5.out (C5.on hW)
    rw [HUL.out] at C
    refine C.mono ?_
    rintro e w' ⟨A, cap, us, he, h1, h2, h3⟩
    have hl := fallN_like HN5.out (ns.length : Int)
    have hnl : NL (fallN us5 (ns.length : Int)) ns := nl_trans hl.1 (by rw [HFF.out.1]; exact HJF.out)
    exact ⟨A, cap, us, by rw [he, hnl.1, hl.2, HFF.out.2], nl_trans h1 hnl, h2.cg, h3⟩
  have jw : IntKind.i64.wrap ((xl : Int) - 1) = (ns.length : Int) := by rw [IntKind.wrap_i64]; omega
  have jw2 : IntKind.i64.wrap ((ns.length : Int) + 1) = (xl : Int) := by rw [IntKind.wrap_i64]; omega
  have jm : (xl : Int) - 1 = (ns.length : Int) := by omega
  have JM := hide jm
  clear ho HE hrl hul hp hn hxl jm hp4 hcan
  have k5 := B5.one.1
  have k7 := B7.one.1
  have CT := cfChain_nl (A := A5) (A' := A7) (c := cap5) (c' := cap7) (rs := ns ++ [bare n]) PF.out.small (by rw [HRL.out]; exact hpl) HN5.out HN7.out C5 C7
  rw [HRL.out] at CT
  with_reducible refine CT.mono ?_
  clear CT
  rintro e w4 ⟨rfl, hb4⟩
  have k3 := (B3.on hb4).one.1
  have HB4 := hide hb4
  clear hb4 k5 k7
  go_wp2_with fail
  with_reducible refine (implChainOk_any A1 c1 ns w4 hnn SM.out (CN.on HB4.out)).mono ?_
  rintro e w5 ⟨rfl, hb5⟩
  rw [HP.out]
  have LX := HB4.out.trans (hb5.mono HB4.out.size)
  have k5 := (B5.on LX).one.1
  clear hb5 HB4 k3
  go_wp2_with fail
  have CF := HCF.out w5 LX
  have CF2 := HCF.out w5 LX
  rw [← JM.out] at CF2
  first | with_reducible refine CF.mono ?_ | with_reducible refine CF2.mono ?_
  clear CF CF2
  rintro e w6 ⟨A8, cap8, us8, rfl, HN8, hC8, hb6⟩
  have LZ := (LX.trans (hb6.mono LX.size))
  have LW := LZ.trans ((below_alloc1 w6 (.cells #[.slice A8 ns.length cap8] 25)).mono LZ.size)
  have B8 := Blk.made w6 25 #[.slice A8 ns.length cap8]
  have C8 := hC8.on (below_alloc1 w6 (.cells #[.slice A8 ns.length cap8] 25))
  replace B3 := B3.on LW
  replace B5 := B5.on LW
  replace CN := CN.on LW
  replace C5 := C5.on LW
  replace L0 := L0.trans (LW.mono L0.size)
  clear hb6 hC8 LX LZ k5 HCF B7 C7
  go_wp2_with fail
  generalize w6.alloc (.cells #[.slice A8 ns.length cap8] 25) = W9 at B3 B5 B8 CN C5 C8 L0 ⊢
  generalize w6.heap.size = p8 at B8 ⊢
  clear LW
  have LR := Below.refl W9.heap.size W9
  refine wp_region_noPanic ?_
  refine wp_region_held_drew (S := (fun w' => (w'.cell? ⟨p3, 0, none⟩ = some (.slice A1 ns.length c1) ∧ w'.cell? ⟨p5, 0, none⟩ = some (.slice A5 xl cap5) ∧ w'.cell? ⟨p8, 0, none⟩ = some (.slice A8 ns.length cap8)) ∧ Below W9.heap.size W9 w')) (by kernel_rfl) (by exact ⟨⟨(B3.on ((LR).drew)).at 0, (B5.on ((LR).drew)).at 0, (B8.on ((LR).drew)).at 0⟩, (LR).drew⟩) (fun hHeld => ?_)
  refine take_run 0 (some 67) (v := ?_) rfl rfl (by kernel_rfl) (by kernel_rfl) (by kernel_rfl) (fun _ _ _ h => h) (by rfl) ?_ hHeld ?_
  rotate_left
  · ((intro w hSw); (try dsimp only at hSw); go_simp <;> with_reducible rfl)
  simp only [Act.put, List.setIfInBounds_toArray, List.set_cons_zero, List.set_cons_succ]
  refine take_one 1 (by kernel_rfl) rfl (fun K hK => ?_)
  go_simp
  ((have CT := implChainOk_any A5 cap5 us5 _ (by rw [HUL.out]; exact hpl) SM5.out (C5.on hHeld.2); rw [HUL.out, HOK.out] at CT; refine CT.mono ?_; clear CT; rintro e wb1 ⟨rfl, hb⟩))
  try go_wp2_with fail
  refine hK.out _ _ (by exact ⟨⟨(B3.on (hHeld.2.trans (hb.mono hHeld.2.size))).at 0, (B5.on (hHeld.2.trans (hb.mono hHeld.2.size))).at 0, (B8.on (hHeld.2.trans (hb.mono hHeld.2.size))).at 0⟩, hHeld.2.trans (hb.mono hHeld.2.size)⟩) (fun hHeld => ?_)
  clear hK K
  refine take_run 2 (some 69) (v := ?_) rfl rfl (by kernel_rfl) (by kernel_rfl) (by kernel_rfl) (fun _ _ _ h => h) (by rfl) ?_ hHeld ?_
  rotate_left
  · ((intro w hSw); (try dsimp only at hSw); go_simp <;> with_reducible rfl)
  simp only [Act.put, List.setIfInBounds_toArray, List.set_cons_zero, List.set_cons_succ]
  refine take_run 3 (some 70) (v := ?_) rfl rfl (by kernel_rfl) (by kernel_rfl) (by kernel_rfl) (fun _ _ _ h => h) (by rfl) ?_ hHeld ?_
  rotate_left
  · ((intro w hSw); (try dsimp only at hSw); go_simp <;> with_reducible rfl)
  simp only [Act.put, List.setIfInBounds_toArray, List.set_cons_zero, List.set_cons_succ]
  refine take_run 4 (some 71) (v := ?_) rfl rfl (by kernel_rfl) (by kernel_rfl) (by kernel_rfl) (fun _ _ _ h => h) (by rfl) ?_ hHeld ?_
  rotate_left
  · ((intro w hSw); (try dsimp only at hSw); go_simp <;> with_reducible rfl)
  simp only [Act.put, List.setIfInBounds_toArray, List.set_cons_zero, List.set_cons_succ]
  refine take_run 5 (some 72) (v := ?_) rfl rfl (by kernel_rfl) (by kernel_rfl) (by kernel_rfl) (fun _ _ _ h => h) (by rfl) ?_ hHeld ?_
  rotate_left
  · ((intro w hSw); (try dsimp only at hSw); go_simp <;> with_reducible rfl)
  simp only [Act.put, List.setIfInBounds_toArray, List.set_cons_zero, List.set_cons_succ]
  refine take_run 6 (some 73) (v := ?_) rfl rfl (by kernel_rfl) (by kernel_rfl) (by kernel_rfl) (fun _ _ _ h => h) (by rfl) ?_ hHeld ?_
  rotate_left
  · ((intro w hSw); (try dsimp only at hSw); go_simp <;> with_reducible rfl)
  simp only [Act.put, List.setIfInBounds_toArray, List.set_cons_zero, List.set_cons_succ]
  refine take_run 7 (some 74) (v := ?_) rfl rfl (by kernel_rfl) (by kernel_rfl) (by kernel_rfl) (fun _ _ _ h => h) (by rfl) ?_ hHeld ?_
  rotate_left
  · ((intro w hSw); (try dsimp only at hSw); go_simp <;> with_reducible rfl)
  simp only [Act.put, List.setIfInBounds_toArray, List.set_cons_zero, List.set_cons_succ]
  refine take_run 8 (some 75) (v := ?_) rfl rfl (by kernel_rfl) (by kernel_rfl) (by kernel_rfl) (fun _ _ _ h => h) (by rfl) ?_ hHeld ?_
  rotate_left
  · ((intro w hSw); (try dsimp only at hSw); go_simp <;> with_reducible rfl)
  simp only [Act.put, List.setIfInBounds_toArray, List.set_cons_zero, List.set_cons_succ]
  refine take_run 9 (some 76) (v := ?_) rfl rfl (by kernel_rfl) (by kernel_rfl) (by kernel_rfl) (fun _ _ _ h => h) (by rfl) ?_ hHeld ?_
  rotate_left
  · ((intro w hSw); (try dsimp only at hSw); go_simp <;> with_reducible rfl)
  simp only [Act.put, List.setIfInBounds_toArray, List.set_cons_zero, List.set_cons_succ]
  refine take_run 10 (some 77) (v := ?_) rfl rfl (by kernel_rfl) (by kernel_rfl) (by kernel_rfl) (fun _ _ _ h => h) (by rfl) ?_ hHeld ?_
  rotate_left
  · ((intro w hSw); (try dsimp only at hSw); go_simp <;> with_reducible rfl)
  simp only [Act.put, List.setIfInBounds_toArray, List.set_cons_zero, List.set_cons_succ]
  refine take_run 11 (some 78) (v := ?_) rfl rfl (by kernel_rfl) (by kernel_rfl) (by kernel_rfl) (fun _ _ _ h => h) (by rfl) ?_ hHeld ?_
  rotate_left
  · ((intro w hSw); (try dsimp only at hSw); go_simp <;> with_reducible rfl)
  simp only [Act.put, List.setIfInBounds_toArray, List.set_cons_zero, List.set_cons_succ]
  refine take_run 12 (some 79) (v := ?_) rfl rfl (by kernel_rfl) (by kernel_rfl) (by kernel_rfl) (fun _ _ _ h => h) (by rfl) ?_ hHeld ?_
  rotate_left
  · ((intro w hSw); (try dsimp only at hSw); go_simp <;> with_reducible rfl)
  simp only [Act.put, List.setIfInBounds_toArray, List.set_cons_zero, List.set_cons_succ]
  refine take_run 13 (some 80) (v := ?_) rfl rfl (by kernel_rfl) (by kernel_rfl) (by kernel_rfl) (fun _ _ _ h => h) (by rfl) ?_ hHeld ?_
  rotate_left
  · ((intro w hSw); (try dsimp only at hSw); go_simp <;> with_reducible rfl)
  simp only [Act.put, List.setIfInBounds_toArray, List.set_cons_zero, List.set_cons_succ]
  refine take_run 15 (some 82) (v := ?_) rfl rfl (by kernel_rfl) (by kernel_rfl) (by kernel_rfl) (fun _ _ _ h => h) (by rfl) ?_ hHeld ?_
  rotate_left
  · ((intro w hSw); (try dsimp only at hSw); go_simp <;> with_reducible rfl)
  simp only [Act.put, List.setIfInBounds_toArray, List.set_cons_zero, List.set_cons_succ]
  refine take_one 14 (by kernel_rfl) rfl (fun K hK => ?_)
  go_simp
  ((have CT := implChainStable_any A5 cap5 us5 _ (by rw [HUL.out]; exact hpl) SM5.out (C5.on hHeld.2); rw [HUL.out, HST5.out] at CT; refine CT.mono ?_; clear CT; rintro e wt4 ⟨A4', cap4, rfl, hR4, hb⟩))
  try go_wp2_with fail
  refine hK.out _ _ (by exact ⟨⟨(B3.on (hHeld.2.trans (hb.mono hHeld.2.size))).at 0, (B5.on (hHeld.2.trans (hb.mono hHeld.2.size))).at 0, (B8.on (hHeld.2.trans (hb.mono hHeld.2.size))).at 0⟩, hHeld.2.trans (hb.mono hHeld.2.size)⟩) (fun hHeld => ?_)
  clear hK K
  refine take_one 16 (by kernel_rfl) rfl (fun K hK => ?_)
  go_simp
  ((refine (implChainStable_any A1 c1 ns _ hnn SM.out (CN.on hHeld.2)).mono ?_; rintro e wt6 ⟨A6, cap6, rfl, hR6, hb⟩; have HR4 := hR4.on hb))
  try go_wp2_with fail
  refine hK.out _ _ (by exact ⟨⟨(B3.on (hHeld.2.trans (hb.mono hHeld.2.size))).at 0, (B5.on (hHeld.2.trans (hb.mono hHeld.2.size))).at 0, (B8.on (hHeld.2.trans (hb.mono hHeld.2.size))).at 0⟩, hHeld.2.trans (hb.mono hHeld.2.size)⟩) (fun hHeld => ?_)
  clear hK K
  refine take_one 17 (by kernel_rfl) rfl (fun K hK => ?_)
  go_simp
  ((refine (cfPast_any A4' A6 cap4 cap6 (stableR ns) (stableR ns) _ (by have := stableR_len ns; omega) (by have := stableR_len ns; omega) HR4.tg hR6.tg).mono ?_; rintro e wt9 ⟨rfl, hb⟩; rw [decide_eq_true rfl]))
  try go_wp2_with fail
  refine hK.out _ _ (by exact ⟨⟨(B3.on (hHeld.2.trans (hb.mono hHeld.2.size))).at 0, (B5.on (hHeld.2.trans (hb.mono hHeld.2.size))).at 0, (B8.on (hHeld.2.trans (hb.mono hHeld.2.size))).at 0⟩, hHeld.2.trans (hb.mono hHeld.2.size)⟩) (fun hHeld => ?_)
  clear hK K
  refine take_run 18 (some 85) (v := ?_) rfl rfl (by kernel_rfl) (by kernel_rfl) (by kernel_rfl) (fun _ _ _ h => h) (by rfl) ?_ hHeld ?_
  rotate_left
  · ((intro w hSw); (try dsimp only at hSw); go_simp <;> with_reducible rfl)
  simp only [Act.put, List.setIfInBounds_toArray, List.set_cons_zero, List.set_cons_succ]
  refine take_run 19 (some 86) (v := ?_) rfl rfl (by kernel_rfl) (by kernel_rfl) (by kernel_rfl) (fun _ _ _ h => h) (by rfl) ?_ hHeld ?_
  rotate_left
  · ((intro w hSw); (try dsimp only at hSw); go_simp <;> with_reducible rfl)
  simp only [Act.put, List.setIfInBounds_toArray, List.set_cons_zero, List.set_cons_succ]
  refine take_run 20 (some 87) (v := ?_) rfl rfl (by kernel_rfl) (by kernel_rfl) (by kernel_rfl) (fun _ _ _ h => h) (by rfl) ?_ hHeld ?_
  rotate_left
  · ((intro w hSw); (try dsimp only at hSw); go_simp <;> with_reducible rfl)
  simp only [Act.put, List.setIfInBounds_toArray, List.set_cons_zero, List.set_cons_succ]
  refine take_run 21 (some 88) (v := ?_) rfl rfl (by kernel_rfl) (by kernel_rfl) (by kernel_rfl) (fun _ _ _ h => h) (by rfl) ?_ hHeld ?_
  rotate_left
  · ((intro w hSw); (try dsimp only at hSw); go_simp <;> with_reducible rfl)
  simp only [Act.put, List.setIfInBounds_toArray, List.set_cons_zero, List.set_cons_succ]
  refine take_run 22 (some 89) (v := ?_) rfl rfl (by kernel_rfl) (by kernel_rfl) (by kernel_rfl) (fun _ _ _ h => h) (by rfl) ?_ hHeld ?_
  rotate_left
  · ((intro w hSw); (try dsimp only at hSw); go_simp <;> with_reducible rfl)
  simp only [Act.put, List.setIfInBounds_toArray, List.set_cons_zero, List.set_cons_succ]
  refine take_run 23 (some 90) (v := ?_) rfl rfl (by kernel_rfl) (by kernel_rfl) (by kernel_rfl) (fun _ _ _ h => h) (by rfl) ?_ hHeld ?_
  rotate_left
  · ((intro w hSw); (try dsimp only at hSw); go_simp <;> with_reducible rfl)
  simp only [Act.put, List.setIfInBounds_toArray, List.set_cons_zero, List.set_cons_succ]
  refine take_run 24 (some 91) (v := ?_) rfl rfl (by kernel_rfl) (by kernel_rfl) (by kernel_rfl) (fun _ _ _ h => h) (by rfl) ?_ hHeld ?_
  rotate_left
  · ((intro w hSw); (try dsimp only at hSw); go_simp <;> with_reducible rfl)
  simp only [Act.put, List.setIfInBounds_toArray, List.set_cons_zero, List.set_cons_succ]
  refine take_one 25 (by kernel_rfl) rfl (fun K hK => ?_)
  go_simp
  ((refine (cfChain_nl (rs := ns) SL.out hnn HN8.out (nl_same ns) (C8.on hHeld.2) (CN.on hHeld.2)).mono ?_; rintro e wt8 ⟨rfl, hb⟩))
  try go_wp2_with fail
  refine hK.out _ _ (by exact ⟨⟨(B3.on (hHeld.2.trans (hb.mono hHeld.2.size))).at 0, (B5.on (hHeld.2.trans (hb.mono hHeld.2.size))).at 0, (B8.on (hHeld.2.trans (hb.mono hHeld.2.size))).at 0⟩, hHeld.2.trans (hb.mono hHeld.2.size)⟩) (fun hHeld => ?_)
  clear hK K
  refine take_run 26 (some 93) (v := ?_) rfl rfl (by kernel_rfl) (by kernel_rfl) (by kernel_rfl) (fun _ _ _ h => h) (by rfl) ?_ hHeld ?_
  rotate_left
  · ((intro w hSw); (try dsimp only at hSw); go_simp <;> with_reducible rfl)
  simp only [Act.put, List.setIfInBounds_toArray, List.set_cons_zero, List.set_cons_succ]
  refine take_run 27 (some 2) (v := ?_) rfl rfl (by kernel_rfl) (by kernel_rfl) (by kernel_rfl) (fun _ _ _ h => h) (by rfl) ?_ hHeld ?_
  rotate_left
  · ((intro w hSw); (try dsimp only at hSw); go_simp <;> with_reducible rfl)
  simp only [Act.put, List.setIfInBounds_toArray, List.set_cons_zero, List.set_cons_succ]
  refine wpAnyH_done (by kernel_rfl) ?_ _
  refine NoPanic.normal ?_
  have L9 := L0.trans (hHeld.2.mono L0.size)
  clear hHeld
  go_wp2
  go_ret
  exact ⟨rfl, L9⟩

set_option maxRecDepth 100000 in
theorem lifted (os : Os) (started : os.Started) (H : Type) (enc : TypeId × Value → H) :
    ReturnsInHanded {} Tryz.checked os 4 .any (Rows.fnChainJoinSpec.pre6 enc Tryz.prog Tryz.f4 Rows.fnChainJoinRow.domain false) (Rows.fnChainJoinSpec.post enc Tryz.prog Tryz.f4 false true false false) := by
  refine returnsInHanded_of_change (C := Tryz.checked) own started (by kernel_rfl) Tryz.func4
    (ChangeSpec.witness6 (enc := enc) (C := Tryz.checked) false ⟨#[], #[.slice none 0 0], []⟩ 8 (by kernel_rfl) (by kernel_rfl) (by kernel_rfl) (by kernel_rfl)) ?_
  intro W base args ds gs before hval0 hW hcnd _
  have hval : ∀ (j : Nat) t v, Tryz.f4.params[j]? = some t → args[j]? = some v → Value.okWide Tryz.prog W .any base t v := hval0
  have hW' := hW
  obtain ⟨p, q, hA0, hV, rfl, hfz, hnd⟩ := hW
  have hA : DataW.TrodAll enc Tryz.prog W 0 (fun _ => true) true Tryz.f4.params.toList args.toList ds p := hA0
  rw [Tryz.params4] at hA hval
  have hK := hA
  obtain ⟨v0, vs0, d0, ds0, p0, q0, hargs, rfl, rfl, h0, r0⟩ := trodAll_cons hA
  obtain ⟨rfl, rfl, rfl⟩ := trodAll_nil r0
  obtain rfl : args = #[v0] := by cases args; simp_all
  obtain ⟨rfl, rfl⟩ := trodVars_none hV
  obtain ⟨a0, len0, cap0, rfl, b0⟩ := read_bytes (hval 0 22 v0 rfl rfl) h0
  clear hA0 hval0
  refine (walk a0 len0 cap0 W b0).mono fun e W' ⟨he, hb⟩ => ?_
  subst he
  have hK' := stay_all hb (by intro t ht; simp only [List.mem_cons, List.not_mem_nil, or_false] at ht; rcases ht with rfl <;> exact ⟨by kernel_rfl, of_decide_eq_true (by kernel_rfl)⟩) hK
  exact ⟨_, rfl, _, _, _, [], _, [], hW', trodAll_mk1 (shut_bool Tryz.underlying4 _), hK', rfl, hb.frame _, fun h => by cases h⟩

theorem over : Rows.fnChainJoinRow.holds Tryz.pinned (OpenSpec.ofChange Rows.fnChainJoinSpec) :=
  OpenClaim.holds_of_wide 4 Tryz.f4 rfl rfl rfl rfl rfl rfl rfl ⟨rfl, rfl, rfl, rfl, rfl⟩ rfl rfl rfl rfl rfl (by kernel_rfl) Tryz.func4
    (by refine joined_of ?_; kernel_rfl) (of_decide_eq_true (by kernel_rfl)) (by unfold Func.isWrapper; first | (rw [if_pos (by decide +kernel)]; kernel_rfl) | (rw [if_neg (by decide +kernel)]; exact ⟨rfl, rfl⟩))
    (fun os started H enc _ => lifted os started H enc)
end Go.Proofs.YtjnloillcgeodaaGreat.FnChainJoin
namespace Go.Proofs.YtjnloillcgeodaaGreat
/-- The statement itself. -/
theorem fnChainJoin_holds : Rows.FnChainJoinSaid := FnChainJoin.over
#print axioms fnChainJoin_holds
end Go.Proofs.YtjnloillcgeodaaGreat
namespace Go.Proofs.YtjnloillcgeodaaGreat.FnChainJoin
end Go.Proofs.YtjnloillcgeodaaGreat.FnChainJoin
