/- The law FnChainPass (promise 14) holds: of a drawn chain and a drawn number the program's ChainPass answers as the model's; of a chain that is ok, and a node that can pass something on, one less waits there, the next one has it, what all nodes have is no less, and the head has what it had. No condition. -/
import Derived.Test.YtjnloillcgeodaaJVerOk0
import Derived.Test.YtjnloillcgeodaaJCfStores
import Derived.Test.YtjnloillcgeodaaJFnChainKit
import Derived.Test.YtjnloillcgeodaaJChainPass5
import Derived.Test.YtjnloillcgeodaaJLift0
namespace Go.Proofs.Ytjnloillcgeodaa.FnChainPass
open Go.ChangeShapes Go.WideShapes Go.ChangeAt Go.RowKit Go.Joins
attribute [local go_sem ↓] Go.wp_at_zero Go.wp_at_succ

set_option maxRecDepth 100000 in
set_option maxHeartbeats 8000000 in
theorem walk (a : Option Addr) (len cap : Nat) (w : World) (hc : Code0 w a len cap) :
    Calls Try.prog 4 #[.slice a len cap] w fun e w' => e = .returned (.bool true) ∧ Below w.heap.size w w' := by
  by_cases h1 : 1048576 < len
  · have h1' : (1048576 : Int) < (len : Int) := by omega
    go_enter Try.func4, Try.ntmps4
    go_wp2
    go_ret
    exact ⟨rfl, Below.refl _ _⟩
  have h1' : (len : Int) ≤ 1048576 := by omega
  go_enter Try.func4, Try.ntmps4
  go_wp2_with fail
  refine (drawChainPass_any w a len cap hc (by omega)).mono ?_
  rintro e w1 ⟨A1, c1, ns, k, rfl, hf, hC1, hb1⟩
  have hnn : ns.length ≤ 1048576 := by have := hf.1; omega
  have SM := hide (fewN_sm hf)
  have SL := hide (fewN_small hf)
  have LA := below_alloc1 w1 (.cells #[.slice A1 ns.length c1] 25)
  have B3 := Blk.made w1 25 #[.slice A1 ns.length c1]
  have CN := hC1.on LA
  have L0 := hb1.trans (LA.mono hb1.size)
  have k3 := B3.one.1
  clear hC1 LA hb1 hc hf
  go_wp2_with fail
  generalize w1.alloc (.cells #[.slice A1 ns.length c1] 25) = W1 at B3 CN L0 k3 ⊢
  generalize w1.heap.size = p3 at *
  with_reducible refine (implChainPass_any A1 c1 ns k W1 hnn SM.out CN).mono ?_
  rintro e w2 ⟨A5, cap5, us5, rfl, hn5, R5, hb2⟩
  have HN5 := hide hn5
  have LB := hb2.trans ((below_alloc1 w2 (.cells #[.slice A5 (passN ns k).length cap5] 25)).mono hb2.size)
  replace B3 := B3.on LB
  have B5 := Blk.made w2 25 #[.slice A5 (passN ns k).length cap5]
  replace CN := CN.on LB
  have C5 := R5.cg.on (below_alloc1 w2 (.cells #[.slice A5 (passN ns k).length cap5] 25))
  replace L0 := L0.trans (LB.mono L0.size)
  clear hn5 R5 hb2
  replace k3 := B3.one.1
  go_wp2_with fail
  generalize w2.alloc (.cells #[.slice A5 (passN ns k).length cap5] 25) = W2 at B3 B5 CN C5 L0 k3 LB ⊢
  generalize w2.heap.size = p5 at *
  with_reducible refine (specChainPass_any A1 c1 ns k W2 hnn SM.out CN).mono ?_
  rintro e w3 ⟨A7, cap7, us7, rfl, hn7, R7, hb3⟩
  have HN7 := hide hn7
  have LD := hb3.trans ((below_alloc1 w3 (.cells #[.slice A7 (passN ns k).length cap7] 25)).mono hb3.size)
  replace B3 := B3.on LD
  replace B5 := B5.on LD
  have B7 := Blk.made w3 25 #[.slice A7 (passN ns k).length cap7]
  replace CN := CN.on LD
  replace C5 := C5.on LD
  have C7 := R7.cg.on (below_alloc1 w3 (.cells #[.slice A7 (passN ns k).length cap7] 25))
  replace L0 := L0.trans (LD.mono L0.size)
  have k5 := B5.one.1
  clear hn7 R7 hb3 LB k3
  go_wp2_with fail
  clear k5
  generalize w3.alloc (.cells #[.slice A7 (passN ns k).length cap7] 25) = W at B3 B5 B7 CN C5 C7 L0 ⊢
  generalize w3.heap.size = p7 at *
  clear LD
  have PF := hide (passN_fine ns k)
  have hpl : (passN ns k).length ≤ 1048576 := by have := PF.out.1; omega
  cases ho : chainB ns
  · have HE := passN_no (k := k) ho
    rw [HE.1] at HN5 HN7 B5 B7 PF hpl
    simp only [HE.1, HE.2]
    have HP := hide ho
    clear ho HE
    have k5 := B5.one.1
    have k7 := B7.one.1
    with_reducible refine (cfChain_nl (rs := []) PF.out.small hpl HN5.out HN7.out C5 C7).mono ?_
    rintro e w4 ⟨rfl, hb4⟩
    have k3 := (B3.on hb4).one.1
    have HB4 := hide hb4
    clear hb4 k5 k7
    go_wp2_with fail
    with_reducible refine (implChainOk_any A1 c1 ns w4 hnn SM.out (CN.on HB4.out)).mono ?_
    rintro e w5 ⟨rfl, hb5⟩
    rw [HP.out]
    have LX := HB4.out.trans (hb5.mono HB4.out.size)
    have k5 := (B5.on LX).one.1
    have k7 := (B7.on LX).one.1
    clear hb5 HB4 k3
    go_wp2_with fail
    refine (cfChain_nl (rs := []) PF.out.small hpl HN5.out HN7.out (C5.on LX) (C7.on LX)).mono ?_
    rintro e w6 ⟨rfl, hb6⟩
    have L9 := L0.trans ((LX.trans (hb6.mono LX.size)).mono L0.size)
    clear hb6 LX k5 k7
    go_wp2
    go_ret
    exact ⟨rfl, L9⟩
  have HP := hide ho
  by_cases hcan : ¬ (0 ≤ k ∧ canB ns k.toNat = true)
  · have HE := passN_not ho hcan
    rw [HE.1] at HN5 HN7 B5 B7 PF hpl
    simp only [HE.1, HE.2]
    clear ho HE
    have k5 := B5.one.1
    have k7 := B7.one.1
    with_reducible refine (cfChain_nl (rs := ns) PF.out.small hpl HN5.out HN7.out C5 C7).mono ?_
    rintro e w4 ⟨rfl, hb4⟩
    have k3 := (B3.on hb4).one.1
    have HB4 := hide hb4
    clear hb4 k5 k7
    go_wp2_with fail
    with_reducible refine (implChainOk_any A1 c1 ns w4 hnn SM.out (CN.on HB4.out)).mono ?_
    rintro e w5 ⟨rfl, hb5⟩
    rw [HP.out]
    have LX := HB4.out.trans (hb5.mono HB4.out.size)
    have k3 := (B3.on LX).one.1
    have k5 := (B5.on LX).one.1
    clear hb5 HB4
    go_wp2_with fail
    with_reducible refine (cfChain_nl (rs := ns) SL.out hnn HN5.out (nl_same ns) (C5.on LX) (CN.on LX)).mono ?_
    rintro e w6 ⟨rfl, hb6⟩
    have L9 := L0.trans ((LX.trans (hb6.mono LX.size)).mono L0.size)
    clear hb6 LX k5 k3
    go_wp2
    go_ret
    exact ⟨rfl, L9⟩
  have hcan : 0 ≤ k ∧ canB ns k.toNat = true := Classical.byContradiction hcan
  obtain ⟨kn, rfl⟩ : ∃ kn : Nat, k = (kn : Int) := ⟨k.toNat, by omega⟩
  rw [Int.toNat_natCast] at hcan
  have HE := passN_yes ho hcan.1 (by rw [Int.toNat_natCast]; exact hcan.2)
  rw [Int.toNat_natCast] at HE
  have hlen : (goN ns kn).length = ns.length := goN_size ns kn
  have HCA := hide (chain_go ho hcan.2)
  have HST := hide (stable_go ho hcan.2)
  obtain ⟨n, m, v, r, hn, hm, hw, hr⟩ := can_parts hcan.2
  obtain ⟨⟨hl1, hl4⟩, hnode, -⟩ := chainB_parts ho
  have HVV : Hid (verV v = true) := (nodeB_parts (hnode kn n hn)).2.2 v (by rw [hw]; exact List.mem_cons_self ..)
  have HSM : Hid (storeB m.ss = true) := (nodeB_parts (hnode _ m hm)).1
  have hgo := goN_is hn hm hw
  rw [HE.1] at HN5 HN7 B5 B7 PF hpl
  rw [hlen] at B5 B7
  simp only [HE.1, HE.2, hlen]
  obtain ⟨nh, hnh⟩ : ∃ nh, ns[0]? = some nh := ⟨_, List.getElem?_eq_getElem (by omega)⟩
  obtain ⟨nh5, hnh5, hnhs⟩ := goN_head (k := kn) hnh
  obtain ⟨x5, hx5, hxl⟩ := nl_at (nl_symm HN5.out) hnh5
  have hmlt := (List.getElem?_eq_some_iff.1 hm).1
  have g5 : (goN ns kn)[kn]? = some (tailNd n) := by rw [hgo, List.getElem?_set_ne (by omega), List.getElem?_set_self (by omega)]
  have g5' : (goN ns kn)[kn + 1]? = some (addNd m (decide (kn + 1 + 1 = ns.length)) v) := by rw [hgo, List.getElem?_set_self (by rw [List.length_set]; exact hmlt)]
  obtain ⟨n5, hn5, hnl5⟩ := nl_at (nl_symm HN5.out) g5
  obtain ⟨m5, hm5, hml5⟩ := nl_at (nl_symm HN5.out) g5'
  obtain ⟨G1, cur1, rfl, hg1⟩ := cgA_at CN hl1
  have hul : us5.length = ns.length := by rw [HN5.out.1, hlen]
  obtain ⟨G5, cur5, rfl, hg5⟩ := cgA_at C5 (by omega)
  have CG1 := hide hg1
  have CG5 := hide hg5
  have HLN := hide hlen
  have HUL := hide hul
  -- sizes
  obtain ⟨wl, hwl⟩ : ∃ wl, wl = n.ws.length := ⟨_, rfl⟩
  have hwr : wl = r.length + 1 := by rw [hwl, hw]; rfl
  have hn5w : n5.ws.length = r.length := by rw [← hnl5.2.2.1]; unfold tailNd; rw [hw]; rfl
  have hss : LL m5.ss (addR m.ss v) := by
    rw [addR_is HSM.out HVV.out, ← addNd_ss (b := decide (kn + 1 + 1 = ns.length))]
    exact ll_symm ⟨hml5.1, hml5.2.1⟩
  have har : (addR m.ss v).length = m.ss.length := by rw [addR_is HSM.out HVV.out, keepL_len]
  have hxs : LL x5.ss nh.ss := by rw [← hnhs]; exact ll_symm ⟨hxl.1, hxl.2.1⟩
  have hnlw := (SM.out kn n hn).1.2
  have hnlm : m.ss.length ≤ 1048576 := len_ss SM.out hm
  have hnlh : nh.ss.length ≤ 1048576 := len_ss SM.out hnh
  have SMM := hide (small_ss SM.out hm)
  have hv4' : v.ts.length ≤ 1048576 := ((SM.out kn n hn).2.2 v (by rw [hw]; exact List.mem_cons_self ..)).1
  have hs' : v.s.size ≤ 9223372036854775807 := ((SM.out kn n hn).2.2 v (by rw [hw]; exact List.mem_cons_self ..)).2
  have SM5 := hide (fine_sm (PF.out.like HN5.out))
  have HTM5 := hide (ts_ss SM5.out hm5)
  have HTX5 := hide (ts_ss SM5.out hx5)
  have HOK : Hid (chainB us5 = true) := by unfold Hid; rw [chainB_like HN5.out]; exact HCA.out
  have HST5 : Hid (pwB (stableR ns) (stableR us5) = true) := by unfold Hid; rw [stableR_like HN5.out]; exact HST.out
  -- cells
  have Q1n := hide (CG1.out.at' kn n hn)
  have Q1m := hide (CG1.out.at' (kn + 1) m hm)
  have Q1h := hide (CG1.out.at' 0 nh hnh)
  have Q5n := hide (CG5.out.at' kn n5 hn5)
  have Q5m := hide (CG5.out.at' (kn + 1) m5 hm5)
  have Q5h := hide (CG5.out.at' 0 x5 hx5)
  have V1m := hide (CG1.out.store _ m hm)
  have V5m := hide (CG5.out.store _ m5 hm5)
  have V1h := hide (CG1.out.store _ nh hnh)
  have V5h := hide (CG5.out.store _ x5 hx5)
  have V1w := CG1.out.wait _ n hn
  obtain ⟨bw, ow, hwa, hbw, hxw⟩ : ∃ b off : Nat, n.wa = some ⟨b, off, none⟩ ∧ b < W.heap.size ∧ (Six W b off v ∧ Tg W W.heap.size v.a v.ts) := by
    rcases V1w with h0 | ⟨b, off, h1, h2, h3⟩
    · rw [hw] at h0; cases h0
    · exact ⟨b, off, h1, h2, by simpa using h3 0 v (by rw [hw]; rfl)⟩
  have HBW := hide hbw
  have W6 := hide hxw.1
  have WT := hide hxw.2
  have C1n : Hid (cur1[kn * 2 + 1]? = some (.slice (some ⟨bw, ow, none⟩) wl n.wc)) := by rw [← hwa, hwl]; exact Q1n.out.2
  have C5n : Hid (cur5[kn * 2 + 1]? = some (.slice n5.wa r.length n5.wc)) := by rw [← hn5w]; exact Q5n.out.2
  have HSS := hide hss
  have HAR := hide har
  have HU5 := hide (hss.1.trans har)
  have HXS := hide hxs
  obtain ⟨km, hkm⟩ : ∃ km, km = kn + 1 := ⟨_, rfl⟩
  have C1m : Hid (cur1[km * 2]? = some (.slice m.sa m.ss.length m.sc)) := by rw [hkm]; exact Q1m.out.1
  have C5m : Hid (cur5[km * 2]? = some (.slice m5.sa m.ss.length m5.sc)) := by rw [hkm, ← hss.1.trans har]; exact Q5m.out.1
  have C1h : Hid (cur1[0]? = some (.slice nh.sa nh.ss.length nh.sc)) := Q1h.out.1
  have C5h : Hid (cur5[0]? = some (.slice x5.sa nh.ss.length x5.sc)) := by rw [← hxs.1]; exact Q5h.out.1
  have jw1 : IntKind.i64.wrap ((kn : Int) + 1) = (km : Int) := by rw [IntKind.wrap_i64]; omega
  have jw2 : IntKind.i64.wrap ((wl : Int) - 1) = (r.length : Int) := by rw [IntKind.wrap_i64]; omega
  have HB1 := hide (CG1.out.blk)
  have HB5 := hide (CG5.out.blk)
  have i1 : (0 : Int) ≤ (kn : Int) := by omega
  have i2 : (kn : Int) < (ns.length : Int) := by omega
  have i3 : (0 : Int) ≤ (km : Int) := by omega
  have i4 : (km : Int) < (ns.length : Int) := by omega
  have i5 : 0 < ns.length := by omega
  have i6 : 0 < wl := by omega
  have HKM := hide hkm
  have HWR := hide hwr
  clear hkm hwr hwl hwa hbw hxw V1w hw hn hm hr hnode hcan HE hlen hgo hnh hnh5 hnhs hx5 hxl g5 g5' hn5 hnl5 hm5 hml5 hg1 hg5 hn5w hss hxs Q1n Q1m Q1h Q5n Q5m Q5h hmlt hul ho har
  have k5 := B5.one.1
  have k7 := B7.one.1
  have CT := hide (cfChain_nl (A := some ⟨G5, 0, none⟩) (A' := A7) (c := cap5) (c' := cap7) (rs := goN ns kn) PF.out.small hpl HN5.out HN7.out C5 C7)
  unfold Hid at CT
  rw [HLN.out] at CT
  with_reducible refine CT.mono ?_
  clear CT
  rintro e w4 ⟨rfl, hb4⟩
  have k3 := (B3.on hb4).one.1
  have HB4 := hide hb4
  clear hb4 k5 k7
  go_wp2_with fail
  with_reducible refine (implChainOk_any (some ⟨G1, 0, none⟩) c1 ns w4 hnn SM.out (CN.on HB4.out)).mono ?_
  rintro e w5 ⟨rfl, hb5⟩
  rw [HP.out]
  have LX := HB4.out.trans (hb5.mono HB4.out.size)
  clear hb5 HB4 k3
  go_wp2_with fail
  have hbw2 : bw < W.heap.size := HBW.out
  refine wp_region_noPanic ?_
  refine wp_region_held_drew (S := (fun w' => (w'.cell? ⟨p3, 0, none⟩ = some (.slice (some ⟨G1, 0, none⟩) ns.length c1) ∧ w'.cell? ⟨p5, 0, none⟩ = some (.slice (some ⟨G5, 0, none⟩) ns.length cap5) ∧ w'.cell? ⟨G5, kn * 2 + 1, none⟩ = some (.slice n5.wa r.length n5.wc) ∧ w'.cell? ⟨G1, kn * 2 + 1, none⟩ = some (.slice (some ⟨bw, ow, none⟩) wl n.wc) ∧ w'.cell? ⟨G5, km * 2, none⟩ = some (.slice m5.sa m.ss.length m5.sc) ∧ w'.cell? ⟨G1, km * 2, none⟩ = some (.slice m.sa m.ss.length m.sc) ∧ w'.cell? ⟨G5, 0, none⟩ = some (.slice x5.sa nh.ss.length x5.sc) ∧ w'.cell? ⟨G1, 0, none⟩ = some (.slice nh.sa nh.ss.length nh.sc) ∧ Six w' bw ow v) ∧ Below W.heap.size W w')) (by kernel_rfl) (by exact ⟨⟨(B3.on ((LX).drew)).at 0, (B5.on ((LX).drew)).at 0, ((HB5.out.on ((LX).drew)).at _).trans C5n.out, ((HB1.out.on ((LX).drew)).at _).trans C1n.out, ((HB5.out.on ((LX).drew)).at _).trans C5m.out, ((HB1.out.on ((LX).drew)).at _).trans C1m.out, ((HB5.out.on ((LX).drew)).at _).trans C5h.out, ((HB1.out.on ((LX).drew)).at _).trans C1h.out, (W6.out.keep hbw2 fun _ hp => ((LX).drew).cell hp)⟩, (LX).drew⟩) (fun hHeld => ?_)
  refine take_run 0 (some 56) (v := ?_) rfl rfl (by kernel_rfl) (by kernel_rfl) (by kernel_rfl) (fun _ _ _ h => h) (by rfl) ?_ hHeld ?_
  rotate_left
  · ((intro w hSw); (try dsimp only at hSw); go_simp <;> with_reducible rfl)
  simp only [Act.put, List.setIfInBounds_toArray, List.set_cons_zero, List.set_cons_succ]
  refine take_one 1 (by kernel_rfl) rfl (fun K hK => ?_)
  go_simp
  ((have CT := implChainOk_any (some ⟨G5, 0, none⟩) cap5 us5 _ (by have := HUL.out; omega) SM5.out (C5.on hHeld.2); rw [HUL.out, HOK.out] at CT; refine CT.mono ?_; clear CT; rintro e wb1 ⟨rfl, hb⟩))
  try go_wp2_with fail
  refine hK.out _ _ (by exact ⟨⟨(B3.on (hHeld.2.trans (hb.mono hHeld.2.size))).at 0, (B5.on (hHeld.2.trans (hb.mono hHeld.2.size))).at 0, ((HB5.out.on (hHeld.2.trans (hb.mono hHeld.2.size))).at _).trans C5n.out, ((HB1.out.on (hHeld.2.trans (hb.mono hHeld.2.size))).at _).trans C1n.out, ((HB5.out.on (hHeld.2.trans (hb.mono hHeld.2.size))).at _).trans C5m.out, ((HB1.out.on (hHeld.2.trans (hb.mono hHeld.2.size))).at _).trans C1m.out, ((HB5.out.on (hHeld.2.trans (hb.mono hHeld.2.size))).at _).trans C5h.out, ((HB1.out.on (hHeld.2.trans (hb.mono hHeld.2.size))).at _).trans C1h.out, (W6.out.keep hbw2 fun _ hp => (hHeld.2.trans (hb.mono hHeld.2.size)).cell hp)⟩, hHeld.2.trans (hb.mono hHeld.2.size)⟩) (fun hHeld => ?_)
  clear hK K
  refine take_run 2 (some 58) (v := ?_) rfl rfl (by kernel_rfl) (by kernel_rfl) (by kernel_rfl) (fun _ _ _ h => h) (by rfl) ?_ hHeld ?_
  rotate_left
  · ((intro w hSw); (try dsimp only at hSw); go_simp <;> with_reducible rfl)
  simp only [Act.put, List.setIfInBounds_toArray, List.set_cons_zero, List.set_cons_succ]
  refine take_run 3 (some 59) (v := ?_) rfl rfl (by kernel_rfl) (by kernel_rfl) (by kernel_rfl) (fun _ _ _ h => h) (by rfl) ?_ hHeld ?_
  rotate_left
  · ((intro w hSw); (try dsimp only at hSw); go_simp <;> with_reducible rfl)
  simp only [Act.put, List.setIfInBounds_toArray, List.set_cons_zero, List.set_cons_succ]
  refine take_run 4 (some 60) (v := ?_) rfl rfl (by kernel_rfl) (by kernel_rfl) (by kernel_rfl) (fun _ _ _ h => h) (by rfl) ?_ hHeld ?_
  rotate_left
  · ((intro w hSw); (try dsimp only at hSw); go_simp <;> with_reducible rfl)
  simp only [Act.put, List.setIfInBounds_toArray, List.set_cons_zero, List.set_cons_succ]
  refine take_run 5 (some 61) (v := ?_) rfl rfl (by kernel_rfl) (by kernel_rfl) (by kernel_rfl) (fun _ _ _ h => h) (by rfl) ?_ hHeld ?_
  rotate_left
  · ((intro w hSw); (try dsimp only at hSw); go_simp <;> with_reducible rfl)
  simp only [Act.put, List.setIfInBounds_toArray, List.set_cons_zero, List.set_cons_succ]
  refine take_run 6 (some 62) (v := ?_) rfl rfl (by kernel_rfl) (by kernel_rfl) (by kernel_rfl) (fun _ _ _ h => h) (by rfl) ?_ hHeld ?_
  rotate_left
  · ((intro w hSw); (try dsimp only at hSw); go_simp <;> with_reducible rfl)
  simp only [Act.put, List.setIfInBounds_toArray, List.set_cons_zero, List.set_cons_succ]
  refine take_run 7 (some 63) (v := ?_) rfl rfl (by kernel_rfl) (by kernel_rfl) (by kernel_rfl) (fun _ _ _ h => h) (by rfl) ?_ hHeld ?_
  rotate_left
  · ((intro w hSw); (try dsimp only at hSw); go_simp <;> with_reducible rfl)
  simp only [Act.put, List.setIfInBounds_toArray, List.set_cons_zero, List.set_cons_succ]
  refine take_run 8 (some 64) (v := ?_) rfl rfl (by kernel_rfl) (by kernel_rfl) (by kernel_rfl) (fun _ _ _ h => h) (by rfl) ?_ hHeld ?_
  rotate_left
  · ((intro w hSw); (try dsimp only at hSw); go_simp <;> with_reducible rfl)
  simp only [Act.put, List.setIfInBounds_toArray, List.set_cons_zero, List.set_cons_succ]
  refine take_run 9 (some 65) (v := ?_) rfl rfl (by kernel_rfl) (by kernel_rfl) (by kernel_rfl) (fun _ _ _ h => h) (by rfl) ?_ hHeld ?_
  rotate_left
  · ((intro w hSw); (try dsimp only at hSw); go_simp <;> with_reducible rfl)
  simp only [Act.put, List.setIfInBounds_toArray, List.set_cons_zero, List.set_cons_succ]
  refine take_run 10 (some 66) (v := ?_) rfl rfl (by kernel_rfl) (by kernel_rfl) (by kernel_rfl) (fun _ _ _ h => h) (by rfl) ?_ hHeld ?_
  rotate_left
  · ((intro w hSw); (try dsimp only at hSw); go_simp <;> with_reducible rfl)
  simp only [Act.put, List.setIfInBounds_toArray, List.set_cons_zero, List.set_cons_succ]
  refine take_run 11 (some 67) (v := ?_) rfl rfl (by kernel_rfl) (by kernel_rfl) (by kernel_rfl) (fun _ _ _ h => h) (by rfl) ?_ hHeld ?_
  rotate_left
  · ((intro w hSw); (try dsimp only at hSw); go_simp <;> with_reducible rfl)
  simp only [Act.put, List.setIfInBounds_toArray, List.set_cons_zero, List.set_cons_succ]
  refine take_run 12 (some 68) (v := ?_) rfl rfl (by kernel_rfl) (by kernel_rfl) (by kernel_rfl) (fun _ _ _ h => h) (by rfl) ?_ hHeld ?_
  rotate_left
  · ((intro w hSw); (try dsimp only at hSw); go_simp <;> with_reducible rfl)
  simp only [Act.put, List.setIfInBounds_toArray, List.set_cons_zero, List.set_cons_succ]
  refine take_run 13 (some 69) (v := ?_) rfl rfl (by kernel_rfl) (by kernel_rfl) (by kernel_rfl) (fun _ _ _ h => h) (by rfl) ?_ hHeld ?_
  rotate_left
  · ((intro w hSw); (try dsimp only at hSw); go_simp <;> with_reducible rfl)
  simp only [Act.put, List.setIfInBounds_toArray, List.set_cons_zero, List.set_cons_succ]
  refine take_run 14 (some 70) (v := ?_) rfl rfl (by kernel_rfl) (by kernel_rfl) (by kernel_rfl) (fun _ _ _ h => h) (by rfl) ?_ hHeld ?_
  rotate_left
  · ((intro w hSw); (try dsimp only at hSw); go_simp <;> with_reducible rfl)
  simp only [Act.put, List.setIfInBounds_toArray, List.set_cons_zero, List.set_cons_succ]
  refine take_run 15 (some 71) (v := ?_) rfl rfl (by kernel_rfl) (by kernel_rfl) (by kernel_rfl) (fun _ _ _ h => h) (by rfl) ?_ hHeld ?_
  rotate_left
  · ((intro w hSw); (try dsimp only at hSw); go_simp <;> with_reducible rfl)
  simp only [Act.put, List.setIfInBounds_toArray, List.set_cons_zero, List.set_cons_succ]
  refine take_run 16 (some 72) (v := ?_) rfl rfl (by kernel_rfl) (by kernel_rfl) (by kernel_rfl) (fun _ _ _ h => h) (by rfl) ?_ hHeld ?_
  rotate_left
  · ((intro w hSw); (try dsimp only at hSw); go_simp <;> with_reducible rfl)
  simp only [Act.put, List.setIfInBounds_toArray, List.set_cons_zero, List.set_cons_succ]
  refine take_run 17 (some 73) (v := ?_) rfl rfl (by kernel_rfl) (by kernel_rfl) (by kernel_rfl) (fun _ _ _ h => h) (by rfl) ?_ hHeld ?_
  rotate_left
  · ((intro w hSw); (try dsimp only at hSw); go_simp <;> with_reducible rfl)
  simp only [Act.put, List.setIfInBounds_toArray, List.set_cons_zero, List.set_cons_succ]
  refine take_run 18 (some 74) (v := ?_) rfl rfl (by kernel_rfl) (by kernel_rfl) (by kernel_rfl) (fun _ _ _ h => h) (by rfl) ?_ hHeld ?_
  rotate_left
  · ((intro w hSw); (try dsimp only at hSw); go_simp <;> with_reducible rfl)
  simp only [Act.put, List.setIfInBounds_toArray, List.set_cons_zero, List.set_cons_succ]
  refine take_run 19 (some 75) (v := ?_) rfl rfl (by kernel_rfl) (by kernel_rfl) (by kernel_rfl) (fun _ _ _ h => h) (by rfl) ?_ hHeld ?_
  rotate_left
  · ((intro w hSw); (try dsimp only at hSw); go_simp <;> with_reducible rfl)
  simp only [Act.put, List.setIfInBounds_toArray, List.set_cons_zero, List.set_cons_succ]
  refine take_run 20 (some 76) (v := ?_) rfl rfl (by kernel_rfl) (by kernel_rfl) (by kernel_rfl) (fun _ _ _ h => h) (by rfl) ?_ hHeld ?_
  rotate_left
  · ((intro w hSw); (try dsimp only at hSw); go_simp <;> with_reducible rfl)
  simp only [Act.put, List.setIfInBounds_toArray, List.set_cons_zero, List.set_cons_succ]
  refine take_run 21 (some 77) (v := ?_) rfl rfl (by kernel_rfl) (by kernel_rfl) (by kernel_rfl) (fun _ _ _ h => h) (by rfl) ?_ hHeld ?_
  rotate_left
  · ((intro w hSw); (try dsimp only at hSw); go_simp <;> with_reducible rfl)
  simp only [Act.put, List.setIfInBounds_toArray, List.set_cons_zero, List.set_cons_succ]
  refine take_run 22 (some 78) (v := ?_) rfl rfl (by kernel_rfl) (by kernel_rfl) (by kernel_rfl) (fun _ _ _ h => h) (by rfl) ?_ hHeld ?_
  rotate_left
  · ((intro w hSw); (try dsimp only at hSw); go_simp <;> with_reducible rfl)
  simp only [Act.put, List.setIfInBounds_toArray, List.set_cons_zero, List.set_cons_succ]
  refine take_run 23 (some 79) (v := ?_) rfl rfl (by kernel_rfl) (by kernel_rfl) (by kernel_rfl) (fun _ _ _ h => h) (by rfl) ?_ hHeld ?_
  rotate_left
  · ((intro w hSw); (try dsimp only at hSw); go_simp <;> with_reducible rfl)
  simp only [Act.put, List.setIfInBounds_toArray, List.set_cons_zero, List.set_cons_succ]
  refine take_run 24 (some 80) (v := ?_) rfl rfl (by kernel_rfl) (by kernel_rfl) (by kernel_rfl) (fun _ _ _ h => h) (by rfl) ?_ hHeld ?_
  rotate_left
  · ((intro w hSw); (try dsimp only at hSw); go_simp <;> with_reducible rfl)
  simp only [Act.put, List.setIfInBounds_toArray, List.set_cons_zero, List.set_cons_succ]
  refine take_run 25 (some 81) (v := ?_) rfl rfl (by kernel_rfl) (by kernel_rfl) (by kernel_rfl) (fun _ _ _ h => h) (by rfl) ?_ hHeld ?_
  rotate_left
  · ((intro w hSw); (try dsimp only at hSw); go_simp <;> with_reducible rfl)
  simp only [Act.put, List.setIfInBounds_toArray, List.set_cons_zero, List.set_cons_succ]
  refine take_run 26 (some 82) (v := ?_) rfl rfl (by kernel_rfl) (by kernel_rfl) (by kernel_rfl) (fun _ _ _ h => h) (by rfl) ?_ hHeld ?_
  rotate_left
  · ((intro w hSw); (try dsimp only at hSw); go_simp <;> with_reducible rfl)
  simp only [Act.put, List.setIfInBounds_toArray, List.set_cons_zero, List.set_cons_succ]
  refine take_run 27 (some 83) (v := ?_) rfl rfl (by kernel_rfl) (by kernel_rfl) (by kernel_rfl) (fun _ _ _ h => h) (by rfl) ?_ hHeld ?_
  rotate_left
  · ((intro w hSw); (try dsimp only at hSw); go_simp <;> with_reducible rfl)
  simp only [Act.put, List.setIfInBounds_toArray, List.set_cons_zero, List.set_cons_succ]
  refine take_run 28 (some 84) (v := ?_) rfl rfl (by kernel_rfl) (by kernel_rfl) (by kernel_rfl) (fun _ _ _ h => h) (by rfl) ?_ hHeld ?_
  rotate_left
  · ((intro w hSw); (try dsimp only at hSw); go_simp <;> with_reducible rfl)
  simp only [Act.put, List.setIfInBounds_toArray, List.set_cons_zero, List.set_cons_succ]
  refine take_run 29 (some 85) (v := ?_) rfl rfl (by kernel_rfl) (by kernel_rfl) (by kernel_rfl) (fun _ _ _ h => h) (by rfl) ?_ hHeld ?_
  rotate_left
  · ((intro w hSw); (try dsimp only at hSw); go_simp <;> with_reducible rfl)
  simp only [Act.put, List.setIfInBounds_toArray, List.set_cons_zero, List.set_cons_succ]
  refine take_run 30 (some 86) (v := ?_) rfl rfl (by kernel_rfl) (by kernel_rfl) (by kernel_rfl) (fun _ _ _ h => h) (by rfl) ?_ hHeld ?_
  rotate_left
  · ((intro w hSw); (try dsimp only at hSw); go_simp <;> with_reducible rfl)
  simp only [Act.put, List.setIfInBounds_toArray, List.set_cons_zero, List.set_cons_succ]
  refine take_run 31 (some 87) (v := ?_) rfl rfl (by kernel_rfl) (by kernel_rfl) (by kernel_rfl) (fun _ _ _ h => h) (by rfl) ?_ hHeld ?_
  rotate_left
  · ((intro w hSw); (try dsimp only at hSw); go_simp <;> with_reducible rfl)
  simp only [Act.put, List.setIfInBounds_toArray, List.set_cons_zero, List.set_cons_succ]
  refine take_run 32 (some 88) (v := ?_) rfl rfl (by kernel_rfl) (by kernel_rfl) (by kernel_rfl) (fun _ _ _ h => h) (by rfl) ?_ hHeld ?_
  rotate_left
  · ((intro w hSw); (try dsimp only at hSw); go_simp <;> with_reducible rfl)
  simp only [Act.put, List.setIfInBounds_toArray, List.set_cons_zero, List.set_cons_succ]
  refine take_run 33 (some 89) (v := ?_) rfl rfl (by kernel_rfl) (by kernel_rfl) (by kernel_rfl) (fun _ _ _ h => h) (by rfl) ?_ hHeld ?_
  rotate_left
  · ((intro w hSw); (try dsimp only at hSw); go_simp <;> with_reducible rfl)
  simp only [Act.put, List.setIfInBounds_toArray, List.set_cons_zero, List.set_cons_succ]
  refine take_run 34 (some 90) (v := ?_) rfl rfl (by kernel_rfl) (by kernel_rfl) (by kernel_rfl) (fun _ _ _ h => h) (by rfl) ?_ hHeld ?_
  rotate_left
  · ((intro w hSw); (try dsimp only at hSw); go_simp <;> with_reducible rfl)
  simp only [Act.put, List.setIfInBounds_toArray, List.set_cons_zero, List.set_cons_succ]
  refine take_run 35 (some 91) (v := ?_) rfl rfl (by kernel_rfl) (by kernel_rfl) (by kernel_rfl) (fun _ _ _ h => h) (by rfl) ?_ hHeld ?_
  rotate_left
  · ((intro w hSw); (try dsimp only at hSw); go_simp <;> with_reducible rfl)
  simp only [Act.put, List.setIfInBounds_toArray, List.set_cons_zero, List.set_cons_succ]
  refine take_run 36 (some 92) (v := ?_) rfl rfl (by kernel_rfl) (by kernel_rfl) (by kernel_rfl) (fun _ _ _ h => h) (by rfl) ?_ hHeld ?_
  rotate_left
  · ((intro w hSw); (try dsimp only at hSw); go_simp <;> with_reducible rfl)
  simp only [Act.put, List.setIfInBounds_toArray, List.set_cons_zero, List.set_cons_succ]
  refine take_run 37 (some 93) (v := ?_) rfl rfl (by kernel_rfl) (by kernel_rfl) (by kernel_rfl) (fun _ _ _ h => h) (by rfl) ?_ hHeld ?_
  rotate_left
  · ((intro w hSw); (try dsimp only at hSw); go_simp <;> with_reducible rfl)
  simp only [Act.put, List.setIfInBounds_toArray, List.set_cons_zero, List.set_cons_succ]
  refine take_run 38 (some 94) (v := ?_) rfl rfl (by kernel_rfl) (by kernel_rfl) (by kernel_rfl) (fun _ _ _ h => h) (by rfl) ?_ hHeld ?_
  rotate_left
  · ((intro w hSw); (try dsimp only at hSw); go_simp <;> with_reducible rfl)
  simp only [Act.put, List.setIfInBounds_toArray, List.set_cons_zero, List.set_cons_succ]
  refine take_run 39 (some 95) (v := ?_) rfl rfl (by kernel_rfl) (by kernel_rfl) (by kernel_rfl) (fun _ _ _ h => h) (by rfl) ?_ hHeld ?_
  rotate_left
  · ((intro w hSw); (try dsimp only at hSw); go_simp <;> with_reducible rfl)
  simp only [Act.put, List.setIfInBounds_toArray, List.set_cons_zero, List.set_cons_succ]
  refine take_run 40 (some 96) (v := ?_) rfl rfl (by kernel_rfl) (by kernel_rfl) (by kernel_rfl) (fun _ _ _ h => h) (by rfl) ?_ hHeld ?_
  rotate_left
  · ((intro w hSw); (try dsimp only at hSw); go_simp <;> with_reducible rfl)
  simp only [Act.put, List.setIfInBounds_toArray, List.set_cons_zero, List.set_cons_succ]
  refine take_run 41 (some 97) (v := ?_) rfl rfl (by kernel_rfl) (by kernel_rfl) (by kernel_rfl) (fun _ _ _ h => h) (by rfl) ?_ hHeld ?_
  rotate_left
  · ((intro w hSw); (try dsimp only at hSw); go_simp <;> with_reducible rfl)
  simp only [Act.put, List.setIfInBounds_toArray, List.set_cons_zero, List.set_cons_succ]
  refine take_run 42 (some 98) (v := ?_) rfl rfl (by kernel_rfl) (by kernel_rfl) (by kernel_rfl) (fun _ _ _ h => h) (by rfl) ?_ hHeld ?_
  rotate_left
  · ((intro w hSw); (try dsimp only at hSw); go_simp <;> with_reducible rfl)
  simp only [Act.put, List.setIfInBounds_toArray, List.set_cons_zero, List.set_cons_succ]
  refine take_one 43 (by kernel_rfl) rfl (fun K hK => ?_)
  go_simp
  ((refine (implStoreAdd_any m.sa m.sc m.ss v _ hnlm SMM.out ((V1m.out.on hHeld.2).up hHeld.2.size) hv4' hs' ((WT.out.on hHeld.2).up hHeld.2.size)).mono ?_; intro e wa14 ha; obtain ⟨A14, cap14, vs14, he14, hl14, hi14, hR14, hb⟩ := answerS_form ha; clear ha; rw [HAR.out] at he14; subst he14))
  try go_wp2_with fail
  refine hK.out _ _ (by exact ⟨⟨(B3.on (hHeld.2.trans (hb.mono hHeld.2.size))).at 0, (B5.on (hHeld.2.trans (hb.mono hHeld.2.size))).at 0, ((HB5.out.on (hHeld.2.trans (hb.mono hHeld.2.size))).at _).trans C5n.out, ((HB1.out.on (hHeld.2.trans (hb.mono hHeld.2.size))).at _).trans C1n.out, ((HB5.out.on (hHeld.2.trans (hb.mono hHeld.2.size))).at _).trans C5m.out, ((HB1.out.on (hHeld.2.trans (hb.mono hHeld.2.size))).at _).trans C1m.out, ((HB5.out.on (hHeld.2.trans (hb.mono hHeld.2.size))).at _).trans C5h.out, ((HB1.out.on (hHeld.2.trans (hb.mono hHeld.2.size))).at _).trans C1h.out, (W6.out.keep hbw2 fun _ hp => (hHeld.2.trans (hb.mono hHeld.2.size)).cell hp)⟩, hHeld.2.trans (hb.mono hHeld.2.size)⟩) (fun hHeld => ?_)
  clear hK K
  refine take_one 44 (by kernel_rfl) rfl (fun K hK => ?_)
  go_simp
  ((refine (cfStore_same m5.sa A14 m5.sc cap14 m.ss.length m5.ss vs14 _ hnlm HU5.out (hl14.trans HAR.out) (ll_trans HSS.out (ll_symm ⟨hl14, hi14⟩)).2 HTM5.out ((V5m.out.on hHeld.2).up hHeld.2.size) hR14.vg).mono ?_; rintro e wb15 ⟨rfl, hb⟩))
  try go_wp2_with fail
  refine hK.out _ _ (by exact ⟨⟨(B3.on (hHeld.2.trans (hb.mono hHeld.2.size))).at 0, (B5.on (hHeld.2.trans (hb.mono hHeld.2.size))).at 0, ((HB5.out.on (hHeld.2.trans (hb.mono hHeld.2.size))).at _).trans C5n.out, ((HB1.out.on (hHeld.2.trans (hb.mono hHeld.2.size))).at _).trans C1n.out, ((HB5.out.on (hHeld.2.trans (hb.mono hHeld.2.size))).at _).trans C5m.out, ((HB1.out.on (hHeld.2.trans (hb.mono hHeld.2.size))).at _).trans C1m.out, ((HB5.out.on (hHeld.2.trans (hb.mono hHeld.2.size))).at _).trans C5h.out, ((HB1.out.on (hHeld.2.trans (hb.mono hHeld.2.size))).at _).trans C1h.out, (W6.out.keep hbw2 fun _ hp => (hHeld.2.trans (hb.mono hHeld.2.size)).cell hp)⟩, hHeld.2.trans (hb.mono hHeld.2.size)⟩) (fun hHeld => ?_)
  clear hK K
  refine take_run 45 (some 101) (v := ?_) rfl rfl (by kernel_rfl) (by kernel_rfl) (by kernel_rfl) (fun _ _ _ h => h) (by rfl) ?_ hHeld ?_
  rotate_left
  · ((intro w hSw); (try dsimp only at hSw); go_simp <;> with_reducible rfl)
  simp only [Act.put, List.setIfInBounds_toArray, List.set_cons_zero, List.set_cons_succ]
  refine take_run 46 (some 102) (v := ?_) rfl rfl (by kernel_rfl) (by kernel_rfl) (by kernel_rfl) (fun _ _ _ h => h) (by rfl) ?_ hHeld ?_
  rotate_left
  · ((intro w hSw); (try dsimp only at hSw); go_simp <;> with_reducible rfl)
  simp only [Act.put, List.setIfInBounds_toArray, List.set_cons_zero, List.set_cons_succ]
  refine take_run 47 (some 103) (v := ?_) rfl rfl (by kernel_rfl) (by kernel_rfl) (by kernel_rfl) (fun _ _ _ h => h) (by rfl) ?_ hHeld ?_
  rotate_left
  · ((intro w hSw); (try dsimp only at hSw); go_simp <;> with_reducible rfl)
  simp only [Act.put, List.setIfInBounds_toArray, List.set_cons_zero, List.set_cons_succ]
  refine take_run 49 (some 105) (v := ?_) rfl rfl (by kernel_rfl) (by kernel_rfl) (by kernel_rfl) (fun _ _ _ h => h) (by rfl) ?_ hHeld ?_
  rotate_left
  · ((intro w hSw); (try dsimp only at hSw); go_simp <;> with_reducible rfl)
  simp only [Act.put, List.setIfInBounds_toArray, List.set_cons_zero, List.set_cons_succ]
  refine take_one 48 (by kernel_rfl) rfl (fun K hK => ?_)
  go_simp
  ((refine (implChainStable_any (some ⟨G1, 0, none⟩) c1 ns _ hnn SM.out (CN.on hHeld.2)).mono ?_; rintro e wt4 ⟨A4', cap4, rfl, hR4, hb⟩))
  try go_wp2_with fail
  refine hK.out _ _ (by exact ⟨⟨(B3.on (hHeld.2.trans (hb.mono hHeld.2.size))).at 0, (B5.on (hHeld.2.trans (hb.mono hHeld.2.size))).at 0, ((HB5.out.on (hHeld.2.trans (hb.mono hHeld.2.size))).at _).trans C5n.out, ((HB1.out.on (hHeld.2.trans (hb.mono hHeld.2.size))).at _).trans C1n.out, ((HB5.out.on (hHeld.2.trans (hb.mono hHeld.2.size))).at _).trans C5m.out, ((HB1.out.on (hHeld.2.trans (hb.mono hHeld.2.size))).at _).trans C1m.out, ((HB5.out.on (hHeld.2.trans (hb.mono hHeld.2.size))).at _).trans C5h.out, ((HB1.out.on (hHeld.2.trans (hb.mono hHeld.2.size))).at _).trans C1h.out, (W6.out.keep hbw2 fun _ hp => (hHeld.2.trans (hb.mono hHeld.2.size)).cell hp)⟩, hHeld.2.trans (hb.mono hHeld.2.size)⟩) (fun hHeld => ?_)
  clear hK K
  refine take_one 50 (by kernel_rfl) rfl (fun K hK => ?_)
  go_simp
  ((have CT := implChainStable_any (some ⟨G5, 0, none⟩) cap5 us5 _ (by have := HUL.out; omega) SM5.out (C5.on hHeld.2); rw [HUL.out] at CT; refine CT.mono ?_; clear CT; rintro e wt6 ⟨A6, cap6, rfl, hR6, hb⟩; have HR4 := hR4.on hb))
  try go_wp2_with fail
  refine hK.out _ _ (by exact ⟨⟨(B3.on (hHeld.2.trans (hb.mono hHeld.2.size))).at 0, (B5.on (hHeld.2.trans (hb.mono hHeld.2.size))).at 0, ((HB5.out.on (hHeld.2.trans (hb.mono hHeld.2.size))).at _).trans C5n.out, ((HB1.out.on (hHeld.2.trans (hb.mono hHeld.2.size))).at _).trans C1n.out, ((HB5.out.on (hHeld.2.trans (hb.mono hHeld.2.size))).at _).trans C5m.out, ((HB1.out.on (hHeld.2.trans (hb.mono hHeld.2.size))).at _).trans C1m.out, ((HB5.out.on (hHeld.2.trans (hb.mono hHeld.2.size))).at _).trans C5h.out, ((HB1.out.on (hHeld.2.trans (hb.mono hHeld.2.size))).at _).trans C1h.out, (W6.out.keep hbw2 fun _ hp => (hHeld.2.trans (hb.mono hHeld.2.size)).cell hp)⟩, hHeld.2.trans (hb.mono hHeld.2.size)⟩) (fun hHeld => ?_)
  clear hK K
  refine take_one 51 (by kernel_rfl) rfl (fun K hK => ?_)
  go_simp
  ((refine (implPastWithin_any A4' A6 cap4 cap6 (stableR ns) (stableR us5) _ (by have := stableR_len ns; omega) (by have := stableR_len us5; omega) HR4.tg hR6.tg).mono ?_; rintro e wt9 ⟨rfl, hb⟩; rw [HST5.out]))
  try go_wp2_with fail
  refine hK.out _ _ (by exact ⟨⟨(B3.on (hHeld.2.trans (hb.mono hHeld.2.size))).at 0, (B5.on (hHeld.2.trans (hb.mono hHeld.2.size))).at 0, ((HB5.out.on (hHeld.2.trans (hb.mono hHeld.2.size))).at _).trans C5n.out, ((HB1.out.on (hHeld.2.trans (hb.mono hHeld.2.size))).at _).trans C1n.out, ((HB5.out.on (hHeld.2.trans (hb.mono hHeld.2.size))).at _).trans C5m.out, ((HB1.out.on (hHeld.2.trans (hb.mono hHeld.2.size))).at _).trans C1m.out, ((HB5.out.on (hHeld.2.trans (hb.mono hHeld.2.size))).at _).trans C5h.out, ((HB1.out.on (hHeld.2.trans (hb.mono hHeld.2.size))).at _).trans C1h.out, (W6.out.keep hbw2 fun _ hp => (hHeld.2.trans (hb.mono hHeld.2.size)).cell hp)⟩, hHeld.2.trans (hb.mono hHeld.2.size)⟩) (fun hHeld => ?_)
  clear hK K
  refine take_run 52 (some 108) (v := ?_) rfl rfl (by kernel_rfl) (by kernel_rfl) (by kernel_rfl) (fun _ _ _ h => h) (by rfl) ?_ hHeld ?_
  rotate_left
  · ((intro w hSw); (try dsimp only at hSw); go_simp <;> with_reducible rfl)
  simp only [Act.put, List.setIfInBounds_toArray, List.set_cons_zero, List.set_cons_succ]
  refine take_run 53 (some 109) (v := ?_) rfl rfl (by kernel_rfl) (by kernel_rfl) (by kernel_rfl) (fun _ _ _ h => h) (by rfl) ?_ hHeld ?_
  rotate_left
  · ((intro w hSw); (try dsimp only at hSw); go_simp <;> with_reducible rfl)
  simp only [Act.put, List.setIfInBounds_toArray, List.set_cons_zero, List.set_cons_succ]
  refine take_run 54 (some 110) (v := ?_) rfl rfl (by kernel_rfl) (by kernel_rfl) (by kernel_rfl) (fun _ _ _ h => h) (by rfl) ?_ hHeld ?_
  rotate_left
  · ((intro w hSw); (try dsimp only at hSw); go_simp <;> with_reducible rfl)
  simp only [Act.put, List.setIfInBounds_toArray, List.set_cons_zero, List.set_cons_succ]
  refine take_run 55 (some 111) (v := ?_) rfl rfl (by kernel_rfl) (by kernel_rfl) (by kernel_rfl) (fun _ _ _ h => h) (by rfl) ?_ hHeld ?_
  rotate_left
  · ((intro w hSw); (try dsimp only at hSw); go_simp <;> with_reducible rfl)
  simp only [Act.put, List.setIfInBounds_toArray, List.set_cons_zero, List.set_cons_succ]
  refine take_run 56 (some 112) (v := ?_) rfl rfl (by kernel_rfl) (by kernel_rfl) (by kernel_rfl) (fun _ _ _ h => h) (by rfl) ?_ hHeld ?_
  rotate_left
  · ((intro w hSw); (try dsimp only at hSw); go_simp <;> with_reducible rfl)
  simp only [Act.put, List.setIfInBounds_toArray, List.set_cons_zero, List.set_cons_succ]
  refine take_run 57 (some 113) (v := ?_) rfl rfl (by kernel_rfl) (by kernel_rfl) (by kernel_rfl) (fun _ _ _ h => h) (by rfl) ?_ hHeld ?_
  rotate_left
  · ((intro w hSw); (try dsimp only at hSw); go_simp <;> with_reducible rfl)
  simp only [Act.put, List.setIfInBounds_toArray, List.set_cons_zero, List.set_cons_succ]
  refine take_run 58 (some 114) (v := ?_) rfl rfl (by kernel_rfl) (by kernel_rfl) (by kernel_rfl) (fun _ _ _ h => h) (by rfl) ?_ hHeld ?_
  rotate_left
  · ((intro w hSw); (try dsimp only at hSw); go_simp <;> with_reducible rfl)
  simp only [Act.put, List.setIfInBounds_toArray, List.set_cons_zero, List.set_cons_succ]
  refine take_run 59 (some 115) (v := ?_) rfl rfl (by kernel_rfl) (by kernel_rfl) (by kernel_rfl) (fun _ _ _ h => h) (by rfl) ?_ hHeld ?_
  rotate_left
  · ((intro w hSw); (try dsimp only at hSw); go_simp <;> with_reducible rfl)
  simp only [Act.put, List.setIfInBounds_toArray, List.set_cons_zero, List.set_cons_succ]
  refine take_run 60 (some 116) (v := ?_) rfl rfl (by kernel_rfl) (by kernel_rfl) (by kernel_rfl) (fun _ _ _ h => h) (by rfl) ?_ hHeld ?_
  rotate_left
  · ((intro w hSw); (try dsimp only at hSw); go_simp <;> with_reducible rfl)
  simp only [Act.put, List.setIfInBounds_toArray, List.set_cons_zero, List.set_cons_succ]
  refine take_run 61 (some 117) (v := ?_) rfl rfl (by kernel_rfl) (by kernel_rfl) (by kernel_rfl) (fun _ _ _ h => h) (by rfl) ?_ hHeld ?_
  rotate_left
  · ((intro w hSw); (try dsimp only at hSw); go_simp <;> with_reducible rfl)
  simp only [Act.put, List.setIfInBounds_toArray, List.set_cons_zero, List.set_cons_succ]
  refine take_run 62 (some 118) (v := ?_) rfl rfl (by kernel_rfl) (by kernel_rfl) (by kernel_rfl) (fun _ _ _ h => h) (by rfl) ?_ hHeld ?_
  rotate_left
  · ((intro w hSw); (try dsimp only at hSw); go_simp <;> with_reducible rfl)
  simp only [Act.put, List.setIfInBounds_toArray, List.set_cons_zero, List.set_cons_succ]
  refine take_run 63 (some 119) (v := ?_) rfl rfl (by kernel_rfl) (by kernel_rfl) (by kernel_rfl) (fun _ _ _ h => h) (by rfl) ?_ hHeld ?_
  rotate_left
  · ((intro w hSw); (try dsimp only at hSw); go_simp <;> with_reducible rfl)
  simp only [Act.put, List.setIfInBounds_toArray, List.set_cons_zero, List.set_cons_succ]
  refine take_one 64 (by kernel_rfl) rfl (fun K hK => ?_)
  go_simp
  ((refine (cfStore_same x5.sa nh.sa x5.sc nh.sc nh.ss.length x5.ss nh.ss _ hnlh HXS.out.1 rfl HXS.out.2 HTX5.out ((V5h.out.on hHeld.2).up hHeld.2.size) ((V1h.out.on hHeld.2).up hHeld.2.size)).mono ?_; rintro e wb16 ⟨rfl, hb⟩))
  try go_wp2_with fail
  refine hK.out _ _ (by exact ⟨⟨(B3.on (hHeld.2.trans (hb.mono hHeld.2.size))).at 0, (B5.on (hHeld.2.trans (hb.mono hHeld.2.size))).at 0, ((HB5.out.on (hHeld.2.trans (hb.mono hHeld.2.size))).at _).trans C5n.out, ((HB1.out.on (hHeld.2.trans (hb.mono hHeld.2.size))).at _).trans C1n.out, ((HB5.out.on (hHeld.2.trans (hb.mono hHeld.2.size))).at _).trans C5m.out, ((HB1.out.on (hHeld.2.trans (hb.mono hHeld.2.size))).at _).trans C1m.out, ((HB5.out.on (hHeld.2.trans (hb.mono hHeld.2.size))).at _).trans C5h.out, ((HB1.out.on (hHeld.2.trans (hb.mono hHeld.2.size))).at _).trans C1h.out, (W6.out.keep hbw2 fun _ hp => (hHeld.2.trans (hb.mono hHeld.2.size)).cell hp)⟩, hHeld.2.trans (hb.mono hHeld.2.size)⟩) (fun hHeld => ?_)
  clear hK K
  refine take_run 65 (some 121) (v := ?_) rfl rfl (by kernel_rfl) (by kernel_rfl) (by kernel_rfl) (fun _ _ _ h => h) (by rfl) ?_ hHeld ?_
  rotate_left
  · ((intro w hSw); (try dsimp only at hSw); go_simp <;> with_reducible rfl)
  simp only [Act.put, List.setIfInBounds_toArray, List.set_cons_zero, List.set_cons_succ]
  refine take_run 66 (some 2) (v := ?_) rfl rfl (by kernel_rfl) (by kernel_rfl) (by kernel_rfl) (fun _ _ _ h => h) (by rfl) ?_ hHeld ?_
  rotate_left
  · ((intro w hSw); (try dsimp only at hSw); go_simp <;> with_reducible rfl)
  simp only [Act.put, List.setIfInBounds_toArray, List.set_cons_zero, List.set_cons_succ]
  refine wpAnyH_done (by kernel_rfl) ?_ _
  refine NoPanic.normal ?_
  have L9 := L0.trans (hHeld.2.mono L0.size)
  clear hHeld
  go_wp2
  go_ret
  exact ⟨rfl, L9⟩

set_option maxRecDepth 100000 in
theorem lifted (os : Os) (started : os.Started) (H : Type) (enc : TypeId × Value → H) :
    ReturnsInHanded {} Try.checked os 4 .any (Rows.fnChainPassSpec.pre6 enc Try.prog Try.f4 Rows.fnChainPassRow.domain false) (Rows.fnChainPassSpec.post enc Try.prog Try.f4 false true false false) := by
  refine returnsInHanded_of_change (C := Try.checked) own started (by kernel_rfl) Try.func4
    (ChangeSpec.witness6 (enc := enc) (C := Try.checked) false ⟨#[], #[.slice none 0 0], []⟩ 8 (by kernel_rfl) (by kernel_rfl) (by kernel_rfl) (by kernel_rfl)) ?_
  intro W base args ds gs before hval0 hW hcnd _
  have hval : ∀ (j : Nat) t v, Try.f4.params[j]? = some t → args[j]? = some v → Value.okWide Try.prog W .any base t v := hval0
  have hW' := hW
  obtain ⟨p, q, hA0, hV, rfl, hfz, hnd⟩ := hW
  have hA : DataW.TrodAll enc Try.prog W 0 (fun _ => true) true Try.f4.params.toList args.toList ds p := hA0
  rw [Try.params4] at hA hval
  have hK := hA
  obtain ⟨v0, vs0, d0, ds0, p0, q0, hargs, rfl, rfl, h0, r0⟩ := trodAll_cons hA
  obtain ⟨rfl, rfl, rfl⟩ := trodAll_nil r0
  obtain rfl : args = #[v0] := by cases args; simp_all
  obtain ⟨rfl, rfl⟩ := trodVars_none hV
  obtain ⟨a0, len0, cap0, rfl, b0⟩ := read_bytes (hval 0 22 v0 rfl rfl) h0
  clear hA0 hval0
  refine (walk a0 len0 cap0 W b0).mono fun e W' ⟨he, hb⟩ => ?_
  subst he
  have hK' := stay_all hb (by intro t ht; simp only [List.mem_cons, List.not_mem_nil, or_false] at ht; rcases ht with rfl <;> exact ⟨by kernel_rfl, of_decide_eq_true (by kernel_rfl)⟩) hK
  exact ⟨_, rfl, _, _, _, [], _, [], hW', trodAll_mk1 (shut_bool Try.underlying4 _), hK', rfl, hb.frame _, fun h => by cases h⟩

theorem over : Rows.fnChainPassRow.holds Try.pinned (OpenSpec.ofChange Rows.fnChainPassSpec) :=
  OpenClaim.holds_of_wide 4 Try.f4 rfl rfl rfl rfl rfl rfl rfl ⟨rfl, rfl, rfl, rfl, rfl⟩ rfl rfl rfl rfl rfl (by kernel_rfl) Try.func4
    (by refine joined_of ?_; kernel_rfl) (of_decide_eq_true (by kernel_rfl)) (by unfold Func.isWrapper; first | (rw [if_pos (by decide +kernel)]; kernel_rfl) | (rw [if_neg (by decide +kernel)]; exact ⟨rfl, rfl⟩))
    (fun os started H enc _ => lifted os started H enc)
end Go.Proofs.Ytjnloillcgeodaa.FnChainPass
namespace Go.Proofs.Ytjnloillcgeodaa
/-- The statement itself. -/
theorem fnChainPass_holds : Rows.FnChainPassSaid := FnChainPass.over
#print axioms fnChainPass_holds
end Go.Proofs.Ytjnloillcgeodaa
namespace Go.Proofs.Ytjnloillcgeodaa.FnChainPass
end Go.Proofs.Ytjnloillcgeodaa.FnChainPass
