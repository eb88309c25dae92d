/- The law FnChainDrain (promise 15) holds: of a drawn chain that is ok, when all is passed on, in no more rounds than all that waits may take, nothing waits at any node, and each has what the head has. No condition. -/
import Derived.Test.YtjnloillcgeodaaJVerOk0
import Derived.Test.YtjnloillcgeodaaJCfStores
import Derived.Test.YtjnloillcgeodaaJFnChainKit
import Derived.Test.YtjnloillcgeodaaJChainPass5
import Derived.Test.YtjnloillcgeodaaJLift0
namespace Go.Proofs.Ytjnloillcgeodaa.FnChainDrain
open Go.ChangeShapes Go.WideShapes Go.ChangeAt Go.RowKit Go.Joins
attribute [local go_sem ↓] Go.wp_at_zero Go.wp_at_succ

theorem pass_step {w : World} {A : Option Addr} {c : Nat} {us rs : List Nd} (k : Int) (hok : chainB rs = true) (h : NL us rs) (hC : CgA w A us) :
    Calls Try.prog 17 #[.agg #[.slice A rs.length c], .int .i64 k] w (AnswerCB w (passN rs k) (passK rs k)) := by
  have C := implChainPass_any A c us k w (by have := h.1; have := (chainB_parts hok).1.2; omega) (fine_sm ((fine_chain hok).like h)) hC
  rw [h.1] at C
  exact C.mono fun e w' q => answerCB_to q (passN_like h k)
set_option maxRecDepth 100000 in
set_option maxHeartbeats 8000000 in
theorem walk (a : Option Addr) (len cap : Nat) (w : World) (hc : Code0 w a len cap) :
    Calls Try.prog 5 #[.slice a len cap] w fun e w' => e = .returned (.bool true) ∧ Below w.heap.size w w' := by
  by_cases h1 : 1048576 < len
  · have h1' : (1048576 : Int) < (len : Int) := by omega
    go_enter Try.func5, Try.ntmps5
    go_wp2
    go_ret
    exact ⟨rfl, Below.refl _ _⟩
  have h1' : (len : Int) ≤ 1048576 := by omega
  go_enter Try.func5, Try.ntmps5
  go_wp2_with fail
  refine (drawChainPass_any w a len cap hc (by omega)).mono ?_
  rintro e w1 ⟨A1, c1, ns, k, rfl, hf, hC1, hb1⟩
  have hnn : ns.length ≤ 1048576 := by have := hf.1; omega
  have SM := hide (fewN_sm hf)
  have SL := hide (fewN_small hf)
  have LA := below_alloc1 w1 (.cells #[.slice A1 ns.length c1] 25)
  have B3 := Blk.made w1 25 #[.slice A1 ns.length c1]
  have CN := hC1.on LA
  have L0 := hb1.trans (LA.mono hb1.size)
  have k3 := B3.one.1
  clear hC1 LA hb1 hc hf
  go_wp2_with fail
  generalize w1.alloc (.cells #[.slice A1 ns.length c1] 25) = W1 at B3 CN L0 k3 ⊢
  generalize w1.heap.size = p3 at *
  with_reducible refine (implChainPass_any A1 c1 ns k W1 hnn SM.out CN).mono ?_
  rintro e w2 ⟨A5, cap5, us5, rfl, hn5, R5, hb2⟩
  have HN5 := hide hn5
  have LB := hb2.trans ((below_alloc1 w2 (.cells #[.slice A5 (passN ns k).length cap5] 25)).mono hb2.size)
  replace B3 := B3.on LB
  have B5 := Blk.made w2 25 #[.slice A5 (passN ns k).length cap5]
  replace CN := CN.on LB
  have C5 := R5.cg.on (below_alloc1 w2 (.cells #[.slice A5 (passN ns k).length cap5] 25))
  replace L0 := L0.trans (LB.mono L0.size)
  clear hn5 R5 hb2
  replace k3 := B3.one.1
  go_wp2_with fail
  generalize w2.alloc (.cells #[.slice A5 (passN ns k).length cap5] 25) = W2 at B3 B5 CN C5 L0 k3 LB ⊢
  generalize w2.heap.size = p5 at *
  with_reducible refine (specChainPass_any A1 c1 ns k W2 hnn SM.out CN).mono ?_
  rintro e w3 ⟨A7, cap7, us7, rfl, hn7, R7, hb3⟩
  have HN7 := hide hn7
  have LD := hb3.trans ((below_alloc1 w3 (.cells #[.slice A7 (passN ns k).length cap7] 25)).mono hb3.size)
  replace B3 := B3.on LD
  replace B5 := B5.on LD
  have B7 := Blk.made w3 25 #[.slice A7 (passN ns k).length cap7]
  replace CN := CN.on LD
  replace C5 := C5.on LD
  have C7 := R7.cg.on (below_alloc1 w3 (.cells #[.slice A7 (passN ns k).length cap7] 25))
  replace L0 := L0.trans (LD.mono L0.size)
  have k5 := B5.one.1
  clear hn7 R7 hb3 LB k3
  go_wp2_with fail
  clear k5
  generalize w3.alloc (.cells #[.slice A7 (passN ns k).length cap7] 25) = W at B3 B5 B7 CN C5 C7 L0 ⊢
  generalize w3.heap.size = p7 at *
  clear LD
  have PF := hide (passN_fine ns k)
  have hpl : (passN ns k).length ≤ 1048576 := by have := PF.out.1; omega
  cases ho : chainB ns
  · have HE := passN_no (k := k) ho
    rw [HE.1] at HN5 HN7 B5 B7 PF hpl
    simp only [HE.1, HE.2]
    have HP := hide ho
    clear ho HE
    have k5 := B5.one.1
    have k7 := B7.one.1
    with_reducible refine (cfChain_nl (rs := []) PF.out.small hpl HN5.out HN7.out C5 C7).mono ?_
    rintro e w4 ⟨rfl, hb4⟩
    have k3 := (B3.on hb4).one.1
    have HB4 := hide hb4
    clear hb4 k5 k7
    go_wp2_with fail
    with_reducible refine (implChainOk_any A1 c1 ns w4 hnn SM.out (CN.on HB4.out)).mono ?_
    rintro e w5 ⟨rfl, hb5⟩
    rw [HP.out]
    have LX := HB4.out.trans (hb5.mono HB4.out.size)
    have k5 := (B5.on LX).one.1
    have k7 := (B7.on LX).one.1
    clear hb5 HB4 k3
    go_wp2_with fail
    refine (cfChain_nl (rs := []) PF.out.small hpl HN5.out HN7.out (C5.on LX) (C7.on LX)).mono ?_
    rintro e w6 ⟨rfl, hb6⟩
    have L9 := L0.trans ((LX.trans (hb6.mono LX.size)).mono L0.size)
    clear hb6 LX k5 k7
    go_wp2
    go_ret
    exact ⟨rfl, L9⟩
  have HP := hide ho
  obtain ⟨⟨hl1, hl4⟩, hnode, -⟩ := chainB_parts ho
  obtain ⟨nh, hnh⟩ : ∃ nh, ns[0]? = some nh := ⟨_, List.getElem?_eq_getElem (by omega)⟩
  have HNH := hide hnh
  clear ho hnode hnh
  have k5 := B5.one.1
  have k7 := B7.one.1
  with_reducible refine (cfChain_nl (rs := passN ns k) PF.out.small hpl HN5.out HN7.out C5 C7).mono ?_
  rintro e w4 ⟨rfl, hb4⟩
  have k3 := (B3.on hb4).one.1
  have HB4 := hide hb4
  clear hb4 k5 k7
  go_wp2_with fail
  with_reducible refine (implChainOk_any A1 c1 ns w4 hnn SM.out (CN.on HB4.out)).mono ?_
  rintro e w5 ⟨rfl, hb5⟩
  rw [HP.out]
  have LX := HB4.out.trans (hb5.mono HB4.out.size)
  replace B3 := B3.on LX
  replace CN := CN.on LX
  replace L0 := L0.trans (LX.mono L0.size)
  have k3 := B3.one.1
  have By := Blk.made w5 25 #[.slice A1 ns.length c1]
  have CY := CN.on (below_alloc1 w5 (.cells #[.slice A1 ns.length c1] 25))
  have LY := below_alloc1 w5 (.cells #[.slice A1 ns.length c1] 25)
  have zY : w5.heap.size < (w5.alloc (.cells #[.slice A1 ns.length c1] 25)).heap.size := by simp
  clear hb5 HB4 LX B5 B7 C5 C7 HN5 HN7 PF hpl
  go_wp2_with fail
  generalize w5.alloc (.cells #[.slice A1 ns.length c1] 25) = W9 at By CY LY zY ⊢
  obtain ⟨p9, hp9⟩ : ∃ p9, p9 = w5.heap.size := ⟨_, rfl⟩
  rw [← hp9] at By zY ⊢
  have HP9 := hide hp9
  clear hp9 k3
  go_loopw [10] (fun i wr => ∃ (r : Nat) (A : Option Addr) (c : Nat) (us : List Nd), r ≤ 24 ∧ i = .int .i64 (r : Int) ∧ p9 < wr.heap.size ∧ Hid (NL us (drainN ns r)) ∧ CgA wr A us ∧ Blk wr p9 25 #[.slice A ns.length c] ∧ Below w5.heap.size w5 wr) (fun i _ => 24 - (intOf i).toNat)
  case atStart => exact ⟨0, A1, c1, ns, Nat.zero_le _, rfl, zY, nl_same ns, CY, By, LY⟩
  case round =>
    clear By CY LY zY
    rename World => wo
    obtain ⟨r, A, c, us, hr, rfl, hz, hnl, hcy, hby, hL⟩ := hrel
    by_cases hlt : r < 24
    · have k3 := (B3.on hL).one.1
      have hlt' : (r : Int) < 24 := by omega
      go_wp2_with fail
      go_loopw [11] (fun i wr => ∃ (d : Nat) (q : Int) (A : Option Addr) (c : Nat) (us : List Nd), d ≤ ns.length ∧ q = (ns.length : Int) - 1 - (d : Int) ∧ i = .int .i64 q ∧ p9 < wr.heap.size ∧ Hid (NL us (downN (drainN ns r) ns.length d)) ∧ CgA wr A us ∧ Blk wr p9 25 #[.slice A ns.length c] ∧ Below w5.heap.size w5 wr) (fun i _ => (intOf i + 1).toNat)
      case atStart => exact ⟨0, (ns.length : Int) - 1, A, c, us, Nat.zero_le _, by omega, rfl, hz, hnl, hcy, hby, hL⟩
      case round =>
        clear hnl hcy hby hL hz k3
        rename World => wi
        obtain ⟨d, q, A', c', us', hd, hq, rfl, hz, hnl, hcy, hby, hL⟩ := hrel
        have HQ := hide hq
        by_cases hdl : d < ns.length
        · have q0 : 0 ≤ q := by omega
          have q3 : q ≤ 3 := by omega
          have qn : ((ns.length - 1 - d : Nat) : Int) = q := by omega
          have hst := stays_down (stays_drain HP.out r).1 ns.length d
          have hstl := hst.2.1.trans (stays_drain HP.out r).2.1
          have CP := pass_step (c := c') q hst.1 hnl.out hcy
          have hpl : (passN (downN (drainN ns r) ns.length d) q).length = ns.length := (passN_size hst.1).trans hstl
          have hpe : downN (drainN ns r) ns.length (d + 1) = passN (downN (drainN ns r) ns.length d) q := by rw [downN, qn]
          have CQ : Hid (Calls Try.prog 17 #[.agg #[.slice A' ns.length c'], .int .i64 q] wi fun e w' => ∃ (A : Option Addr) (cap : Nat) (us : List Nd) (b : Bool), e = .returned (.tuple #[.agg #[.slice A ns.length cap], .bool b]) ∧ Hid (NL us (downN (drainN ns r) ns.length (d + 1))) ∧ ResN w' wi.heap.size w'.heap.size A us ∧ Below wi.heap.size wi w') := by
            rw [hstl] at CP
            refine CP.mono ?_
            rintro e w' ⟨A0, cap0, us0, he, h1, h2, h3⟩
            exact ⟨A0, cap0, us0, _, by rw [he, hpl], by rw [hpe]; exact h1, h2, h3⟩
          clear hst hstl CP hpl hpe qn hq
          have k9 := hby.one.1
          go_wp2_with fail
          with_reducible refine CQ.out.mono ?_
          rintro e w7 ⟨A7, cap7, us7, b7, rfl, hn7, R7, hb7⟩
          have k9 := (hby.on hb7).one
          have z7 := hb7.size
          have C7 := (R7.set (p := ⟨p9, 0, none⟩) (.inl hz) (.slice A7 ns.length cap7)).cg
          have b9 := (hby.on hb7).put 0 (.slice A7 ns.length cap7)
          have L7 := (hL.trans (hb7.mono hL.size)).setCell (p := ⟨p9, 0, none⟩) (Nat.le_of_eq HP9.out.symm) (.slice A7 ns.length cap7)
          have z9 : p9 < (w7.setCell ⟨p9, 0, none⟩ (.slice A7 ns.length cap7)).heap.size := by simp only [World.setCell, Array.size_modify]; omega
          clear hnl hcy hby hL R7 hb7
          go_wp2
          refine ⟨⟨d + 1, q - 1, A7, cap7, us7, by omega, by have := HQ.out; omega, by go_num, z9, hn7, C7, b9, L7⟩, by simp [intOf]; omega⟩
        · have q1 : q < 0 := by omega
          clear hq
          have hde : d = ns.length := by omega
          subst hde
          clear hdl
          go_wp2
          exact ⟨⟨r + 1, A', c', us', by omega, by go_num, hz, hnl, hcy, hby, hL⟩, by simp [intOf]; omega⟩
    · have hr24 : r = 24 := by omega
      have hlt' : ¬ (r : Int) < 24 := by omega
      rw [hr24] at hnl
      clear hlt hr hr24
      have hst := stays_drain HP.out 24
      have hall := drain_all HP.out HNH.out
      have hul : us.length = ns.length := hnl.out.1.trans hst.2.1
      have hoky : chainB us = true := by rw [chainB_like hnl.out]; exact hst.1
      have SMY := hide (fine_sm (fine_chain hoky))
      have HOKY := hide hoky
      have HUL := hide hul
      obtain ⟨Gy, cury, rfl, hgy⟩ := cgA_at hcy (by omega)
      obtain ⟨G1, cur1, rfl, hg1⟩ := cgA_at (CN.on hL) hl1
      have CGY := hide hgy
      have CG1 := hide hg1
      have HALL : Hid (∀ (i : Nat) n, us[i]? = some n → n.ws.length = 0 ∧ LL n.ss nh.ss) := fun i n hi => by
        obtain ⟨m, hm, hlk⟩ := nl_at hnl.out hi
        obtain ⟨h1, h2⟩ := hall i m hm
        exact ⟨by rw [hlk.2.2.1, h1]; rfl, ll_trans ⟨hlk.1, hlk.2.1⟩ h2⟩
      have Q1 : Hid (cur1[0]? = some (.slice nh.sa nh.ss.length nh.sc)) := (CG1.out.at' 0 nh HNH.out).1
      have V1 := hide (CG1.out.store 0 nh HNH.out)
      have hnl0 : nh.ss.length ≤ 1048576 := len_ss SM.out HNH.out
      have i5 : 0 < ns.length := by omega
      have B3o := B3.on hL
      have CYO := hcy
      clear hst hall hoky hgy hg1 hul hcy hnl
      have k9 := hby.one.1
      go_wp2_with fail
      have L24 := L0.trans (hL.mono L0.size)
      clear hL
      go_loopw [12] (fun i wr => ∃ k : Nat, k ≤ ns.length ∧ i = .int .i64 (k : Int) ∧ Below wo.heap.size wo wr) (fun i _ => ns.length - (intOf i).toNat)
      case atStart => exact ⟨0, Nat.zero_le _, rfl, Below.refl _ _⟩
      case round =>
        clear k9
        obtain ⟨k, hk, rfl, hL⟩ := hrel
        have k9 := (hby.on hL).one.1
        by_cases hlt : k < ns.length
        · obtain ⟨n9, hn9⟩ : ∃ n9, us[k]? = some n9 := ⟨_, List.getElem?_eq_getElem (by have := HUL.out; omega)⟩
          have hss := HALL.out k n9 hn9
          have A9 := CGY.out.at' k n9 hn9
          rw [NdAt, hss.1, hss.2.1] at A9
          have Q9 := hide A9
          have HSS := hide hss.2
          have HT9 := hide (ts_ss SMY.out hn9)
          have V9 := hide (CGY.out.store k n9 hn9)
          clear A9 hss hn9
          have i1 : (0 : Int) ≤ (k : Int) := by omega
          have i2 : (k : Int) < (ns.length : Int) := by omega
          go_wp2_with fail
          refine wp_region_noPanic ?_
          refine wp_region_held_drew (S := (fun w' => (w'.cell? ⟨p3, 0, none⟩ = some (.slice (some ⟨G1, 0, none⟩) ns.length c1) ∧ w'.cell? ⟨p9, 0, none⟩ = some (.slice (some ⟨Gy, 0, none⟩) ns.length c) ∧ w'.cell? ⟨Gy, k * 2 + 1, none⟩ = some (.slice n9.wa 0 n9.wc) ∧ w'.cell? ⟨Gy, k * 2, none⟩ = some (.slice n9.sa nh.ss.length n9.sc) ∧ w'.cell? ⟨G1, 0, none⟩ = some (.slice nh.sa nh.ss.length nh.sc)) ∧ Below wo.heap.size wo w')) (by kernel_rfl) (by exact ⟨⟨(B3o.on ((hL).drew)).at 0, (hby.on ((hL).drew)).at 0, ((CGY.out.blk.on ((hL).drew)).at _).trans Q9.out.2, ((CGY.out.blk.on ((hL).drew)).at _).trans Q9.out.1, ((CG1.out.blk.on ((hL).drew)).at _).trans Q1.out⟩, (hL).drew⟩) (fun hHeld => ?_)
          refine take_run 0 (some 81) (v := ?_) rfl rfl (by kernel_rfl) (by kernel_rfl) (by kernel_rfl) (fun _ _ _ h => h) (by rfl) ?_ hHeld ?_
          rotate_left
          · ((intro w hSw); (try dsimp only at hSw); go_simp <;> with_reducible rfl)
          simp only [Act.put, List.setIfInBounds_toArray, List.set_cons_zero, List.set_cons_succ]
          refine take_run 1 (some 82) (v := ?_) rfl rfl (by kernel_rfl) (by kernel_rfl) (by kernel_rfl) (fun _ _ _ h => h) (by rfl) ?_ hHeld ?_
          rotate_left
          · ((intro w hSw); (try dsimp only at hSw); go_simp <;> with_reducible rfl)
          simp only [Act.put, List.setIfInBounds_toArray, List.set_cons_zero, List.set_cons_succ]
          refine take_run 2 (some 83) (v := ?_) rfl rfl (by kernel_rfl) (by kernel_rfl) (by kernel_rfl) (fun _ _ _ h => h) (by rfl) ?_ hHeld ?_
          rotate_left
          · ((intro w hSw); (try dsimp only at hSw); go_simp <;> with_reducible rfl)
          simp only [Act.put, List.setIfInBounds_toArray, List.set_cons_zero, List.set_cons_succ]
          refine take_run 3 (some 84) (v := ?_) rfl rfl (by kernel_rfl) (by kernel_rfl) (by kernel_rfl) (fun _ _ _ h => h) (by rfl) ?_ hHeld ?_
          rotate_left
          · ((intro w hSw); (try dsimp only at hSw); go_simp <;> with_reducible rfl)
          simp only [Act.put, List.setIfInBounds_toArray, List.set_cons_zero, List.set_cons_succ]
          refine take_run 4 (some 85) (v := ?_) rfl rfl (by kernel_rfl) (by kernel_rfl) (by kernel_rfl) (fun _ _ _ h => h) (by rfl) ?_ hHeld ?_
          rotate_left
          · ((intro w hSw); (try dsimp only at hSw); go_simp <;> with_reducible rfl)
          simp only [Act.put, List.setIfInBounds_toArray, List.set_cons_zero, List.set_cons_succ]
          refine take_run 5 (some 86) (v := ?_) rfl rfl (by kernel_rfl) (by kernel_rfl) (by kernel_rfl) (fun _ _ _ h => h) (by rfl) ?_ hHeld ?_
          rotate_left
          · ((intro w hSw); (try dsimp only at hSw); go_simp <;> with_reducible rfl)
          simp only [Act.put, List.setIfInBounds_toArray, List.set_cons_zero, List.set_cons_succ]
          refine take_run 6 (some 87) (v := ?_) rfl rfl (by kernel_rfl) (by kernel_rfl) (by kernel_rfl) (fun _ _ _ h => h) (by rfl) ?_ hHeld ?_
          rotate_left
          · ((intro w hSw); (try dsimp only at hSw); go_simp <;> with_reducible rfl)
          simp only [Act.put, List.setIfInBounds_toArray, List.set_cons_zero, List.set_cons_succ]
          refine take_run 7 (some 88) (v := ?_) rfl rfl (by kernel_rfl) (by kernel_rfl) (by kernel_rfl) (fun _ _ _ h => h) (by rfl) ?_ hHeld ?_
          rotate_left
          · ((intro w hSw); (try dsimp only at hSw); go_simp <;> with_reducible rfl)
          simp only [Act.put, List.setIfInBounds_toArray, List.set_cons_zero, List.set_cons_succ]
          refine take_run 8 (some 89) (v := ?_) rfl rfl (by kernel_rfl) (by kernel_rfl) (by kernel_rfl) (fun _ _ _ h => h) (by rfl) ?_ hHeld ?_
          rotate_left
          · ((intro w hSw); (try dsimp only at hSw); go_simp <;> with_reducible rfl)
          simp only [Act.put, List.setIfInBounds_toArray, List.set_cons_zero, List.set_cons_succ]
          refine take_run 9 (some 90) (v := ?_) rfl rfl (by kernel_rfl) (by kernel_rfl) (by kernel_rfl) (fun _ _ _ h => h) (by rfl) ?_ hHeld ?_
          rotate_left
          · ((intro w hSw); (try dsimp only at hSw); go_simp <;> with_reducible rfl)
          simp only [Act.put, List.setIfInBounds_toArray, List.set_cons_zero, List.set_cons_succ]
          refine take_run 10 (some 91) (v := ?_) rfl rfl (by kernel_rfl) (by kernel_rfl) (by kernel_rfl) (fun _ _ _ h => h) (by rfl) ?_ hHeld ?_
          rotate_left
          · ((intro w hSw); (try dsimp only at hSw); go_simp <;> with_reducible rfl)
          simp only [Act.put, List.setIfInBounds_toArray, List.set_cons_zero, List.set_cons_succ]
          refine take_run 11 (some 92) (v := ?_) rfl rfl (by kernel_rfl) (by kernel_rfl) (by kernel_rfl) (fun _ _ _ h => h) (by rfl) ?_ hHeld ?_
          rotate_left
          · ((intro w hSw); (try dsimp only at hSw); go_simp <;> with_reducible rfl)
          simp only [Act.put, List.setIfInBounds_toArray, List.set_cons_zero, List.set_cons_succ]
          refine take_run 12 (some 93) (v := ?_) rfl rfl (by kernel_rfl) (by kernel_rfl) (by kernel_rfl) (fun _ _ _ h => h) (by rfl) ?_ hHeld ?_
          rotate_left
          · ((intro w hSw); (try dsimp only at hSw); go_simp <;> with_reducible rfl)
          simp only [Act.put, List.setIfInBounds_toArray, List.set_cons_zero, List.set_cons_succ]
          refine take_run 13 (some 94) (v := ?_) rfl rfl (by kernel_rfl) (by kernel_rfl) (by kernel_rfl) (fun _ _ _ h => h) (by rfl) ?_ hHeld ?_
          rotate_left
          · ((intro w hSw); (try dsimp only at hSw); go_simp <;> with_reducible rfl)
          simp only [Act.put, List.setIfInBounds_toArray, List.set_cons_zero, List.set_cons_succ]
          refine take_run 14 (some 95) (v := ?_) rfl rfl (by kernel_rfl) (by kernel_rfl) (by kernel_rfl) (fun _ _ _ h => h) (by rfl) ?_ hHeld ?_
          rotate_left
          · ((intro w hSw); (try dsimp only at hSw); go_simp <;> with_reducible rfl)
          simp only [Act.put, List.setIfInBounds_toArray, List.set_cons_zero, List.set_cons_succ]
          refine take_run 15 (some 96) (v := ?_) rfl rfl (by kernel_rfl) (by kernel_rfl) (by kernel_rfl) (fun _ _ _ h => h) (by rfl) ?_ hHeld ?_
          rotate_left
          · ((intro w hSw); (try dsimp only at hSw); go_simp <;> with_reducible rfl)
          simp only [Act.put, List.setIfInBounds_toArray, List.set_cons_zero, List.set_cons_succ]
          refine take_run 16 (some 97) (v := ?_) rfl rfl (by kernel_rfl) (by kernel_rfl) (by kernel_rfl) (fun _ _ _ h => h) (by rfl) ?_ hHeld ?_
          rotate_left
          · ((intro w hSw); (try dsimp only at hSw); go_simp <;> with_reducible rfl)
          simp only [Act.put, List.setIfInBounds_toArray, List.set_cons_zero, List.set_cons_succ]
          refine take_run 17 (some 98) (v := ?_) rfl rfl (by kernel_rfl) (by kernel_rfl) (by kernel_rfl) (fun _ _ _ h => h) (by rfl) ?_ hHeld ?_
          rotate_left
          · ((intro w hSw); (try dsimp only at hSw); go_simp <;> with_reducible rfl)
          simp only [Act.put, List.setIfInBounds_toArray, List.set_cons_zero, List.set_cons_succ]
          refine take_run 18 (some 99) (v := ?_) rfl rfl (by kernel_rfl) (by kernel_rfl) (by kernel_rfl) (fun _ _ _ h => h) (by rfl) ?_ hHeld ?_
          rotate_left
          · ((intro w hSw); (try dsimp only at hSw); go_simp <;> with_reducible rfl)
          simp only [Act.put, List.setIfInBounds_toArray, List.set_cons_zero, List.set_cons_succ]
          refine take_run 19 (some 100) (v := ?_) rfl rfl (by kernel_rfl) (by kernel_rfl) (by kernel_rfl) (fun _ _ _ h => h) (by rfl) ?_ hHeld ?_
          rotate_left
          · ((intro w hSw); (try dsimp only at hSw); go_simp <;> with_reducible rfl)
          simp only [Act.put, List.setIfInBounds_toArray, List.set_cons_zero, List.set_cons_succ]
          refine take_one 20 (by kernel_rfl) rfl (fun K hK => ?_)
          go_simp
          ((refine (cfStore_same n9.sa nh.sa n9.sc nh.sc nh.ss.length n9.ss nh.ss _ hnl0 HSS.out.1 rfl HSS.out.2 HT9.out ((V9.out.on hHeld.2).up hHeld.2.size) ((V1.out.on hHeld.2).up hHeld.2.size)).mono ?_; rintro e wb16 ⟨rfl, hb⟩))
          try go_wp2_with fail
          refine hK.out _ _ (by exact ⟨⟨(B3o.on (hHeld.2.trans (hb.mono hHeld.2.size))).at 0, (hby.on (hHeld.2.trans (hb.mono hHeld.2.size))).at 0, ((CGY.out.blk.on (hHeld.2.trans (hb.mono hHeld.2.size))).at _).trans Q9.out.2, ((CGY.out.blk.on (hHeld.2.trans (hb.mono hHeld.2.size))).at _).trans Q9.out.1, ((CG1.out.blk.on (hHeld.2.trans (hb.mono hHeld.2.size))).at _).trans Q1.out⟩, hHeld.2.trans (hb.mono hHeld.2.size)⟩) (fun hHeld => ?_)
          clear hK K
          refine take_run 21 (some 102) (v := ?_) rfl rfl (by kernel_rfl) (by kernel_rfl) (by kernel_rfl) (fun _ _ _ h => h) (by rfl) ?_ hHeld ?_
          rotate_left
          · ((intro w hSw); (try dsimp only at hSw); go_simp <;> with_reducible rfl)
          simp only [Act.put, List.setIfInBounds_toArray, List.set_cons_zero, List.set_cons_succ]
          refine take_run 22 (some 103) (v := ?_) rfl rfl (by kernel_rfl) (by kernel_rfl) (by kernel_rfl) (fun _ _ _ h => h) (by rfl) ?_ hHeld ?_
          rotate_left
          · ((intro w hSw); (try dsimp only at hSw); go_simp <;> with_reducible rfl)
          simp only [Act.put, List.setIfInBounds_toArray, List.set_cons_zero, List.set_cons_succ]
          refine wpAnyH_done (by kernel_rfl) ?_ _
          refine NoPanic.normal ?_
          have hL2 := hHeld.2
          clear hHeld hL k9
          go_wp2
          exact ⟨⟨k + 1, by omega, by go_num, hL2⟩, by simp [intOf]; omega⟩
        · have hkn : k = ns.length := by omega
          subst hkn
          clear hlt
          go_wp2_with fail
          have CT := implChainOk_any (some ⟨Gy, 0, none⟩) c us _ (by have := HUL.out; omega) SMY.out (CYO.on hL)
          rw [HUL.out, HOKY.out] at CT
          refine CT.mono ?_
          clear CT
          rintro e w8 ⟨rfl, hb8⟩
          have L9 := L24.trans ((hL.trans (hb8.mono hL.size)).mono L24.size)
          clear hL hb8 k9
          go_wp2
          go_ret
          exact ⟨rfl, L9⟩

set_option maxRecDepth 100000 in
theorem lifted (os : Os) (started : os.Started) (H : Type) (enc : TypeId × Value → H) :
    ReturnsInHanded {} Try.checked os 5 .any (Rows.fnChainDrainSpec.pre6 enc Try.prog Try.f5 Rows.fnChainDrainRow.domain false) (Rows.fnChainDrainSpec.post enc Try.prog Try.f5 false true false false) := by
  refine returnsInHanded_of_change (C := Try.checked) own started (by kernel_rfl) Try.func5
    (ChangeSpec.witness6 (enc := enc) (C := Try.checked) false ⟨#[], #[.slice none 0 0], []⟩ 8 (by kernel_rfl) (by kernel_rfl) (by kernel_rfl) (by kernel_rfl)) ?_
  intro W base args ds gs before hval0 hW hcnd _
  have hval : ∀ (j : Nat) t v, Try.f5.params[j]? = some t → args[j]? = some v → Value.okWide Try.prog W .any base t v := hval0
  have hW' := hW
  obtain ⟨p, q, hA0, hV, rfl, hfz, hnd⟩ := hW
  have hA : DataW.TrodAll enc Try.prog W 0 (fun _ => true) true Try.f5.params.toList args.toList ds p := hA0
  rw [Try.params5] at hA hval
  have hK := hA
  obtain ⟨v0, vs0, d0, ds0, p0, q0, hargs, rfl, rfl, h0, r0⟩ := trodAll_cons hA
  obtain ⟨rfl, rfl, rfl⟩ := trodAll_nil r0
  obtain rfl : args = #[v0] := by cases args; simp_all
  obtain ⟨rfl, rfl⟩ := trodVars_none hV
  obtain ⟨a0, len0, cap0, rfl, b0⟩ := read_bytes (hval 0 22 v0 rfl rfl) h0
  clear hA0 hval0
  refine (walk a0 len0 cap0 W b0).mono fun e W' ⟨he, hb⟩ => ?_
  subst he
  have hK' := stay_all hb (by intro t ht; simp only [List.mem_cons, List.not_mem_nil, or_false] at ht; rcases ht with rfl <;> exact ⟨by kernel_rfl, of_decide_eq_true (by kernel_rfl)⟩) hK
  exact ⟨_, rfl, _, _, _, [], _, [], hW', trodAll_mk1 (shut_bool Try.underlying4 _), hK', rfl, hb.frame _, fun h => by cases h⟩

theorem over : Rows.fnChainDrainRow.holds Try.pinned (OpenSpec.ofChange Rows.fnChainDrainSpec) :=
  OpenClaim.holds_of_wide 5 Try.f5 rfl rfl rfl rfl rfl rfl rfl ⟨rfl, rfl, rfl, rfl, rfl⟩ rfl rfl rfl rfl rfl (by kernel_rfl) Try.func5
    (by refine joined_of ?_; kernel_rfl) (of_decide_eq_true (by kernel_rfl)) (by unfold Func.isWrapper; first | (rw [if_pos (by decide +kernel)]; kernel_rfl) | (rw [if_neg (by decide +kernel)]; exact ⟨rfl, rfl⟩))
    (fun os started H enc _ => lifted os started H enc)
end Go.Proofs.Ytjnloillcgeodaa.FnChainDrain
namespace Go.Proofs.Ytjnloillcgeodaa
/-- The statement itself. -/
theorem fnChainDrain_holds : Rows.FnChainDrainSaid := FnChainDrain.over
#print axioms fnChainDrain_holds
end Go.Proofs.Ytjnloillcgeodaa
namespace Go.Proofs.Ytjnloillcgeodaa.FnChainDrain
end Go.Proofs.Ytjnloillcgeodaa.FnChainDrain
