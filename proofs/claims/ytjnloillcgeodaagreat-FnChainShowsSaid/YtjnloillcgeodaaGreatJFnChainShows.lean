/- The law FnChainShows (promise 18) holds: of a drawn chain, a drawn node and a drawn key the program's ChainShows answers as the model's; of a chain that is ok the next node shows nothing later, and whichever node falls, what was shown, or something later, is there. No condition. -/
import Derived.Test.YtjnloillcgeodaaGreatJVerOk0
import Derived.Test.YtjnloillcgeodaaGreatJChainFall2
import Derived.Test.YtjnloillcgeodaaGreatJFnChainKit
import Derived.Test.YtjnloillcgeodaaGreatJChainFall
import Derived.Test.YtjnloillcgeodaaGreatJLift0
namespace Go.Proofs.YtjnloillcgeodaaGreat.FnChainShows
open Go.ChangeShapes Go.WideShapes Go.ChangeAt Go.RowKit Go.Joins
attribute [local go_sem ↓] Go.wp_at_zero Go.wp_at_succ

set_option maxRecDepth 100000 in
set_option maxHeartbeats 8000000 in
theorem walk (a : Option Addr) (len cap : Nat) (w : World) (hc : Code0 w a len cap) :
    Calls Tryz.prog 5 #[.slice a len cap] w fun e w' => e = .returned (.bool true) ∧ Below w.heap.size w w' := by
  by_cases h1 : 1048576 < len
  · have h1' : (1048576 : Int) < (len : Int) := by omega
    go_enter Tryz.func5, Tryz.ntmps5
    go_wp2
    go_ret
    exact ⟨rfl, Below.refl _ _⟩
  have h1' : (len : Int) ≤ 1048576 := by omega
  go_enter Tryz.func5, Tryz.ntmps5
  go_wp2_with fail
  refine (drawChainShows_any w a len cap hc (by omega)).mono ?_
  rintro e w1 ⟨A1, c1, ns, k, y, rfl, hf, hC1, hb1⟩
  have hnn : ns.length ≤ 1048576 := by have := hf.1; omega
  have SM := hide (fewN_sm hf)
  have LA := below_alloc1 w1 (.cells #[.slice A1 ns.length c1] 25)
  have B3 := Blk.made w1 25 #[.slice A1 ns.length c1]
  have CN := hC1.on LA
  have L0 := hb1.trans (LA.mono hb1.size)
  have k3 := B3.one.1
  clear hC1 LA hb1 hc hf
  go_wp2_with fail
  generalize w1.alloc (.cells #[.slice A1 ns.length c1] 25) = W1 at B3 CN L0 k3 ⊢
  generalize w1.heap.size = p3 at *
  with_reducible refine (implChainShows_any A1 c1 ns k y W1 hnn SM.out CN).mono ?_
  rintro e w2 ⟨v, rfl, hv5, ho5, hb2⟩
  have HV5 := hide hv5
  have LB := hb2.trans ((below_alloc1 w2 (.cells (verC v.k v.t v.u v.a v.ts.length v.c v.s v.g) 51)).mono hb2.size)
  replace B3 := B3.on LB
  have B5 := Blk.made w2 51 (verC v.k v.t v.u v.a v.ts.length v.c v.s v.g)
  replace CN := CN.on LB
  have T5 := (ho5.tg.on (below_alloc1 w2 (.cells (verC v.k v.t v.u v.a v.ts.length v.c v.s v.g) 51))).up (below_alloc1 w2 (.cells (verC v.k v.t v.u v.a v.ts.length v.c v.s v.g) 51)).size
  replace L0 := L0.trans (LB.mono L0.size)
  clear hv5 ho5 hb2
  replace k3 := B3.one.1
  go_wp2_with fail
  generalize w2.alloc (.cells (verC v.k v.t v.u v.a v.ts.length v.c v.s v.g) 51) = W2 at B3 B5 CN T5 L0 k3 LB ⊢
  generalize w2.heap.size = p5 at *
  clear LB
  with_reducible refine (specChainShows_any A1 c1 ns k y W2 hnn SM.out CN).mono ?_
  rintro e w3 ⟨u, rfl, hv7, ho7, hb3⟩
  have HLK := hide (vlike_trans HV5.out (vlike_symm hv7))
  have LD := hb3.trans ((below_alloc1 w3 (.cells (verC u.k u.t u.u u.a u.ts.length u.c u.s u.g) 51)).mono hb3.size)
  replace B3 := B3.on LD
  replace B5 := B5.on LD
  have B7 := Blk.made w3 51 (verC u.k u.t u.u u.a u.ts.length u.c u.s u.g)
  replace CN := CN.on LD
  replace T5 := (T5.on LD).up LD.size
  have T7 := (ho7.tg.on (below_alloc1 w3 (.cells (verC u.k u.t u.u u.a u.ts.length u.c u.s u.g) 51))).up (below_alloc1 w3 (.cells (verC u.k u.t u.u u.a u.ts.length u.c u.s u.g) 51)).size
  replace L0 := L0.trans (LD.mono L0.size)
  have k5 := B5.six.1
  clear hv7 ho7 hb3 k3
  go_wp2_with fail
  clear k5
  generalize w3.alloc (.cells (verC u.k u.t u.u u.a u.ts.length u.c u.s u.g) 51) = W at B3 B5 B7 CN T5 T7 L0 ⊢
  generalize w3.heap.size = p7 at *
  clear LD
  have HTS : Hid (v.ts.length ≤ 1048576) := by
    unfold Hid
    rw [HV5.out.2.2.2.1]
    cases ho : showsR ns k y with
    | none => simp [v0]
    | some vv =>
      obtain ⟨-, kn, yn, mi, n, -, -, -, -, -, hn, hvv⟩ := shows_parts ho
      exact (small_ss SM.out hn vv (List.mem_of_getElem? hvv)).1
  have HCF : Hid (∀ W', Below W.heap.size W W' → Calls Tryz.prog 22 #[.agg (verC v.k v.t v.u v.a v.ts.length v.c v.s v.g), .agg (verC u.k u.t u.u u.a u.ts.length u.c u.s u.g)] W' fun e w' => e = .returned (.bool true) ∧ Below W'.heap.size W' w') := fun W' hW => by
    obtain ⟨e1, e2, e3, e4, e5, e6⟩ := HLK.out
    have C := cfVer_same v.k v.t v.u v.a u.a v.c u.c v.ts v.s v.g W' HTS.out ((T5.on hW).up hW.size) (by rw [e4]; exact (T7.on hW).up hW.size)
    rw [← e1, ← e2, ← e3, ← e4, ← e5, ← e6]
    exact C
  have k5 := B5.six.1
  have k7 := B7.six.1
  with_reducible refine (HCF.out W (Below.refl _ _)).mono ?_
  rintro e w4 ⟨rfl, hb4⟩
  have LX := hb4
  clear hb4 k5 k7
  cases ho : showsR ns k y with
  | none =>
    have k5 := (B5.on LX).six.1
    have k7 := (B7.on LX).six.1
    simp only [Option.isSome_none]
    clear ho
    go_wp2_with fail
    with_reducible refine (HCF.out w4 LX).mono ?_
    rintro e w5 ⟨rfl, hb5⟩
    have L9 := L0.trans ((LX.trans (hb5.mono LX.size)).mono L0.size)
    clear hb5 k5 k7 LX
    go_wp2
    go_ret
    exact ⟨rfl, L9⟩
  | some vv =>
    obtain ⟨hok, kn, yn, mi, n, rfl, hkn, rfl, hyn, hmi, hn, hvv⟩ := shows_parts ho
    simp only [Option.isSome_some]
    have HOK := hide hok
    have HMI := hide hmi
    have HN := hide hn
    have HVV := hide hvv
    have hl4 := (chainB_parts hok).1.2
    have HLV : Hid (v.t = vv.t ∧ v.u = vv.u) := by
      have h := HV5.out
      rw [ho] at h
      exact ⟨h.2.1, h.2.2.1⟩
    clear ho hok hmi hn hvv HCF T7 B7 HV5 HLK T5
    have k3 := (B3.on LX).one.1
    by_cases hnx : kn + 1 < ns.length
    · obtain ⟨vn, hvn, hle⟩ := shows_next HOK.out hnx hyn HMI.out HN.out HVV.out
      have CS := hide (implChainShows_any A1 c1 ns ((kn : Int) + 1) (yn : Int) w4 hnn SM.out (CN.on LX))
      rw [hvn] at CS
      have HLE0 := hide hle
      have hnx' : (kn : Int) + 1 < (ns.length : Int) := by omega
      clear hvn hle
      go_wp2_with fail
      with_reducible refine CS.out.mono ?_
      rintro e w5 ⟨v9, rfl, hv9, -, hb5⟩
      have HLE : Hid (lessB v.t v.u v9.t v9.u = false) := by
        unfold Hid
        rw [HLV.out.1, HLV.out.2, hv9.2.1, hv9.2.2.1]
        exact HLE0.out
      have LA := below_alloc1 w5 (.cells (verC v9.k v9.t v9.u v9.a v9.ts.length v9.c v9.s v9.g) 51)
      have LY := LX.trans ((hb5.trans (LA.mono hb5.size)).mono LX.size)
      have B10 := Blk.made w5 51 (verC v9.k v9.t v9.u v9.a v9.ts.length v9.c v9.s v9.g)
      have k10 := B10.six.1
      have k5 := (B5.on LY).six.1
      clear hv9 CS LA hb5 LX k3
      go_wp2_with fail
      generalize w5.alloc (.cells (verC v9.k v9.t v9.u v9.a v9.ts.length v9.c v9.s v9.g) 51) = W10 at LY B10 k10 k5 ⊢
      refine (implTagLess_any _ _ _ _ _).mono ?_
      rintro e w6 ⟨rfl, hb6⟩
      rw [HLE.out]
      have LZ := LY.trans (hb6.mono LY.size)
      clear hb6 LY B10 k10 k5
      go_wp2_with fail
      have hL0 := LZ
      go_loopw [12] (fun i wr => ∃ j : Nat, j ≤ ns.length ∧ i = .int .i64 (j : Int) ∧ Below W.heap.size W wr) (fun i _ => ns.length - (intOf i).toNat)
      case atStart => exact ⟨0, Nat.zero_le _, rfl, hL0⟩
      case round =>
        clear hL0
        obtain ⟨j, hj, rfl, hL⟩ := hrel
        have k3 := (B3.on hL).one.1
        by_cases hlt : j < ns.length
        · have CF := implChainFall_any A1 c1 ns (j : Int) wr hnn SM.out (CN.on hL)
          by_cases h2 : 2 ≤ ns.length
          · have HE := fallN_yes (k := (j : Int)) HOK.out (by unfold fallB; rw [decide_eq_true h2, decide_eq_true (by omega)]; rfl)
            rw [Int.toNat_natCast] at HE
            obtain ⟨x, h, hx, hh, hle⟩ := shows_fall HOK.out h2 hlt hkn hyn HMI.out HN.out HVV.out
            have hfin := fine_chain (chain_fall HOK.out h2 hlt)
            have hs4 := storeB_four (nodeB_parts (hfin.2 0 x hx)).1
            obtain ⟨fl, hfl⟩ : ∃ fl, fl = (fallG ns j).length := ⟨_, rfl⟩
            have hfl1 : 0 < fl := by rw [hfl, fallG_len hlt]; omega
            rw [HE.1, HE.2] at CF
            have CG : Hid (Calls Tryz.prog 8 #[.agg #[.slice A1 ns.length c1], .int .i64 (j : Int)] wr fun e w' => ∃ (G cap : Nat) (b o sc : Nat) (h13 : V), e = .returned (.tuple #[.agg #[.slice (some ⟨G, 0, none⟩) fl cap], .bool true]) ∧ (w'.cell? ⟨G, 0, none⟩ = some (.slice (some ⟨b, o, none⟩) 4 sc) ∧ (w'.cell? ⟨b, o + yn * 6 + 1, none⟩ = some (.int .i64 h13.t) ∧ w'.cell? ⟨b, o + yn * 6 + 2, none⟩ = some (.int .i64 h13.u)) ∧ G < w'.heap.size ∧ b < w'.heap.size) ∧ lessB h13.t h13.u v.t v.u = false ∧ Below wr.heap.size wr w') := by
              refine CF.mono ?_
              rintro e w' ⟨A, cap, us, he, h1, h3, h4⟩
              obtain ⟨n13, hn13, hlk⟩ := nl_at (nl_symm h1) hx
              obtain ⟨G, cur, rfl, hg⟩ := cgA_at h3.cg (by have := (List.getElem?_eq_some_iff.1 hn13).1; omega)
              have hl13 : n13.ss.length = 4 := by rw [← hlk.1]; exact hs4
              obtain ⟨h13, hh13, hlh⟩ := ll_at (us := x.ss) (us' := n13.ss) ⟨hlk.1, hlk.2.1⟩ hh
              have h0 := (hg.at' 0 n13 hn13).1
              rw [hl13] at h0
              rcases hg.store 0 n13 hn13 with q | ⟨b, o, hb, hblt, hsix⟩
              · rw [q] at hl13
                simp at hl13
              · rw [hb] at h0
                have h6 := (hsix yn h13 hh13).1
                exact ⟨G, cap, b, o, n13.sc, h13, by rw [he, hfl], ⟨(hg.blk.at _).trans h0, ⟨h6.2.1, h6.2.2.1⟩, hg.blk.inside, hblt⟩, by rw [← hlh.2.1, ← hlh.2.2.1, HLV.out.1, HLV.out.2]; exact hle, h4⟩
            clear CF HE hx hh hle hfin hs4 hfl
            go_wp2_with fail
            with_reducible refine CG.out.mono ?_
            rintro e w8 ⟨G13, cap13, b13, o13, sc13, h13, rfl, ⟨hc0, ⟨hc1, hc2⟩, hG13, hb13⟩, hle, hb8⟩
            have HLE := hide hle
            have LA := below_alloc1 w8 (.cells #[.slice (some ⟨G13, 0, none⟩) fl cap13] 25)
            have L13 := hL.trans ((hb8.trans (LA.mono hb8.size)).mono hL.size)
            have B13 := Blk.made w8 25 #[.slice (some ⟨G13, 0, none⟩) fl cap13]
            have B5' := B5.on L13
            have HC0 := hide ((LA.cell (p := ⟨G13, 0, none⟩) hG13).trans hc0)
            have HC1 := hide ((LA.cell (p := ⟨b13, o13 + yn * 6 + 1, none⟩) hb13).trans hc1)
            have HC2 := hide ((LA.cell (p := ⟨b13, o13 + yn * 6 + 2, none⟩) hb13).trans hc2)
            have zA : w8.heap.size < (w8.alloc (.cells #[.slice (some ⟨G13, 0, none⟩) fl cap13] 25)).heap.size := by simp
            clear hle hc0 hc1 hc2 LA hb8 k3 CG
            go_wp2_with fail
            generalize w8.alloc (.cells #[.slice (some ⟨G13, 0, none⟩) fl cap13] 25) = W13 at L13 B13 B5' HC0 HC1 HC2 zA ⊢
            have hg9 : G13 < W13.heap.size := by omega
            have hb9 : b13 < W13.heap.size := by omega
            generalize w8.heap.size = p13 at B13 ⊢
            have LR := Below.refl W13.heap.size W13
            have i1 : (0 : Int) ≤ (yn : Int) := by omega
            have i2 : (yn : Int) < 4 := by omega
            refine wp_region_noPanic ?_
            refine wp_region_held_drew (S := (fun w' => (w'.cell? ⟨p13, 0, none⟩ = some (.slice (some ⟨G13, 0, none⟩) fl cap13) ∧ w'.cell? ⟨G13, 0, none⟩ = some (.slice (some ⟨b13, o13, none⟩) 4 sc13) ∧ w'.cell? ⟨b13, o13 + yn * 6 + 1, none⟩ = some (.int .i64 h13.t) ∧ w'.cell? ⟨b13, o13 + yn * 6 + 2, none⟩ = some (.int .i64 h13.u) ∧ w'.cell? ⟨p5, 1, none⟩ = some (.int .i64 v.t) ∧ w'.cell? ⟨p5, 2, none⟩ = some (.int .i64 v.u)) ∧ Below W13.heap.size W13 w')) (by kernel_rfl) (by exact ⟨⟨(B13.on ((LR).drew)).at 0, (((LR).drew).cell (p := ⟨G13, 0, none⟩) hg9).trans HC0.out, (((LR).drew).cell (p := ⟨b13, o13 + yn * 6 + 1, none⟩) hb9).trans HC1.out, (((LR).drew).cell (p := ⟨b13, o13 + yn * 6 + 2, none⟩) hb9).trans HC2.out, (B5'.on ((LR).drew)).at 1, (B5'.on ((LR).drew)).at 2⟩, (LR).drew⟩) (fun hHeld => ?_)
            refine take_run 0 (some 91) (v := ?_) rfl rfl (by kernel_rfl) (by kernel_rfl) (by kernel_rfl) (fun _ _ _ h => h) (by rfl) ?_ hHeld ?_
            rotate_left
            · ((intro w hSw); (try dsimp only at hSw); go_simp <;> with_reducible rfl)
            simp only [Act.put, List.setIfInBounds_toArray, List.set_cons_zero, List.set_cons_succ]
            refine take_run 1 (some 92) (v := ?_) rfl rfl (by kernel_rfl) (by kernel_rfl) (by kernel_rfl) (fun _ _ _ h => h) (by rfl) ?_ hHeld ?_
            rotate_left
            · ((intro w hSw); (try dsimp only at hSw); go_simp <;> with_reducible rfl)
            simp only [Act.put, List.setIfInBounds_toArray, List.set_cons_zero, List.set_cons_succ]
            refine take_run 2 (some 93) (v := ?_) rfl rfl (by kernel_rfl) (by kernel_rfl) (by kernel_rfl) (fun _ _ _ h => h) (by rfl) ?_ hHeld ?_
            rotate_left
            · ((intro w hSw); (try dsimp only at hSw); go_simp <;> with_reducible rfl)
            simp only [Act.put, List.setIfInBounds_toArray, List.set_cons_zero, List.set_cons_succ]
            refine take_run 3 (some 94) (v := ?_) rfl rfl (by kernel_rfl) (by kernel_rfl) (by kernel_rfl) (fun _ _ _ h => h) (by rfl) ?_ hHeld ?_
            rotate_left
            · ((intro w hSw); (try dsimp only at hSw); go_simp <;> with_reducible rfl)
            simp only [Act.put, List.setIfInBounds_toArray, List.set_cons_zero, List.set_cons_succ]
            refine take_run 4 (some 95) (v := ?_) rfl rfl (by kernel_rfl) (by kernel_rfl) (by kernel_rfl) (fun _ _ _ h => h) (by rfl) ?_ hHeld ?_
            rotate_left
            · ((intro w hSw); (try dsimp only at hSw); go_simp <;> with_reducible rfl)
            simp only [Act.put, List.setIfInBounds_toArray, List.set_cons_zero, List.set_cons_succ]
            refine take_run 5 (some 96) (v := ?_) rfl rfl (by kernel_rfl) (by kernel_rfl) (by kernel_rfl) (fun _ _ _ h => h) (by rfl) ?_ hHeld ?_
            rotate_left
            · ((intro w hSw); (try dsimp only at hSw); go_simp <;> with_reducible rfl)
            simp only [Act.put, List.setIfInBounds_toArray, List.set_cons_zero, List.set_cons_succ]
            refine take_run 6 (some 97) (v := ?_) rfl rfl (by kernel_rfl) (by kernel_rfl) (by kernel_rfl) (fun _ _ _ h => h) (by rfl) ?_ hHeld ?_
            rotate_left
            · ((intro w hSw); (try dsimp only at hSw); go_simp <;> with_reducible rfl)
            simp only [Act.put, List.setIfInBounds_toArray, List.set_cons_zero, List.set_cons_succ]
            refine take_run 7 (some 98) (v := ?_) rfl rfl (by kernel_rfl) (by kernel_rfl) (by kernel_rfl) (fun _ _ _ h => h) (by rfl) ?_ hHeld ?_
            rotate_left
            · ((intro w hSw); (try dsimp only at hSw); go_simp <;> with_reducible rfl)
            simp only [Act.put, List.setIfInBounds_toArray, List.set_cons_zero, List.set_cons_succ]
            refine take_run 8 (some 99) (v := ?_) rfl rfl (by kernel_rfl) (by kernel_rfl) (by kernel_rfl) (fun _ _ _ h => h) (by rfl) ?_ hHeld ?_
            rotate_left
            · ((intro w hSw); (try dsimp only at hSw); go_simp <;> with_reducible rfl)
            simp only [Act.put, List.setIfInBounds_toArray, List.set_cons_zero, List.set_cons_succ]
            refine take_run 9 (some 100) (v := ?_) rfl rfl (by kernel_rfl) (by kernel_rfl) (by kernel_rfl) (fun _ _ _ h => h) (by rfl) ?_ hHeld ?_
            rotate_left
            · ((intro w hSw); (try dsimp only at hSw); go_simp <;> with_reducible rfl)
            simp only [Act.put, List.setIfInBounds_toArray, List.set_cons_zero, List.set_cons_succ]
            refine take_run 10 (some 101) (v := ?_) rfl rfl (by kernel_rfl) (by kernel_rfl) (by kernel_rfl) (fun _ _ _ h => h) (by rfl) ?_ hHeld ?_
            rotate_left
            · ((intro w hSw); (try dsimp only at hSw); go_simp <;> with_reducible rfl)
            simp only [Act.put, List.setIfInBounds_toArray, List.set_cons_zero, List.set_cons_succ]
            refine take_run 11 (some 102) (v := ?_) rfl rfl (by kernel_rfl) (by kernel_rfl) (by kernel_rfl) (fun _ _ _ h => h) (by rfl) ?_ hHeld ?_
            rotate_left
            · ((intro w hSw); (try dsimp only at hSw); go_simp <;> with_reducible rfl)
            simp only [Act.put, List.setIfInBounds_toArray, List.set_cons_zero, List.set_cons_succ]
            refine take_run 12 (some 103) (v := ?_) rfl rfl (by kernel_rfl) (by kernel_rfl) (by kernel_rfl) (fun _ _ _ h => h) (by rfl) ?_ hHeld ?_
            rotate_left
            · ((intro w hSw); (try dsimp only at hSw); go_simp <;> with_reducible rfl)
            simp only [Act.put, List.setIfInBounds_toArray, List.set_cons_zero, List.set_cons_succ]
            refine take_run 13 (some 104) (v := ?_) rfl rfl (by kernel_rfl) (by kernel_rfl) (by kernel_rfl) (fun _ _ _ h => h) (by rfl) ?_ hHeld ?_
            rotate_left
            · ((intro w hSw); (try dsimp only at hSw); go_simp <;> with_reducible rfl)
            simp only [Act.put, List.setIfInBounds_toArray, List.set_cons_zero, List.set_cons_succ]
            refine take_one 14 (by kernel_rfl) rfl (fun K hK => ?_)
            go_simp
            ((refine (implTagLess_any _ _ _ _ _).mono ?_; rintro e w9 ⟨rfl, hb⟩; rw [HLE.out]))
            try go_wp2_with fail
            refine hK.out _ _ (by exact ⟨⟨(B13.on (hHeld.2.trans (hb.mono hHeld.2.size))).at 0, ((hHeld.2.trans (hb.mono hHeld.2.size)).cell (p := ⟨G13, 0, none⟩) hg9).trans HC0.out, ((hHeld.2.trans (hb.mono hHeld.2.size)).cell (p := ⟨b13, o13 + yn * 6 + 1, none⟩) hb9).trans HC1.out, ((hHeld.2.trans (hb.mono hHeld.2.size)).cell (p := ⟨b13, o13 + yn * 6 + 2, none⟩) hb9).trans HC2.out, (B5'.on (hHeld.2.trans (hb.mono hHeld.2.size))).at 1, (B5'.on (hHeld.2.trans (hb.mono hHeld.2.size))).at 2⟩, hHeld.2.trans (hb.mono hHeld.2.size)⟩) (fun hHeld => ?_)
            clear hK K
            refine take_run 15 (some 106) (v := ?_) rfl rfl (by kernel_rfl) (by kernel_rfl) (by kernel_rfl) (fun _ _ _ h => h) (by rfl) ?_ hHeld ?_
            rotate_left
            · ((intro w hSw); (try dsimp only at hSw); go_simp <;> with_reducible rfl)
            simp only [Act.put, List.setIfInBounds_toArray, List.set_cons_zero, List.set_cons_succ]
            refine wpAnyH_done (by kernel_rfl) ?_ _
            refine NoPanic.normal ?_
            have hL2 := L13.trans (hHeld.2.mono L13.size)
            clear hHeld hL L13 LR
            go_wp2
            exact ⟨⟨j + 1, by omega, by go_num, hL2⟩, by simp [intOf]; omega⟩
          · exact absurd hnx (by omega)
        · have hjn : j = ns.length := by omega
          subst hjn
          clear hlt
          have L9 := L0.trans (hL.mono L0.size)
          clear hL
          go_wp2
          go_ret
          exact ⟨rfl, L9⟩
    · have hnx' : ¬ (kn : Int) + 1 < (ns.length : Int) := by omega
      go_wp2_with fail
      clear k3
      have hL0 := LX
      go_loopw [12] (fun i wr => ∃ j : Nat, j ≤ ns.length ∧ i = .int .i64 (j : Int) ∧ Below W.heap.size W wr) (fun i _ => ns.length - (intOf i).toNat)
      case atStart => exact ⟨0, Nat.zero_le _, rfl, hL0⟩
      case round =>
        clear hL0
        obtain ⟨j, hj, rfl, hL⟩ := hrel
        have k3 := (B3.on hL).one.1
        by_cases hlt : j < ns.length
        · have CF := implChainFall_any A1 c1 ns (j : Int) wr hnn SM.out (CN.on hL)
          by_cases h2 : 2 ≤ ns.length
          · have HE := fallN_yes (k := (j : Int)) HOK.out (by unfold fallB; rw [decide_eq_true h2, decide_eq_true (by omega)]; rfl)
            rw [Int.toNat_natCast] at HE
            obtain ⟨x, h, hx, hh, hle⟩ := shows_fall HOK.out h2 hlt hkn hyn HMI.out HN.out HVV.out
            have hfin := fine_chain (chain_fall HOK.out h2 hlt)
            have hs4 := storeB_four (nodeB_parts (hfin.2 0 x hx)).1
            obtain ⟨fl, hfl⟩ : ∃ fl, fl = (fallG ns j).length := ⟨_, rfl⟩
            have hfl1 : 0 < fl := by rw [hfl, fallG_len hlt]; omega
            rw [HE.1, HE.2] at CF
            have CG : Hid (Calls Tryz.prog 8 #[.agg #[.slice A1 ns.length c1], .int .i64 (j : Int)] wr fun e w' => ∃ (G cap : Nat) (b o sc : Nat) (h13 : V), e = .returned (.tuple #[.agg #[.slice (some ⟨G, 0, none⟩) fl cap], .bool true]) ∧ (w'.cell? ⟨G, 0, none⟩ = some (.slice (some ⟨b, o, none⟩) 4 sc) ∧ (w'.cell? ⟨b, o + yn * 6 + 1, none⟩ = some (.int .i64 h13.t) ∧ w'.cell? ⟨b, o + yn * 6 + 2, none⟩ = some (.int .i64 h13.u)) ∧ G < w'.heap.size ∧ b < w'.heap.size) ∧ lessB h13.t h13.u v.t v.u = false ∧ Below wr.heap.size wr w') := by
              refine CF.mono ?_
              rintro e w' ⟨A, cap, us, he, h1, h3, h4⟩
              obtain ⟨n13, hn13, hlk⟩ := nl_at (nl_symm h1) hx
              obtain ⟨G, cur, rfl, hg⟩ := cgA_at h3.cg (by have := (List.getElem?_eq_some_iff.1 hn13).1; omega)
              have hl13 : n13.ss.length = 4 := by rw [← hlk.1]; exact hs4
              obtain ⟨h13, hh13, hlh⟩ := ll_at (us := x.ss) (us' := n13.ss) ⟨hlk.1, hlk.2.1⟩ hh
              have h0 := (hg.at' 0 n13 hn13).1
              rw [hl13] at h0
              rcases hg.store 0 n13 hn13 with q | ⟨b, o, hb, hblt, hsix⟩
              · rw [q] at hl13
                simp at hl13
              · rw [hb] at h0
                have h6 := (hsix yn h13 hh13).1
                exact ⟨G, cap, b, o, n13.sc, h13, by rw [he, hfl], ⟨(hg.blk.at _).trans h0, ⟨h6.2.1, h6.2.2.1⟩, hg.blk.inside, hblt⟩, by rw [← hlh.2.1, ← hlh.2.2.1, HLV.out.1, HLV.out.2]; exact hle, h4⟩
            clear CF HE hx hh hle hfin hs4 hfl
            go_wp2_with fail
            with_reducible refine CG.out.mono ?_
            rintro e w8 ⟨G13, cap13, b13, o13, sc13, h13, rfl, ⟨hc0, ⟨hc1, hc2⟩, hG13, hb13⟩, hle, hb8⟩
            have HLE := hide hle
            have LA := below_alloc1 w8 (.cells #[.slice (some ⟨G13, 0, none⟩) fl cap13] 25)
            have L13 := hL.trans ((hb8.trans (LA.mono hb8.size)).mono hL.size)
            have B13 := Blk.made w8 25 #[.slice (some ⟨G13, 0, none⟩) fl cap13]
            have B5' := B5.on L13
            have HC0 := hide ((LA.cell (p := ⟨G13, 0, none⟩) hG13).trans hc0)
            have HC1 := hide ((LA.cell (p := ⟨b13, o13 + yn * 6 + 1, none⟩) hb13).trans hc1)
            have HC2 := hide ((LA.cell (p := ⟨b13, o13 + yn * 6 + 2, none⟩) hb13).trans hc2)
            have zA : w8.heap.size < (w8.alloc (.cells #[.slice (some ⟨G13, 0, none⟩) fl cap13] 25)).heap.size := by simp
            clear hle hc0 hc1 hc2 LA hb8 k3 CG
            go_wp2_with fail
            generalize w8.alloc (.cells #[.slice (some ⟨G13, 0, none⟩) fl cap13] 25) = W13 at L13 B13 B5' HC0 HC1 HC2 zA ⊢
            have hg9 : G13 < W13.heap.size := by omega
            have hb9 : b13 < W13.heap.size := by omega
            generalize w8.heap.size = p13 at B13 ⊢
            have LR := Below.refl W13.heap.size W13
            have i1 : (0 : Int) ≤ (yn : Int) := by omega
            have i2 : (yn : Int) < 4 := by omega
            refine wp_region_noPanic ?_
            refine wp_region_held_drew (S := (fun w' => (w'.cell? ⟨p13, 0, none⟩ = some (.slice (some ⟨G13, 0, none⟩) fl cap13) ∧ w'.cell? ⟨G13, 0, none⟩ = some (.slice (some ⟨b13, o13, none⟩) 4 sc13) ∧ w'.cell? ⟨b13, o13 + yn * 6 + 1, none⟩ = some (.int .i64 h13.t) ∧ w'.cell? ⟨b13, o13 + yn * 6 + 2, none⟩ = some (.int .i64 h13.u) ∧ w'.cell? ⟨p5, 1, none⟩ = some (.int .i64 v.t) ∧ w'.cell? ⟨p5, 2, none⟩ = some (.int .i64 v.u)) ∧ Below W13.heap.size W13 w')) (by kernel_rfl) (by exact ⟨⟨(B13.on ((LR).drew)).at 0, (((LR).drew).cell (p := ⟨G13, 0, none⟩) hg9).trans HC0.out, (((LR).drew).cell (p := ⟨b13, o13 + yn * 6 + 1, none⟩) hb9).trans HC1.out, (((LR).drew).cell (p := ⟨b13, o13 + yn * 6 + 2, none⟩) hb9).trans HC2.out, (B5'.on ((LR).drew)).at 1, (B5'.on ((LR).drew)).at 2⟩, (LR).drew⟩) (fun hHeld => ?_)
            refine take_run 0 (some 91) (v := ?_) rfl rfl (by kernel_rfl) (by kernel_rfl) (by kernel_rfl) (fun _ _ _ h => h) (by rfl) ?_ hHeld ?_
            rotate_left
            · ((intro w hSw); (try dsimp only at hSw); go_simp <;> with_reducible rfl)
            simp only [Act.put, List.setIfInBounds_toArray, List.set_cons_zero, List.set_cons_succ]
            refine take_run 1 (some 92) (v := ?_) rfl rfl (by kernel_rfl) (by kernel_rfl) (by kernel_rfl) (fun _ _ _ h => h) (by rfl) ?_ hHeld ?_
            rotate_left
            · ((intro w hSw); (try dsimp only at hSw); go_simp <;> with_reducible rfl)
            simp only [Act.put, List.setIfInBounds_toArray, List.set_cons_zero, List.set_cons_succ]
            refine take_run 2 (some 93) (v := ?_) rfl rfl (by kernel_rfl) (by kernel_rfl) (by kernel_rfl) (fun _ _ _ h => h) (by rfl) ?_ hHeld ?_
            rotate_left
            · ((intro w hSw); (try dsimp only at hSw); go_simp <;> with_reducible rfl)
            simp only [Act.put, List.setIfInBounds_toArray, List.set_cons_zero, List.set_cons_succ]
            refine take_run 3 (some 94) (v := ?_) rfl rfl (by kernel_rfl) (by kernel_rfl) (by kernel_rfl) (fun _ _ _ h => h) (by rfl) ?_ hHeld ?_
            rotate_left
            · ((intro w hSw); (try dsimp only at hSw); go_simp <;> with_reducible rfl)
            simp only [Act.put, List.setIfInBounds_toArray, List.set_cons_zero, List.set_cons_succ]
            refine take_run 4 (some 95) (v := ?_) rfl rfl (by kernel_rfl) (by kernel_rfl) (by kernel_rfl) (fun _ _ _ h => h) (by rfl) ?_ hHeld ?_
            rotate_left
            · ((intro w hSw); (try dsimp only at hSw); go_simp <;> with_reducible rfl)
            simp only [Act.put, List.setIfInBounds_toArray, List.set_cons_zero, List.set_cons_succ]
            refine take_run 5 (some 96) (v := ?_) rfl rfl (by kernel_rfl) (by kernel_rfl) (by kernel_rfl) (fun _ _ _ h => h) (by rfl) ?_ hHeld ?_
            rotate_left
            · ((intro w hSw); (try dsimp only at hSw); go_simp <;> with_reducible rfl)
            simp only [Act.put, List.setIfInBounds_toArray, List.set_cons_zero, List.set_cons_succ]
            refine take_run 6 (some 97) (v := ?_) rfl rfl (by kernel_rfl) (by kernel_rfl) (by kernel_rfl) (fun _ _ _ h => h) (by rfl) ?_ hHeld ?_
            rotate_left
            · ((intro w hSw); (try dsimp only at hSw); go_simp <;> with_reducible rfl)
            simp only [Act.put, List.setIfInBounds_toArray, List.set_cons_zero, List.set_cons_succ]
            refine take_run 7 (some 98) (v := ?_) rfl rfl (by kernel_rfl) (by kernel_rfl) (by kernel_rfl) (fun _ _ _ h => h) (by rfl) ?_ hHeld ?_
            rotate_left
            · ((intro w hSw); (try dsimp only at hSw); go_simp <;> with_reducible rfl)
            simp only [Act.put, List.setIfInBounds_toArray, List.set_cons_zero, List.set_cons_succ]
            refine take_run 8 (some 99) (v := ?_) rfl rfl (by kernel_rfl) (by kernel_rfl) (by kernel_rfl) (fun _ _ _ h => h) (by rfl) ?_ hHeld ?_
            rotate_left
            · ((intro w hSw); (try dsimp only at hSw); go_simp <;> with_reducible rfl)
            simp only [Act.put, List.setIfInBounds_toArray, List.set_cons_zero, List.set_cons_succ]
            refine take_run 9 (some 100) (v := ?_) rfl rfl (by kernel_rfl) (by kernel_rfl) (by kernel_rfl) (fun _ _ _ h => h) (by rfl) ?_ hHeld ?_
            rotate_left
            · ((intro w hSw); (try dsimp only at hSw); go_simp <;> with_reducible rfl)
            simp only [Act.put, List.setIfInBounds_toArray, List.set_cons_zero, List.set_cons_succ]
            refine take_run 10 (some 101) (v := ?_) rfl rfl (by kernel_rfl) (by kernel_rfl) (by kernel_rfl) (fun _ _ _ h => h) (by rfl) ?_ hHeld ?_
            rotate_left
            · ((intro w hSw); (try dsimp only at hSw); go_simp <;> with_reducible rfl)
            simp only [Act.put, List.setIfInBounds_toArray, List.set_cons_zero, List.set_cons_succ]
            refine take_run 11 (some 102) (v := ?_) rfl rfl (by kernel_rfl) (by kernel_rfl) (by kernel_rfl) (fun _ _ _ h => h) (by rfl) ?_ hHeld ?_
            rotate_left
            · ((intro w hSw); (try dsimp only at hSw); go_simp <;> with_reducible rfl)
            simp only [Act.put, List.setIfInBounds_toArray, List.set_cons_zero, List.set_cons_succ]
            refine take_run 12 (some 103) (v := ?_) rfl rfl (by kernel_rfl) (by kernel_rfl) (by kernel_rfl) (fun _ _ _ h => h) (by rfl) ?_ hHeld ?_
            rotate_left
            · ((intro w hSw); (try dsimp only at hSw); go_simp <;> with_reducible rfl)
            simp only [Act.put, List.setIfInBounds_toArray, List.set_cons_zero, List.set_cons_succ]
            refine take_run 13 (some 104) (v := ?_) rfl rfl (by kernel_rfl) (by kernel_rfl) (by kernel_rfl) (fun _ _ _ h => h) (by rfl) ?_ hHeld ?_
            rotate_left
            · ((intro w hSw); (try dsimp only at hSw); go_simp <;> with_reducible rfl)
            simp only [Act.put, List.setIfInBounds_toArray, List.set_cons_zero, List.set_cons_succ]
            refine take_one 14 (by kernel_rfl) rfl (fun K hK => ?_)
            go_simp
            ((refine (implTagLess_any _ _ _ _ _).mono ?_; rintro e w9 ⟨rfl, hb⟩; rw [HLE.out]))
            try go_wp2_with fail
            refine hK.out _ _ (by exact ⟨⟨(B13.on (hHeld.2.trans (hb.mono hHeld.2.size))).at 0, ((hHeld.2.trans (hb.mono hHeld.2.size)).cell (p := ⟨G13, 0, none⟩) hg9).trans HC0.out, ((hHeld.2.trans (hb.mono hHeld.2.size)).cell (p := ⟨b13, o13 + yn * 6 + 1, none⟩) hb9).trans HC1.out, ((hHeld.2.trans (hb.mono hHeld.2.size)).cell (p := ⟨b13, o13 + yn * 6 + 2, none⟩) hb9).trans HC2.out, (B5'.on (hHeld.2.trans (hb.mono hHeld.2.size))).at 1, (B5'.on (hHeld.2.trans (hb.mono hHeld.2.size))).at 2⟩, hHeld.2.trans (hb.mono hHeld.2.size)⟩) (fun hHeld => ?_)
            clear hK K
            refine take_run 15 (some 106) (v := ?_) rfl rfl (by kernel_rfl) (by kernel_rfl) (by kernel_rfl) (fun _ _ _ h => h) (by rfl) ?_ hHeld ?_
            rotate_left
            · ((intro w hSw); (try dsimp only at hSw); go_simp <;> with_reducible rfl)
            simp only [Act.put, List.setIfInBounds_toArray, List.set_cons_zero, List.set_cons_succ]
            refine wpAnyH_done (by kernel_rfl) ?_ _
            refine NoPanic.normal ?_
            have hL2 := L13.trans (hHeld.2.mono L13.size)
            clear hHeld hL L13 LR
            go_wp2
            exact ⟨⟨j + 1, by omega, by go_num, hL2⟩, by simp [intOf]; omega⟩
          · have HE : fallK ns (j : Int) = false := (fallN_not HOK.out (by unfold fallB; rw [decide_eq_false h2, Bool.false_and])).2
            rw [HE] at CF
            have HCF := hide CF
            clear CF HE
            go_wp2_with fail
            with_reducible refine HCF.out.mono ?_
            rintro e w8 ⟨A13, cap13, us13, rfl, -, -, hb8⟩
            have LA := below_alloc1 w8 (.cells #[.slice A13 (fallN ns (j : Int)).length cap13] 25)
            have L13 := hL.trans ((hb8.trans (LA.mono hb8.size)).mono hL.size)
            have B13 := Blk.made w8 25 #[.slice A13 (fallN ns (j : Int)).length cap13]
            clear LA hb8 k3 HCF
            go_wp2_with fail
            generalize w8.alloc (.cells #[.slice A13 (fallN ns (j : Int)).length cap13] 25) = W13 at L13 B13 ⊢
            generalize w8.heap.size = p13 at B13 ⊢
            have LR := Below.refl W13.heap.size W13
            refine wp_region_noPanic ?_
            refine wp_region_held_drew (S := (fun w' => w'.cell? ⟨p13, 0, none⟩ = some (.slice A13 (fallN ns (j : Int)).length cap13) ∧ Below W13.heap.size W13 w')) (by kernel_rfl) (by exact ⟨(B13.on ((LR).drew)).at 0, (LR).drew⟩) (fun hHeld => ?_)
            refine take_run 0 (some 91) (v := ?_) rfl rfl (by kernel_rfl) (by kernel_rfl) (by kernel_rfl) (fun _ _ _ h => h) (by rfl) ?_ hHeld ?_
            rotate_left
            · ((intro w hSw); (try dsimp only at hSw); go_simp <;> with_reducible rfl)
            simp only [Act.put, List.setIfInBounds_toArray, List.set_cons_zero, List.set_cons_succ]
            refine take_run 1 (some 92) (v := ?_) rfl rfl (by kernel_rfl) (by kernel_rfl) (by kernel_rfl) (fun _ _ _ h => h) (by rfl) ?_ hHeld ?_
            rotate_left
            · ((intro w hSw); (try dsimp only at hSw); go_simp <;> with_reducible rfl)
            simp only [Act.put, List.setIfInBounds_toArray, List.set_cons_zero, List.set_cons_succ]
            refine take_skip 2 (some 93) rfl rfl (by kernel_rfl) (by kernel_rfl) (by kernel_rfl) (fun _ _ _ h => h) (by rfl) hHeld ?_
            simp only [Act.put, List.setIfInBounds_toArray, List.set_cons_zero, List.set_cons_succ]
            refine take_skip 3 (some 94) rfl rfl (by kernel_rfl) (by kernel_rfl) (by kernel_rfl) (fun _ _ _ h => h) (by rfl) hHeld ?_
            simp only [Act.put, List.setIfInBounds_toArray, List.set_cons_zero, List.set_cons_succ]
            refine take_skip 4 (some 95) rfl rfl (by kernel_rfl) (by kernel_rfl) (by kernel_rfl) (fun _ _ _ h => h) (by rfl) hHeld ?_
            simp only [Act.put, List.setIfInBounds_toArray, List.set_cons_zero, List.set_cons_succ]
            refine take_skip 5 (some 96) rfl rfl (by kernel_rfl) (by kernel_rfl) (by kernel_rfl) (fun _ _ _ h => h) (by rfl) hHeld ?_
            simp only [Act.put, List.setIfInBounds_toArray, List.set_cons_zero, List.set_cons_succ]
            refine take_skip 6 (some 97) rfl rfl (by kernel_rfl) (by kernel_rfl) (by kernel_rfl) (fun _ _ _ h => h) (by rfl) hHeld ?_
            simp only [Act.put, List.setIfInBounds_toArray, List.set_cons_zero, List.set_cons_succ]
            refine take_skip 7 (some 98) rfl rfl (by kernel_rfl) (by kernel_rfl) (by kernel_rfl) (fun _ _ _ h => h) (by rfl) hHeld ?_
            simp only [Act.put, List.setIfInBounds_toArray, List.set_cons_zero, List.set_cons_succ]
            refine take_skip 8 (some 99) rfl rfl (by kernel_rfl) (by kernel_rfl) (by kernel_rfl) (fun _ _ _ h => h) (by rfl) hHeld ?_
            simp only [Act.put, List.setIfInBounds_toArray, List.set_cons_zero, List.set_cons_succ]
            refine take_skip 9 (some 100) rfl rfl (by kernel_rfl) (by kernel_rfl) (by kernel_rfl) (fun _ _ _ h => h) (by rfl) hHeld ?_
            simp only [Act.put, List.setIfInBounds_toArray, List.set_cons_zero, List.set_cons_succ]
            refine take_skip 10 (some 101) rfl rfl (by kernel_rfl) (by kernel_rfl) (by kernel_rfl) (fun _ _ _ h => h) (by rfl) hHeld ?_
            simp only [Act.put, List.setIfInBounds_toArray, List.set_cons_zero, List.set_cons_succ]
            refine take_skip 11 (some 102) rfl rfl (by kernel_rfl) (by kernel_rfl) (by kernel_rfl) (fun _ _ _ h => h) (by rfl) hHeld ?_
            simp only [Act.put, List.setIfInBounds_toArray, List.set_cons_zero, List.set_cons_succ]
            refine take_skip 12 (some 103) rfl rfl (by kernel_rfl) (by kernel_rfl) (by kernel_rfl) (fun _ _ _ h => h) (by rfl) hHeld ?_
            simp only [Act.put, List.setIfInBounds_toArray, List.set_cons_zero, List.set_cons_succ]
            refine take_skip 13 (some 104) rfl rfl (by kernel_rfl) (by kernel_rfl) (by kernel_rfl) (fun _ _ _ h => h) (by rfl) hHeld ?_
            simp only [Act.put, List.setIfInBounds_toArray, List.set_cons_zero, List.set_cons_succ]
            refine take_skip 14 (some 105) rfl rfl (by kernel_rfl) (by kernel_rfl) (by kernel_rfl) (fun _ _ _ h => h) (by rfl) hHeld ?_
            simp only [Act.put, List.setIfInBounds_toArray, List.set_cons_zero, List.set_cons_succ]
            refine take_run 15 (some 106) (v := ?_) rfl rfl (by kernel_rfl) (by kernel_rfl) (by kernel_rfl) (fun _ _ _ h => h) (by rfl) ?_ hHeld ?_
            rotate_left
            · ((intro w hSw); (try dsimp only at hSw); go_simp <;> with_reducible rfl)
            simp only [Act.put, List.setIfInBounds_toArray, List.set_cons_zero, List.set_cons_succ]
            refine wpAnyH_done (by kernel_rfl) ?_ _
            refine NoPanic.normal ?_
            have hL2 := L13.trans (hHeld.2.mono L13.size)
            clear hHeld hL L13 LR
            go_wp2
            exact ⟨⟨j + 1, by omega, by go_num, hL2⟩, by simp [intOf]; omega⟩
        · have hjn : j = ns.length := by omega
          subst hjn
          clear hlt
          have L9 := L0.trans (hL.mono L0.size)
          clear hL
          go_wp2
          go_ret
          exact ⟨rfl, L9⟩

set_option maxRecDepth 100000 in
theorem lifted (os : Os) (started : os.Started) (H : Type) (enc : TypeId × Value → H) :
    ReturnsInHanded {} Tryz.checked os 5 .any (Rows.fnChainShowsSpec.pre6 enc Tryz.prog Tryz.f5 Rows.fnChainShowsRow.domain false) (Rows.fnChainShowsSpec.post enc Tryz.prog Tryz.f5 false true false false) := by
  refine returnsInHanded_of_change (C := Tryz.checked) own started (by kernel_rfl) Tryz.func5
    (ChangeSpec.witness6 (enc := enc) (C := Tryz.checked) false ⟨#[], #[.slice none 0 0], []⟩ 8 (by kernel_rfl) (by kernel_rfl) (by kernel_rfl) (by kernel_rfl)) ?_
  intro W base args ds gs before hval0 hW hcnd _
  have hval : ∀ (j : Nat) t v, Tryz.f5.params[j]? = some t → args[j]? = some v → Value.okWide Tryz.prog W .any base t v := hval0
  have hW' := hW
  obtain ⟨p, q, hA0, hV, rfl, hfz, hnd⟩ := hW
  have hA : DataW.TrodAll enc Tryz.prog W 0 (fun _ => true) true Tryz.f5.params.toList args.toList ds p := hA0
  rw [Tryz.params5] at hA hval
  have hK := hA
  obtain ⟨v0, vs0, d0, ds0, p0, q0, hargs, rfl, rfl, h0, r0⟩ := trodAll_cons hA
  obtain ⟨rfl, rfl, rfl⟩ := trodAll_nil r0
  obtain rfl : args = #[v0] := by cases args; simp_all
  obtain ⟨rfl, rfl⟩ := trodVars_none hV
  obtain ⟨a0, len0, cap0, rfl, b0⟩ := read_bytes (hval 0 22 v0 rfl rfl) h0
  clear hA0 hval0
  refine (walk a0 len0 cap0 W b0).mono fun e W' ⟨he, hb⟩ => ?_
  subst he
  have hK' := stay_all hb (by intro t ht; simp only [List.mem_cons, List.not_mem_nil, or_false] at ht; rcases ht with rfl <;> exact ⟨by kernel_rfl, of_decide_eq_true (by kernel_rfl)⟩) hK
  exact ⟨_, rfl, _, _, _, [], _, [], hW', trodAll_mk1 (shut_bool Tryz.underlying4 _), hK', rfl, hb.frame _, fun h => by cases h⟩

theorem over : Rows.fnChainShowsRow.holds Tryz.pinned (OpenSpec.ofChange Rows.fnChainShowsSpec) :=
  OpenClaim.holds_of_wide 5 Tryz.f5 rfl rfl rfl rfl rfl rfl rfl ⟨rfl, rfl, rfl, rfl, rfl⟩ rfl rfl rfl rfl rfl (by kernel_rfl) Tryz.func5
    (by refine joined_of ?_; kernel_rfl) (of_decide_eq_true (by kernel_rfl)) (by unfold Func.isWrapper; first | (rw [if_pos (by decide +kernel)]; kernel_rfl) | (rw [if_neg (by decide +kernel)]; exact ⟨rfl, rfl⟩))
    (fun os started H enc _ => lifted os started H enc)
end Go.Proofs.YtjnloillcgeodaaGreat.FnChainShows
namespace Go.Proofs.YtjnloillcgeodaaGreat
/-- The statement itself. -/
theorem fnChainShows_holds : Rows.FnChainShowsSaid := FnChainShows.over
#print axioms fnChainShows_holds
end Go.Proofs.YtjnloillcgeodaaGreat
namespace Go.Proofs.YtjnloillcgeodaaGreat.FnChainShows
end Go.Proofs.YtjnloillcgeodaaGreat.FnChainShows
