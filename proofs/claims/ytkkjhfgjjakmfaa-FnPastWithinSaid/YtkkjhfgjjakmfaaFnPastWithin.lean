/- The law FnPastWithin (promise 6) holds: of drawn causes, those that are within others are just those that add nothing to them; both ways just if they are the same. No condition. -/
import Derived.Test.YtkkjhfgjjakmfaaLift
import Derived.Test.YtkkjhfgjjakmfaaDrawPasts3
import Derived.Test.YtkkjhfgjjakmfaaPastPure
import Derived.Test.YtkkjhfgjjakmfaaReg
namespace Go.Proofs.Ytkkjhfgjjakmfaa.FnPastWithin
open Go.ChangeShapes Go.WideShapes Go.ChangeAt Go.RowKit Go.Joins
attribute [local go_sem ↓] Go.wp_at_zero Go.wp_at_succ

set_option maxRecDepth 100000 in
set_option maxHeartbeats 2000000 in
theorem walk (a : Option Addr) (len cap : Nat) (w : World) (hc : Code0 w a len cap) :
    Calls Try.prog 4 #[.slice a len cap] w fun e w' => e = .returned (.bool true) ∧ Below w.heap.size w w' := by
  by_cases h1 : 1048576 < len
  · have h1' : (1048576 : Int) < (len : Int) := by omega
    go_enter Try.func4, Try.ntmps4
    go_wp2
    go_ret
    exact ⟨rfl, Below.refl _ _⟩
  · have h1' : (len : Int) ≤ 1048576 := by omega
    go_enter Try.func4, Try.ntmps4
    go_wp2_with fail
    refine (drawPastWithin_any w a len cap hc (by omega)).mono ?_
    rintro e w1 ⟨a1, a2, c1, c2, ts, us, rfl, hl1, hl2, ht1, ht2, hb1⟩
    have hn1 : ts.length ≤ 1048576 := by omega
    have hn2 : us.length ≤ 1048576 := by omega
    have LA := below_alloc2 w1 (.cells #[.slice a1 ts.length c1] 25) (.cells #[.slice a2 us.length c2] 25)
    have B3 : Blk ((w1.alloc (.cells #[.slice a1 ts.length c1] 25)).alloc (.cells #[.slice a2 us.length c2] 25)) w1.heap.size 25 #[.slice a1 ts.length c1] := (Blk.made _ _ _).more _
    have B4 := Blk.made (w1.alloc (.cells #[.slice a1 ts.length c1] 25)) 25 #[.slice a2 us.length c2]
    simp only [World.size_alloc] at B4
    have T1 := (ht1.on LA).up LA.size
    have T2 := (ht2.on LA).up LA.size
    have L0 := hb1.trans (LA.mono hb1.size)
    clear ht1 ht2 LA hb1 hc
    go_wp2_with fail
    generalize (w1.alloc (.cells #[.slice a1 ts.length c1] 25)).alloc (.cells #[.slice a2 us.length c2] 25) = W at B3 B4 T1 T2 L0 ⊢
    generalize w1.heap.size + 1 = p4 at *
    generalize w1.heap.size = p3 at *
    refine (implPastWithin_any a1 a2 c1 c2 ts us W hn1 hn2 T1 T2).mono ?_
    rintro e w2 ⟨rfl, L2⟩
    have k3 := (B3.on L2).one.1
    have k4 := (B4.on L2).one.1
    go_wp2_with fail
    refine (specPastWithin_any a1 a2 c1 c2 ts us w2 hn1 hn2 ((T1.on L2).up L2.size) ((T2.on L2).up L2.size)).mono ?_
    rintro e w3 ⟨rfl, hb3⟩
    have L3 := L2.trans (hb3.mono L2.size)
    clear k3 k4
    have k3 := (B3.on L3).one.1
    have k4 := (B4.on L3).one.1
    have hbn : (pwB ts us != pwB ts us) = false := by simp
    go_wp2_with fail
    refine (implPastOk_any a1 c1 ts w3 hn1 ((T1.on L3).up L3.size)).mono ?_
    rintro e w4 ⟨rfl, hb4⟩
    have L4 := L3.trans (hb4.mono L3.size)
    clear k3 k4
    have k3 := (B3.on L4).one.1
    have k4 := (B4.on L4).one.1
    cases hp : pastB ts
    · go_wp2_with fail
      refine (specPastWithin_any a1 a2 c1 c2 ts us w4 hn1 hn2 ((T1.on L4).up L4.size) ((T2.on L4).up L4.size)).mono ?_
      rintro e w5 ⟨rfl, hb5⟩
      have L5 := L0.trans ((L4.trans (hb5.mono L4.size)).mono L0.size)
      have hbe : (pwB ts us == pwB ts us) = true := by simp
      clear hp
      go_wp2
      go_ret
      exact ⟨rfl, L5⟩
    · have HP := hide hp
      clear hp
      go_wp2_with fail
      refine (implPastOk_any a2 c2 us w4 hn2 ((T2.on L4).up L4.size)).mono ?_
      rintro e w5 ⟨rfl, hb5⟩
      have L5 := L4.trans (hb5.mono L4.size)
      clear k3 k4
      have k3 := (B3.on L5).one.1
      have k4 := (B4.on L5).one.1
      cases hq : pastB us
      · go_wp2_with fail
        refine (specPastWithin_any a1 a2 c1 c2 ts us w5 hn1 hn2 ((T1.on L5).up L5.size) ((T2.on L5).up L5.size)).mono ?_
        rintro e w6 ⟨rfl, hb6⟩
        have L6 := L0.trans ((L5.trans (hb6.mono L5.size)).mono L0.size)
        have hbe : (pwB ts us == pwB ts us) = true := by simp
        clear hq
        go_wp2
        go_ret
        exact ⟨rfl, L6⟩
      · have HQ := hide hq
        clear hq k3 k4 hbn
        have HN := hide (pw_none HP.out)
        cases hi : pwB ts us
        · have HJ : Hid (decide (joinL ts us = us) = false) := (pw_join HP.out HQ.out).trans hi
          have HB : Hid (decide (ts = us) = false) := (pw_both HP.out HQ.out).trans (by rw [hi]; rfl)
          clear hi
          go_wp2_with fail
          refine wp_region_noPanic ?_
          refine wp_region_held_drew (S := (fun w' => (w'.cell? ⟨p3, 0, none⟩ = some (.slice a1 ts.length c1) ∧ w'.cell? ⟨p4, 0, none⟩ = some (.slice a2 us.length c2)) ∧ Below W.heap.size W w')) (by kernel_rfl) (by exact ⟨⟨((B3.on L5).drew).at 0, ((B4.on L5).drew).at 0⟩, L5.drew⟩) (fun hHeld => ?_)
          refine take_run 0 (some 37) (v := ?_) rfl rfl (by kernel_rfl) (by kernel_rfl) (by kernel_rfl) (fun _ _ _ h => h) (by rfl) ?_ hHeld ?_
          rotate_left
          · ((intro w hSw); (try dsimp only at hSw); go_simp <;> with_reducible rfl)
          simp only [Act.put, List.setIfInBounds_toArray, List.set_cons_zero, List.set_cons_succ]
          refine take_run 1 (some 38) (v := ?_) rfl rfl (by kernel_rfl) (by kernel_rfl) (by kernel_rfl) (fun _ _ _ h => h) (by rfl) ?_ hHeld ?_
          rotate_left
          · ((intro w hSw); (try dsimp only at hSw); go_simp <;> with_reducible rfl)
          simp only [Act.put, List.setIfInBounds_toArray, List.set_cons_zero, List.set_cons_succ]
          refine take_run 2 (some 39) (v := ?_) rfl rfl (by kernel_rfl) (by kernel_rfl) (by kernel_rfl) (fun _ _ _ h => h) (by rfl) ?_ hHeld ?_
          rotate_left
          · ((intro w hSw); (try dsimp only at hSw); go_simp <;> with_reducible rfl)
          simp only [Act.put, List.setIfInBounds_toArray, List.set_cons_zero, List.set_cons_succ]
          refine take_run 4 (some 41) (v := ?_) rfl rfl (by kernel_rfl) (by kernel_rfl) (by kernel_rfl) (fun _ _ _ h => h) (by rfl) ?_ hHeld ?_
          rotate_left
          · ((intro w hSw); (try dsimp only at hSw); go_simp <;> with_reducible rfl)
          simp only [Act.put, List.setIfInBounds_toArray, List.set_cons_zero, List.set_cons_succ]
          refine take_one 3 (by kernel_rfl) rfl (fun K hK => ?_)
          go_simp
          (refine (implPastJoin_any a1 a2 c1 c2 ts us _ hn1 hn2 ((T1.on hHeld.2).up hHeld.2.size) ((T2.on hHeld.2).up hHeld.2.size)).mono ?_; rintro e wa ⟨A3, cap3, rfl, hR3, hb⟩; have hjl := joinL_len ts us)
          try go_wp2_with fail
          refine hK.out _ _ (by exact ⟨⟨(B3.on (hHeld.2.trans (hb.mono hHeld.2.size))).at 0, (B4.on (hHeld.2.trans (hb.mono hHeld.2.size))).at 0⟩, hHeld.2.trans (hb.mono hHeld.2.size)⟩) (fun hHeld => ?_)
          clear hK K
          refine take_one 5 (by kernel_rfl) rfl (fun K hK => ?_)
          go_simp
          (refine (cfPast_any A3 a2 cap3 c2 (joinL ts us) us _ (by omega) hn2 hR3.tg ((T2.on hHeld.2).up hHeld.2.size)).mono ?_; rintro e wb ⟨rfl, hb⟩; rw [HJ.out])
          try go_wp2_with fail
          refine hK.out _ _ (by exact ⟨⟨(B3.on (hHeld.2.trans (hb.mono hHeld.2.size))).at 0, (B4.on (hHeld.2.trans (hb.mono hHeld.2.size))).at 0⟩, hHeld.2.trans (hb.mono hHeld.2.size)⟩) (fun hHeld => ?_)
          clear hK K
          refine take_run 6 (some 43) (v := ?_) rfl rfl (by kernel_rfl) (by kernel_rfl) (by kernel_rfl) (fun _ _ _ h => h) (by rfl) ?_ hHeld ?_
          rotate_left
          · ((intro w hSw); (try dsimp only at hSw); go_simp <;> with_reducible rfl)
          simp only [Act.put, List.setIfInBounds_toArray, List.set_cons_zero, List.set_cons_succ]
          refine take_run 7 (some 44) (v := ?_) rfl rfl (by kernel_rfl) (by kernel_rfl) (by kernel_rfl) (fun _ _ _ h => h) (by rfl) ?_ hHeld ?_
          rotate_left
          · ((intro w hSw); (try dsimp only at hSw); go_simp <;> with_reducible rfl)
          simp only [Act.put, List.setIfInBounds_toArray, List.set_cons_zero, List.set_cons_succ]
          refine take_run 8 (some 45) (v := ?_) rfl rfl (by kernel_rfl) (by kernel_rfl) (by kernel_rfl) (fun _ _ _ h => h) (by rfl) ?_ hHeld ?_
          rotate_left
          · ((intro w hSw); (try dsimp only at hSw); go_simp <;> with_reducible rfl)
          simp only [Act.put, List.setIfInBounds_toArray, List.set_cons_zero, List.set_cons_succ]
          refine take_run 9 (some 46) (v := ?_) rfl rfl (by kernel_rfl) (by kernel_rfl) (by kernel_rfl) (fun _ _ _ h => h) (by rfl) ?_ hHeld ?_
          rotate_left
          · ((intro w hSw); (try dsimp only at hSw); go_simp <;> with_reducible rfl)
          simp only [Act.put, List.setIfInBounds_toArray, List.set_cons_zero, List.set_cons_succ]
          refine take_skip 10 (some 47) rfl rfl (by kernel_rfl) (by kernel_rfl) (by kernel_rfl) (fun _ _ _ h => h) (by rfl) hHeld ?_
          simp only [Act.put, List.setIfInBounds_toArray, List.set_cons_zero, List.set_cons_succ]
          refine take_skip 11 (some 48) rfl rfl (by kernel_rfl) (by kernel_rfl) (by kernel_rfl) (fun _ _ _ h => h) (by rfl) hHeld ?_
          simp only [Act.put, List.setIfInBounds_toArray, List.set_cons_zero, List.set_cons_succ]
          refine take_skip 12 (some 49) rfl rfl (by kernel_rfl) (by kernel_rfl) (by kernel_rfl) (fun _ _ _ h => h) (by rfl) hHeld ?_
          simp only [Act.put, List.setIfInBounds_toArray, List.set_cons_zero, List.set_cons_succ]
          refine take_run 13 (some 50) (v := ?_) rfl rfl (by kernel_rfl) (by kernel_rfl) (by kernel_rfl) (fun _ _ _ h => h) (by rfl) ?_ hHeld ?_
          rotate_left
          · ((intro w hSw); (try dsimp only at hSw); go_simp <;> with_reducible rfl)
          simp only [Act.put, List.setIfInBounds_toArray, List.set_cons_zero, List.set_cons_succ]
          refine take_run 14 (some 51) (v := ?_) rfl rfl (by kernel_rfl) (by kernel_rfl) (by kernel_rfl) (fun _ _ _ h => h) (by rfl) ?_ hHeld ?_
          rotate_left
          · ((intro w hSw); (try dsimp only at hSw); go_simp <;> with_reducible rfl)
          simp only [Act.put, List.setIfInBounds_toArray, List.set_cons_zero, List.set_cons_succ]
          refine take_run 15 (some 52) (v := ?_) rfl rfl (by kernel_rfl) (by kernel_rfl) (by kernel_rfl) (fun _ _ _ h => h) (by rfl) ?_ hHeld ?_
          rotate_left
          · ((intro w hSw); (try dsimp only at hSw); go_simp <;> with_reducible rfl)
          simp only [Act.put, List.setIfInBounds_toArray, List.set_cons_zero, List.set_cons_succ]
          refine take_one 16 (by kernel_rfl) rfl (fun K hK => ?_)
          go_simp
          (refine (cfPast_any a1 a2 c1 c2 ts us _ hn1 hn2 ((T1.on hHeld.2).up hHeld.2.size) ((T2.on hHeld.2).up hHeld.2.size)).mono ?_; rintro e wd ⟨rfl, hb⟩; rw [HB.out])
          try go_wp2_with fail
          refine hK.out _ _ (by exact ⟨⟨(B3.on (hHeld.2.trans (hb.mono hHeld.2.size))).at 0, (B4.on (hHeld.2.trans (hb.mono hHeld.2.size))).at 0⟩, hHeld.2.trans (hb.mono hHeld.2.size)⟩) (fun hHeld => ?_)
          clear hK K
          refine take_run 17 (some 54) (v := ?_) rfl rfl (by kernel_rfl) (by kernel_rfl) (by kernel_rfl) (fun _ _ _ h => h) (by rfl) ?_ hHeld ?_
          rotate_left
          · ((intro w hSw); (try dsimp only at hSw); go_simp <;> with_reducible rfl)
          simp only [Act.put, List.setIfInBounds_toArray, List.set_cons_zero, List.set_cons_succ]
          refine take_run 18 (some 55) (v := ?_) rfl rfl (by kernel_rfl) (by kernel_rfl) (by kernel_rfl) (fun _ _ _ h => h) (by rfl) ?_ hHeld ?_
          rotate_left
          · ((intro w hSw); (try dsimp only at hSw); go_simp <;> with_reducible rfl)
          simp only [Act.put, List.setIfInBounds_toArray, List.set_cons_zero, List.set_cons_succ]
          refine take_run 19 (some 56) (v := ?_) rfl rfl (by kernel_rfl) (by kernel_rfl) (by kernel_rfl) (fun _ _ _ h => h) (by rfl) ?_ hHeld ?_
          rotate_left
          · ((intro w hSw); (try dsimp only at hSw); go_simp <;> with_reducible rfl)
          simp only [Act.put, List.setIfInBounds_toArray, List.set_cons_zero, List.set_cons_succ]
          refine take_run 21 (some 58) (v := ?_) rfl rfl (by kernel_rfl) (by kernel_rfl) (by kernel_rfl) (fun _ _ _ h => h) (by rfl) ?_ hHeld ?_
          rotate_left
          · ((intro w hSw); (try dsimp only at hSw); go_simp <;> with_reducible rfl)
          simp only [Act.put, List.setIfInBounds_toArray, List.set_cons_zero, List.set_cons_succ]
          refine take_one 20 (by kernel_rfl) rfl (fun K hK => ?_)
          go_simp
          (refine (implPastNone_any _).mono ?_; rintro e we ⟨g9, cap9, T9, cur9, rfl, hg9, hB9, hs9, hc9, hb⟩; have HC9 := hide hc9; clear hc9)
          try go_wp2_with fail
          refine hK.out _ _ (by exact ⟨⟨(B3.on (hHeld.2.trans (hb.mono hHeld.2.size))).at 0, (B4.on (hHeld.2.trans (hb.mono hHeld.2.size))).at 0⟩, hHeld.2.trans (hb.mono hHeld.2.size)⟩) (fun hHeld => ?_)
          clear hK K
          refine take_one 22 (by kernel_rfl) rfl (fun K hK => ?_)
          go_simp
          (refine (implPastWithin_any (some ⟨g9, 0, none⟩) a1 cap9 c1 z4 ts _ (by simp) hn1 (Tg.of hB9 hB9.inside HC9.out) ((T1.on hHeld.2).up hHeld.2.size)).mono ?_; rintro e wf ⟨rfl, hb⟩; rw [HN.out])
          try go_wp2_with fail
          refine hK.out _ _ (by exact ⟨⟨(B3.on (hHeld.2.trans (hb.mono hHeld.2.size))).at 0, (B4.on (hHeld.2.trans (hb.mono hHeld.2.size))).at 0⟩, hHeld.2.trans (hb.mono hHeld.2.size)⟩) (fun hHeld => ?_)
          clear hK K
          refine take_run 23 (some 60) (v := ?_) rfl rfl (by kernel_rfl) (by kernel_rfl) (by kernel_rfl) (fun _ _ _ h => h) (by rfl) ?_ hHeld ?_
          rotate_left
          · ((intro w hSw); (try dsimp only at hSw); go_simp <;> with_reducible rfl)
          simp only [Act.put, List.setIfInBounds_toArray, List.set_cons_zero, List.set_cons_succ]
          refine take_run 24 (some 2) (v := ?_) rfl rfl (by kernel_rfl) (by kernel_rfl) (by kernel_rfl) (fun _ _ _ h => h) (by rfl) ?_ hHeld ?_
          rotate_left
          · ((intro w hSw); (try dsimp only at hSw); go_simp <;> with_reducible rfl)
          simp only [Act.put, List.setIfInBounds_toArray, List.set_cons_zero, List.set_cons_succ]
          refine wpAnyH_done (by kernel_rfl) ?_ _
          refine NoPanic.normal ?_
          have L9 := L0.trans (hHeld.2.mono L0.size)
          clear hHeld
          go_wp2
          go_ret
          exact ⟨rfl, L9⟩
        · have HJ : Hid (decide (joinL ts us = us) = true) := (pw_join HP.out HQ.out).trans hi
          cases hw : pwB us ts
          · have HW := hide hw
            have HB : Hid (decide (ts = us) = false) := (pw_both HP.out HQ.out).trans (by rw [hi, hw]; rfl)
            clear hi hw
            go_wp2_with fail
            refine wp_region_noPanic ?_
            refine wp_region_held_drew (S := (fun w' => (w'.cell? ⟨p3, 0, none⟩ = some (.slice a1 ts.length c1) ∧ w'.cell? ⟨p4, 0, none⟩ = some (.slice a2 us.length c2)) ∧ Below W.heap.size W w')) (by kernel_rfl) (by exact ⟨⟨((B3.on L5).drew).at 0, ((B4.on L5).drew).at 0⟩, L5.drew⟩) (fun hHeld => ?_)
            refine take_run 0 (some 37) (v := ?_) rfl rfl (by kernel_rfl) (by kernel_rfl) (by kernel_rfl) (fun _ _ _ h => h) (by rfl) ?_ hHeld ?_
            rotate_left
            · ((intro w hSw); (try dsimp only at hSw); go_simp <;> with_reducible rfl)
            simp only [Act.put, List.setIfInBounds_toArray, List.set_cons_zero, List.set_cons_succ]
            refine take_run 1 (some 38) (v := ?_) rfl rfl (by kernel_rfl) (by kernel_rfl) (by kernel_rfl) (fun _ _ _ h => h) (by rfl) ?_ hHeld ?_
            rotate_left
            · ((intro w hSw); (try dsimp only at hSw); go_simp <;> with_reducible rfl)
            simp only [Act.put, List.setIfInBounds_toArray, List.set_cons_zero, List.set_cons_succ]
            refine take_run 2 (some 39) (v := ?_) rfl rfl (by kernel_rfl) (by kernel_rfl) (by kernel_rfl) (fun _ _ _ h => h) (by rfl) ?_ hHeld ?_
            rotate_left
            · ((intro w hSw); (try dsimp only at hSw); go_simp <;> with_reducible rfl)
            simp only [Act.put, List.setIfInBounds_toArray, List.set_cons_zero, List.set_cons_succ]
            refine take_run 4 (some 41) (v := ?_) rfl rfl (by kernel_rfl) (by kernel_rfl) (by kernel_rfl) (fun _ _ _ h => h) (by rfl) ?_ hHeld ?_
            rotate_left
            · ((intro w hSw); (try dsimp only at hSw); go_simp <;> with_reducible rfl)
            simp only [Act.put, List.setIfInBounds_toArray, List.set_cons_zero, List.set_cons_succ]
            refine take_one 3 (by kernel_rfl) rfl (fun K hK => ?_)
            go_simp
            (refine (implPastJoin_any a1 a2 c1 c2 ts us _ hn1 hn2 ((T1.on hHeld.2).up hHeld.2.size) ((T2.on hHeld.2).up hHeld.2.size)).mono ?_; rintro e wa ⟨A3, cap3, rfl, hR3, hb⟩; have hjl := joinL_len ts us)
            try go_wp2_with fail
            refine hK.out _ _ (by exact ⟨⟨(B3.on (hHeld.2.trans (hb.mono hHeld.2.size))).at 0, (B4.on (hHeld.2.trans (hb.mono hHeld.2.size))).at 0⟩, hHeld.2.trans (hb.mono hHeld.2.size)⟩) (fun hHeld => ?_)
            clear hK K
            refine take_one 5 (by kernel_rfl) rfl (fun K hK => ?_)
            go_simp
            (refine (cfPast_any A3 a2 cap3 c2 (joinL ts us) us _ (by omega) hn2 hR3.tg ((T2.on hHeld.2).up hHeld.2.size)).mono ?_; rintro e wb ⟨rfl, hb⟩; rw [HJ.out])
            try go_wp2_with fail
            refine hK.out _ _ (by exact ⟨⟨(B3.on (hHeld.2.trans (hb.mono hHeld.2.size))).at 0, (B4.on (hHeld.2.trans (hb.mono hHeld.2.size))).at 0⟩, hHeld.2.trans (hb.mono hHeld.2.size)⟩) (fun hHeld => ?_)
            clear hK K
            refine take_run 6 (some 43) (v := ?_) rfl rfl (by kernel_rfl) (by kernel_rfl) (by kernel_rfl) (fun _ _ _ h => h) (by rfl) ?_ hHeld ?_
            rotate_left
            · ((intro w hSw); (try dsimp only at hSw); go_simp <;> with_reducible rfl)
            simp only [Act.put, List.setIfInBounds_toArray, List.set_cons_zero, List.set_cons_succ]
            refine take_run 7 (some 44) (v := ?_) rfl rfl (by kernel_rfl) (by kernel_rfl) (by kernel_rfl) (fun _ _ _ h => h) (by rfl) ?_ hHeld ?_
            rotate_left
            · ((intro w hSw); (try dsimp only at hSw); go_simp <;> with_reducible rfl)
            simp only [Act.put, List.setIfInBounds_toArray, List.set_cons_zero, List.set_cons_succ]
            refine take_run 8 (some 45) (v := ?_) rfl rfl (by kernel_rfl) (by kernel_rfl) (by kernel_rfl) (fun _ _ _ h => h) (by rfl) ?_ hHeld ?_
            rotate_left
            · ((intro w hSw); (try dsimp only at hSw); go_simp <;> with_reducible rfl)
            simp only [Act.put, List.setIfInBounds_toArray, List.set_cons_zero, List.set_cons_succ]
            refine take_run 9 (some 46) (v := ?_) rfl rfl (by kernel_rfl) (by kernel_rfl) (by kernel_rfl) (fun _ _ _ h => h) (by rfl) ?_ hHeld ?_
            rotate_left
            · ((intro w hSw); (try dsimp only at hSw); go_simp <;> with_reducible rfl)
            simp only [Act.put, List.setIfInBounds_toArray, List.set_cons_zero, List.set_cons_succ]
            refine take_run 10 (some 47) (v := ?_) rfl rfl (by kernel_rfl) (by kernel_rfl) (by kernel_rfl) (fun _ _ _ h => h) (by rfl) ?_ hHeld ?_
            rotate_left
            · ((intro w hSw); (try dsimp only at hSw); go_simp <;> with_reducible rfl)
            simp only [Act.put, List.setIfInBounds_toArray, List.set_cons_zero, List.set_cons_succ]
            refine take_run 11 (some 48) (v := ?_) rfl rfl (by kernel_rfl) (by kernel_rfl) (by kernel_rfl) (fun _ _ _ h => h) (by rfl) ?_ hHeld ?_
            rotate_left
            · ((intro w hSw); (try dsimp only at hSw); go_simp <;> with_reducible rfl)
            simp only [Act.put, List.setIfInBounds_toArray, List.set_cons_zero, List.set_cons_succ]
            refine take_run 14 (some 51) (v := ?_) rfl rfl (by kernel_rfl) (by kernel_rfl) (by kernel_rfl) (fun _ _ _ h => h) (by rfl) ?_ hHeld ?_
            rotate_left
            · ((intro w hSw); (try dsimp only at hSw); go_simp <;> with_reducible rfl)
            simp only [Act.put, List.setIfInBounds_toArray, List.set_cons_zero, List.set_cons_succ]
            refine take_run 15 (some 52) (v := ?_) rfl rfl (by kernel_rfl) (by kernel_rfl) (by kernel_rfl) (fun _ _ _ h => h) (by rfl) ?_ hHeld ?_
            rotate_left
            · ((intro w hSw); (try dsimp only at hSw); go_simp <;> with_reducible rfl)
            simp only [Act.put, List.setIfInBounds_toArray, List.set_cons_zero, List.set_cons_succ]
            refine take_one 12 (by kernel_rfl) rfl (fun K hK => ?_)
            go_simp
            (refine (implPastWithin_any a2 a1 c2 c1 us ts _ hn2 hn1 ((T2.on hHeld.2).up hHeld.2.size) ((T1.on hHeld.2).up hHeld.2.size)).mono ?_; rintro e wc ⟨rfl, hb⟩; rw [HW.out])
            try go_wp2_with fail
            refine hK.out _ _ (by exact ⟨⟨(B3.on (hHeld.2.trans (hb.mono hHeld.2.size))).at 0, (B4.on (hHeld.2.trans (hb.mono hHeld.2.size))).at 0⟩, hHeld.2.trans (hb.mono hHeld.2.size)⟩) (fun hHeld => ?_)
            clear hK K
            refine take_run 13 (some 50) (v := ?_) rfl rfl (by kernel_rfl) (by kernel_rfl) (by kernel_rfl) (fun _ _ _ h => h) (by rfl) ?_ hHeld ?_
            rotate_left
            · ((intro w hSw); (try dsimp only at hSw); go_simp <;> with_reducible rfl)
            simp only [Act.put, List.setIfInBounds_toArray, List.set_cons_zero, List.set_cons_succ]
            refine take_one 16 (by kernel_rfl) rfl (fun K hK => ?_)
            go_simp
            (refine (cfPast_any a1 a2 c1 c2 ts us _ hn1 hn2 ((T1.on hHeld.2).up hHeld.2.size) ((T2.on hHeld.2).up hHeld.2.size)).mono ?_; rintro e wd ⟨rfl, hb⟩; rw [HB.out])
            try go_wp2_with fail
            refine hK.out _ _ (by exact ⟨⟨(B3.on (hHeld.2.trans (hb.mono hHeld.2.size))).at 0, (B4.on (hHeld.2.trans (hb.mono hHeld.2.size))).at 0⟩, hHeld.2.trans (hb.mono hHeld.2.size)⟩) (fun hHeld => ?_)
            clear hK K
            refine take_run 17 (some 54) (v := ?_) rfl rfl (by kernel_rfl) (by kernel_rfl) (by kernel_rfl) (fun _ _ _ h => h) (by rfl) ?_ hHeld ?_
            rotate_left
            · ((intro w hSw); (try dsimp only at hSw); go_simp <;> with_reducible rfl)
            simp only [Act.put, List.setIfInBounds_toArray, List.set_cons_zero, List.set_cons_succ]
            refine take_run 18 (some 55) (v := ?_) rfl rfl (by kernel_rfl) (by kernel_rfl) (by kernel_rfl) (fun _ _ _ h => h) (by rfl) ?_ hHeld ?_
            rotate_left
            · ((intro w hSw); (try dsimp only at hSw); go_simp <;> with_reducible rfl)
            simp only [Act.put, List.setIfInBounds_toArray, List.set_cons_zero, List.set_cons_succ]
            refine take_run 19 (some 56) (v := ?_) rfl rfl (by kernel_rfl) (by kernel_rfl) (by kernel_rfl) (fun _ _ _ h => h) (by rfl) ?_ hHeld ?_
            rotate_left
            · ((intro w hSw); (try dsimp only at hSw); go_simp <;> with_reducible rfl)
            simp only [Act.put, List.setIfInBounds_toArray, List.set_cons_zero, List.set_cons_succ]
            refine take_run 21 (some 58) (v := ?_) rfl rfl (by kernel_rfl) (by kernel_rfl) (by kernel_rfl) (fun _ _ _ h => h) (by rfl) ?_ hHeld ?_
            rotate_left
            · ((intro w hSw); (try dsimp only at hSw); go_simp <;> with_reducible rfl)
            simp only [Act.put, List.setIfInBounds_toArray, List.set_cons_zero, List.set_cons_succ]
            refine take_one 20 (by kernel_rfl) rfl (fun K hK => ?_)
            go_simp
            (refine (implPastNone_any _).mono ?_; rintro e we ⟨g9, cap9, T9, cur9, rfl, hg9, hB9, hs9, hc9, hb⟩; have HC9 := hide hc9; clear hc9)
            try go_wp2_with fail
            refine hK.out _ _ (by exact ⟨⟨(B3.on (hHeld.2.trans (hb.mono hHeld.2.size))).at 0, (B4.on (hHeld.2.trans (hb.mono hHeld.2.size))).at 0⟩, hHeld.2.trans (hb.mono hHeld.2.size)⟩) (fun hHeld => ?_)
            clear hK K
            refine take_one 22 (by kernel_rfl) rfl (fun K hK => ?_)
            go_simp
            (refine (implPastWithin_any (some ⟨g9, 0, none⟩) a1 cap9 c1 z4 ts _ (by simp) hn1 (Tg.of hB9 hB9.inside HC9.out) ((T1.on hHeld.2).up hHeld.2.size)).mono ?_; rintro e wf ⟨rfl, hb⟩; rw [HN.out])
            try go_wp2_with fail
            refine hK.out _ _ (by exact ⟨⟨(B3.on (hHeld.2.trans (hb.mono hHeld.2.size))).at 0, (B4.on (hHeld.2.trans (hb.mono hHeld.2.size))).at 0⟩, hHeld.2.trans (hb.mono hHeld.2.size)⟩) (fun hHeld => ?_)
            clear hK K
            refine take_run 23 (some 60) (v := ?_) rfl rfl (by kernel_rfl) (by kernel_rfl) (by kernel_rfl) (fun _ _ _ h => h) (by rfl) ?_ hHeld ?_
            rotate_left
            · ((intro w hSw); (try dsimp only at hSw); go_simp <;> with_reducible rfl)
            simp only [Act.put, List.setIfInBounds_toArray, List.set_cons_zero, List.set_cons_succ]
            refine take_run 24 (some 2) (v := ?_) rfl rfl (by kernel_rfl) (by kernel_rfl) (by kernel_rfl) (fun _ _ _ h => h) (by rfl) ?_ hHeld ?_
            rotate_left
            · ((intro w hSw); (try dsimp only at hSw); go_simp <;> with_reducible rfl)
            simp only [Act.put, List.setIfInBounds_toArray, List.set_cons_zero, List.set_cons_succ]
            refine wpAnyH_done (by kernel_rfl) ?_ _
            refine NoPanic.normal ?_
            have L9 := L0.trans (hHeld.2.mono L0.size)
            clear hHeld
            go_wp2
            go_ret
            exact ⟨rfl, L9⟩
          · have HW := hide hw
            have HB : Hid (decide (ts = us) = true) := (pw_both HP.out HQ.out).trans (by rw [hi, hw]; rfl)
            clear hi hw
            go_wp2_with fail
            refine wp_region_noPanic ?_
            refine wp_region_held_drew (S := (fun w' => (w'.cell? ⟨p3, 0, none⟩ = some (.slice a1 ts.length c1) ∧ w'.cell? ⟨p4, 0, none⟩ = some (.slice a2 us.length c2)) ∧ Below W.heap.size W w')) (by kernel_rfl) (by exact ⟨⟨((B3.on L5).drew).at 0, ((B4.on L5).drew).at 0⟩, L5.drew⟩) (fun hHeld => ?_)
            refine take_run 0 (some 37) (v := ?_) rfl rfl (by kernel_rfl) (by kernel_rfl) (by kernel_rfl) (fun _ _ _ h => h) (by rfl) ?_ hHeld ?_
            rotate_left
            · ((intro w hSw); (try dsimp only at hSw); go_simp <;> with_reducible rfl)
            simp only [Act.put, List.setIfInBounds_toArray, List.set_cons_zero, List.set_cons_succ]
            refine take_run 1 (some 38) (v := ?_) rfl rfl (by kernel_rfl) (by kernel_rfl) (by kernel_rfl) (fun _ _ _ h => h) (by rfl) ?_ hHeld ?_
            rotate_left
            · ((intro w hSw); (try dsimp only at hSw); go_simp <;> with_reducible rfl)
            simp only [Act.put, List.setIfInBounds_toArray, List.set_cons_zero, List.set_cons_succ]
            refine take_run 2 (some 39) (v := ?_) rfl rfl (by kernel_rfl) (by kernel_rfl) (by kernel_rfl) (fun _ _ _ h => h) (by rfl) ?_ hHeld ?_
            rotate_left
            · ((intro w hSw); (try dsimp only at hSw); go_simp <;> with_reducible rfl)
            simp only [Act.put, List.setIfInBounds_toArray, List.set_cons_zero, List.set_cons_succ]
            refine take_run 4 (some 41) (v := ?_) rfl rfl (by kernel_rfl) (by kernel_rfl) (by kernel_rfl) (fun _ _ _ h => h) (by rfl) ?_ hHeld ?_
            rotate_left
            · ((intro w hSw); (try dsimp only at hSw); go_simp <;> with_reducible rfl)
            simp only [Act.put, List.setIfInBounds_toArray, List.set_cons_zero, List.set_cons_succ]
            refine take_one 3 (by kernel_rfl) rfl (fun K hK => ?_)
            go_simp
            (refine (implPastJoin_any a1 a2 c1 c2 ts us _ hn1 hn2 ((T1.on hHeld.2).up hHeld.2.size) ((T2.on hHeld.2).up hHeld.2.size)).mono ?_; rintro e wa ⟨A3, cap3, rfl, hR3, hb⟩; have hjl := joinL_len ts us)
            try go_wp2_with fail
            refine hK.out _ _ (by exact ⟨⟨(B3.on (hHeld.2.trans (hb.mono hHeld.2.size))).at 0, (B4.on (hHeld.2.trans (hb.mono hHeld.2.size))).at 0⟩, hHeld.2.trans (hb.mono hHeld.2.size)⟩) (fun hHeld => ?_)
            clear hK K
            refine take_one 5 (by kernel_rfl) rfl (fun K hK => ?_)
            go_simp
            (refine (cfPast_any A3 a2 cap3 c2 (joinL ts us) us _ (by omega) hn2 hR3.tg ((T2.on hHeld.2).up hHeld.2.size)).mono ?_; rintro e wb ⟨rfl, hb⟩; rw [HJ.out])
            try go_wp2_with fail
            refine hK.out _ _ (by exact ⟨⟨(B3.on (hHeld.2.trans (hb.mono hHeld.2.size))).at 0, (B4.on (hHeld.2.trans (hb.mono hHeld.2.size))).at 0⟩, hHeld.2.trans (hb.mono hHeld.2.size)⟩) (fun hHeld => ?_)
            clear hK K
            refine take_run 6 (some 43) (v := ?_) rfl rfl (by kernel_rfl) (by kernel_rfl) (by kernel_rfl) (fun _ _ _ h => h) (by rfl) ?_ hHeld ?_
            rotate_left
            · ((intro w hSw); (try dsimp only at hSw); go_simp <;> with_reducible rfl)
            simp only [Act.put, List.setIfInBounds_toArray, List.set_cons_zero, List.set_cons_succ]
            refine take_run 7 (some 44) (v := ?_) rfl rfl (by kernel_rfl) (by kernel_rfl) (by kernel_rfl) (fun _ _ _ h => h) (by rfl) ?_ hHeld ?_
            rotate_left
            · ((intro w hSw); (try dsimp only at hSw); go_simp <;> with_reducible rfl)
            simp only [Act.put, List.setIfInBounds_toArray, List.set_cons_zero, List.set_cons_succ]
            refine take_run 8 (some 45) (v := ?_) rfl rfl (by kernel_rfl) (by kernel_rfl) (by kernel_rfl) (fun _ _ _ h => h) (by rfl) ?_ hHeld ?_
            rotate_left
            · ((intro w hSw); (try dsimp only at hSw); go_simp <;> with_reducible rfl)
            simp only [Act.put, List.setIfInBounds_toArray, List.set_cons_zero, List.set_cons_succ]
            refine take_run 9 (some 46) (v := ?_) rfl rfl (by kernel_rfl) (by kernel_rfl) (by kernel_rfl) (fun _ _ _ h => h) (by rfl) ?_ hHeld ?_
            rotate_left
            · ((intro w hSw); (try dsimp only at hSw); go_simp <;> with_reducible rfl)
            simp only [Act.put, List.setIfInBounds_toArray, List.set_cons_zero, List.set_cons_succ]
            refine take_run 10 (some 47) (v := ?_) rfl rfl (by kernel_rfl) (by kernel_rfl) (by kernel_rfl) (fun _ _ _ h => h) (by rfl) ?_ hHeld ?_
            rotate_left
            · ((intro w hSw); (try dsimp only at hSw); go_simp <;> with_reducible rfl)
            simp only [Act.put, List.setIfInBounds_toArray, List.set_cons_zero, List.set_cons_succ]
            refine take_run 11 (some 48) (v := ?_) rfl rfl (by kernel_rfl) (by kernel_rfl) (by kernel_rfl) (fun _ _ _ h => h) (by rfl) ?_ hHeld ?_
            rotate_left
            · ((intro w hSw); (try dsimp only at hSw); go_simp <;> with_reducible rfl)
            simp only [Act.put, List.setIfInBounds_toArray, List.set_cons_zero, List.set_cons_succ]
            refine take_run 14 (some 51) (v := ?_) rfl rfl (by kernel_rfl) (by kernel_rfl) (by kernel_rfl) (fun _ _ _ h => h) (by rfl) ?_ hHeld ?_
            rotate_left
            · ((intro w hSw); (try dsimp only at hSw); go_simp <;> with_reducible rfl)
            simp only [Act.put, List.setIfInBounds_toArray, List.set_cons_zero, List.set_cons_succ]
            refine take_run 15 (some 52) (v := ?_) rfl rfl (by kernel_rfl) (by kernel_rfl) (by kernel_rfl) (fun _ _ _ h => h) (by rfl) ?_ hHeld ?_
            rotate_left
            · ((intro w hSw); (try dsimp only at hSw); go_simp <;> with_reducible rfl)
            simp only [Act.put, List.setIfInBounds_toArray, List.set_cons_zero, List.set_cons_succ]
            refine take_one 12 (by kernel_rfl) rfl (fun K hK => ?_)
            go_simp
            (refine (implPastWithin_any a2 a1 c2 c1 us ts _ hn2 hn1 ((T2.on hHeld.2).up hHeld.2.size) ((T1.on hHeld.2).up hHeld.2.size)).mono ?_; rintro e wc ⟨rfl, hb⟩; rw [HW.out])
            try go_wp2_with fail
            refine hK.out _ _ (by exact ⟨⟨(B3.on (hHeld.2.trans (hb.mono hHeld.2.size))).at 0, (B4.on (hHeld.2.trans (hb.mono hHeld.2.size))).at 0⟩, hHeld.2.trans (hb.mono hHeld.2.size)⟩) (fun hHeld => ?_)
            clear hK K
            refine take_run 13 (some 50) (v := ?_) rfl rfl (by kernel_rfl) (by kernel_rfl) (by kernel_rfl) (fun _ _ _ h => h) (by rfl) ?_ hHeld ?_
            rotate_left
            · ((intro w hSw); (try dsimp only at hSw); go_simp <;> with_reducible rfl)
            simp only [Act.put, List.setIfInBounds_toArray, List.set_cons_zero, List.set_cons_succ]
            refine take_one 16 (by kernel_rfl) rfl (fun K hK => ?_)
            go_simp
            (refine (cfPast_any a1 a2 c1 c2 ts us _ hn1 hn2 ((T1.on hHeld.2).up hHeld.2.size) ((T2.on hHeld.2).up hHeld.2.size)).mono ?_; rintro e wd ⟨rfl, hb⟩; rw [HB.out])
            try go_wp2_with fail
            refine hK.out _ _ (by exact ⟨⟨(B3.on (hHeld.2.trans (hb.mono hHeld.2.size))).at 0, (B4.on (hHeld.2.trans (hb.mono hHeld.2.size))).at 0⟩, hHeld.2.trans (hb.mono hHeld.2.size)⟩) (fun hHeld => ?_)
            clear hK K
            refine take_run 17 (some 54) (v := ?_) rfl rfl (by kernel_rfl) (by kernel_rfl) (by kernel_rfl) (fun _ _ _ h => h) (by rfl) ?_ hHeld ?_
            rotate_left
            · ((intro w hSw); (try dsimp only at hSw); go_simp <;> with_reducible rfl)
            simp only [Act.put, List.setIfInBounds_toArray, List.set_cons_zero, List.set_cons_succ]
            refine take_run 18 (some 55) (v := ?_) rfl rfl (by kernel_rfl) (by kernel_rfl) (by kernel_rfl) (fun _ _ _ h => h) (by rfl) ?_ hHeld ?_
            rotate_left
            · ((intro w hSw); (try dsimp only at hSw); go_simp <;> with_reducible rfl)
            simp only [Act.put, List.setIfInBounds_toArray, List.set_cons_zero, List.set_cons_succ]
            refine take_run 19 (some 56) (v := ?_) rfl rfl (by kernel_rfl) (by kernel_rfl) (by kernel_rfl) (fun _ _ _ h => h) (by rfl) ?_ hHeld ?_
            rotate_left
            · ((intro w hSw); (try dsimp only at hSw); go_simp <;> with_reducible rfl)
            simp only [Act.put, List.setIfInBounds_toArray, List.set_cons_zero, List.set_cons_succ]
            refine take_run 21 (some 58) (v := ?_) rfl rfl (by kernel_rfl) (by kernel_rfl) (by kernel_rfl) (fun _ _ _ h => h) (by rfl) ?_ hHeld ?_
            rotate_left
            · ((intro w hSw); (try dsimp only at hSw); go_simp <;> with_reducible rfl)
            simp only [Act.put, List.setIfInBounds_toArray, List.set_cons_zero, List.set_cons_succ]
            refine take_one 20 (by kernel_rfl) rfl (fun K hK => ?_)
            go_simp
            (refine (implPastNone_any _).mono ?_; rintro e we ⟨g9, cap9, T9, cur9, rfl, hg9, hB9, hs9, hc9, hb⟩; have HC9 := hide hc9; clear hc9)
            try go_wp2_with fail
            refine hK.out _ _ (by exact ⟨⟨(B3.on (hHeld.2.trans (hb.mono hHeld.2.size))).at 0, (B4.on (hHeld.2.trans (hb.mono hHeld.2.size))).at 0⟩, hHeld.2.trans (hb.mono hHeld.2.size)⟩) (fun hHeld => ?_)
            clear hK K
            refine take_one 22 (by kernel_rfl) rfl (fun K hK => ?_)
            go_simp
            (refine (implPastWithin_any (some ⟨g9, 0, none⟩) a1 cap9 c1 z4 ts _ (by simp) hn1 (Tg.of hB9 hB9.inside HC9.out) ((T1.on hHeld.2).up hHeld.2.size)).mono ?_; rintro e wf ⟨rfl, hb⟩; rw [HN.out])
            try go_wp2_with fail
            refine hK.out _ _ (by exact ⟨⟨(B3.on (hHeld.2.trans (hb.mono hHeld.2.size))).at 0, (B4.on (hHeld.2.trans (hb.mono hHeld.2.size))).at 0⟩, hHeld.2.trans (hb.mono hHeld.2.size)⟩) (fun hHeld => ?_)
            clear hK K
            refine take_run 23 (some 60) (v := ?_) rfl rfl (by kernel_rfl) (by kernel_rfl) (by kernel_rfl) (fun _ _ _ h => h) (by rfl) ?_ hHeld ?_
            rotate_left
            · ((intro w hSw); (try dsimp only at hSw); go_simp <;> with_reducible rfl)
            simp only [Act.put, List.setIfInBounds_toArray, List.set_cons_zero, List.set_cons_succ]
            refine take_run 24 (some 2) (v := ?_) rfl rfl (by kernel_rfl) (by kernel_rfl) (by kernel_rfl) (fun _ _ _ h => h) (by rfl) ?_ hHeld ?_
            rotate_left
            · ((intro w hSw); (try dsimp only at hSw); go_simp <;> with_reducible rfl)
            simp only [Act.put, List.setIfInBounds_toArray, List.set_cons_zero, List.set_cons_succ]
            refine wpAnyH_done (by kernel_rfl) ?_ _
            refine NoPanic.normal ?_
            have L9 := L0.trans (hHeld.2.mono L0.size)
            clear hHeld
            go_wp2
            go_ret
            exact ⟨rfl, L9⟩

set_option maxRecDepth 100000 in
theorem lifted (os : Os) (started : os.Started) (H : Type) (enc : TypeId × Value → H) :
    ReturnsInHanded {} Try.checked os 4 .any (Rows.fnPastWithinSpec.pre6 enc Try.prog Try.f4 Rows.fnPastWithinRow.domain false) (Rows.fnPastWithinSpec.post enc Try.prog Try.f4 false true false false) := by
  refine returnsInHanded_of_change (C := Try.checked) own started (by kernel_rfl) Try.func4
    (ChangeSpec.witness6 (enc := enc) (C := Try.checked) false ⟨#[], #[.slice none 0 0], []⟩ 8 (by kernel_rfl) (by kernel_rfl) (by kernel_rfl) (by kernel_rfl)) ?_
  intro W base args ds gs before hval0 hW hcnd _
  have hval : ∀ (j : Nat) t v, Try.f4.params[j]? = some t → args[j]? = some v → Value.okWide Try.prog W .any base t v := hval0
  have hW' := hW
  obtain ⟨p, q, hA0, hV, rfl, hfz, hnd⟩ := hW
  have hA : DataW.TrodAll enc Try.prog W 0 (fun _ => true) true Try.f4.params.toList args.toList ds p := hA0
  rw [Try.params4] at hA hval
  have hK := hA
  obtain ⟨v0, vs0, d0, ds0, p0, q0, hargs, rfl, rfl, h0, r0⟩ := trodAll_cons hA
  obtain ⟨rfl, rfl, rfl⟩ := trodAll_nil r0
  obtain rfl : args = #[v0] := by cases args; simp_all
  obtain ⟨rfl, rfl⟩ := trodVars_none hV
  obtain ⟨a0, len0, cap0, rfl, b0⟩ := read_bytes (hval 0 22 v0 rfl rfl) h0
  clear hA0 hval0
  refine (walk a0 len0 cap0 W b0).mono fun e W' ⟨he, hb⟩ => ?_
  subst he
  have hK' := stay_all hb (by intro t ht; simp only [List.mem_cons, List.not_mem_nil, or_false] at ht; rcases ht with rfl <;> exact ⟨by kernel_rfl, of_decide_eq_true (by kernel_rfl)⟩) hK
  exact ⟨_, rfl, _, _, _, [], _, [], hW', trodAll_mk1 (shut_bool Try.underlying4 _), hK', rfl, hb.frame _, fun h => by cases h⟩

theorem over : Rows.fnPastWithinRow.holds Try.pinned (OpenSpec.ofChange Rows.fnPastWithinSpec) :=
  OpenClaim.holds_of_wide 4 Try.f4 rfl rfl rfl rfl rfl rfl rfl ⟨rfl, rfl, rfl, rfl, rfl⟩ rfl rfl rfl rfl rfl (by kernel_rfl) Try.func4
    (by refine joined_of ?_; kernel_rfl) (of_decide_eq_true (by kernel_rfl)) (by unfold Func.isWrapper; first | (rw [if_pos (by decide +kernel)]; kernel_rfl) | (rw [if_neg (by decide +kernel)]; exact ⟨rfl, rfl⟩))
    (fun os started H enc _ => lifted os started H enc)
end Go.Proofs.Ytkkjhfgjjakmfaa.FnPastWithin
namespace Go.Proofs.Ytkkjhfgjjakmfaa
/-- The statement itself. -/
theorem fnPastWithin_holds : Rows.FnPastWithinSaid := FnPastWithin.over
#print axioms fnPastWithin_holds
end Go.Proofs.Ytkkjhfgjjakmfaa
namespace Go.Proofs.Ytkkjhfgjjakmfaa.FnPastWithin
end Go.Proofs.Ytkkjhfgjjakmfaa.FnPastWithin
