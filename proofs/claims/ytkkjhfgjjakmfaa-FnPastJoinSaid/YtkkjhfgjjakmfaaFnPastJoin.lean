/- The law FnPastJoin (promise 5) holds: of drawn causes, those of both are those of each, and no more; the other way round it is the same, with themselves they stay. No condition. -/
import Derived.Test.YtkkjhfgjjakmfaaLift
import Derived.Test.YtkkjhfgjjakmfaaDrawPasts4
import Derived.Test.YtkkjhfgjjakmfaaPastPure2
import Derived.Test.YtkkjhfgjjakmfaaReg
namespace Go.Proofs.Ytkkjhfgjjakmfaa.FnPastJoin
open Go.ChangeShapes Go.WideShapes Go.ChangeAt Go.RowKit Go.Joins
attribute [local go_sem ↓] Go.wp_at_zero Go.wp_at_succ

set_option maxRecDepth 100000 in
set_option maxHeartbeats 4000000 in
theorem walk (a : Option Addr) (len cap : Nat) (w : World) (hc : Code0 w a len cap) :
    Calls Try.prog 3 #[.slice a len cap] w fun e w' => e = .returned (.bool true) ∧ Below w.heap.size w w' := by
  by_cases h1 : 1048576 < len
  · have h1' : (1048576 : Int) < (len : Int) := by omega
    go_enter Try.func3, Try.ntmps3
    go_wp2
    go_ret
    exact ⟨rfl, Below.refl _ _⟩
  · have h1' : (len : Int) ≤ 1048576 := by omega
    go_enter Try.func3, Try.ntmps3
    go_wp2_with fail
    refine (drawPastJoin_any w a len cap hc (by omega)).mono ?_
    rintro e w1 ⟨a1, a2, c1, c2, ts, us, rfl, hl1, hl2, ht1, ht2, hb1⟩
    have hn1 : ts.length ≤ 1048576 := by omega
    have hn2 : us.length ≤ 1048576 := by omega
    have hj := joinL_len ts us
    have hn5 : (joinL ts us).length ≤ 1048576 := by omega
    have LA := below_alloc2 w1 (.cells #[.slice a1 ts.length c1] 25) (.cells #[.slice a2 us.length c2] 25)
    have B3' : Blk ((w1.alloc (.cells #[.slice a1 ts.length c1] 25)).alloc (.cells #[.slice a2 us.length c2] 25)) w1.heap.size 25 #[.slice a1 ts.length c1] := (Blk.made _ _ _).more _
    have B4' := Blk.made (w1.alloc (.cells #[.slice a1 ts.length c1] 25)) 25 #[.slice a2 us.length c2]
    simp only [World.size_alloc] at B4'
    have T1' := (ht1.on LA).up LA.size
    have T2' := (ht2.on LA).up LA.size
    have L0' := hb1.trans (LA.mono hb1.size)
    clear ht1 ht2 LA hb1 hc
    go_wp2_with fail
    generalize (w1.alloc (.cells #[.slice a1 ts.length c1] 25)).alloc (.cells #[.slice a2 us.length c2] 25) = W1 at B3' B4' T1' T2' L0' ⊢
    generalize w1.heap.size + 1 = p4 at *
    generalize w1.heap.size = p3 at *
    refine (implPastJoin_any a1 a2 c1 c2 ts us W1 hn1 hn2 T1' T2').mono ?_
    rintro e w2 ⟨A5, cap5, rfl, R5, hb2⟩
    have LB := hb2.trans ((below_alloc1 w2 (.cells #[.slice A5 (joinL ts us).length cap5] 25)).mono hb2.size)
    have B3 := B3'.on LB
    have B4 := B4'.on LB
    have B5 := Blk.made w2 25 #[.slice A5 (joinL ts us).length cap5]
    have T1 := (T1'.on LB).up LB.size
    have T2 := (T2'.on LB).up LB.size
    have T5 := (R5.alloc (.cells #[.slice A5 (joinL ts us).length cap5] 25)).tg
    have L0 := L0'.trans (LB.mono L0'.size)
    clear B3' B4' T1' T2' L0' LB hb2 R5
    go_wp2_with fail
    generalize w2.alloc (.cells #[.slice A5 (joinL ts us).length cap5] 25) = W at B3 B4 B5 T1 T2 T5 L0 ⊢
    generalize w2.heap.size = p5 at *
    have LR := Below.refl W.heap.size W
    cases hp : pastB ts
    · have HP := hide hp
      clear hp
      refine wp_region_noPanic ?_
      refine wp_region_held_drew (S := (fun w' => (w'.cell? ⟨p3, 0, none⟩ = some (.slice a1 ts.length c1) ∧ w'.cell? ⟨p4, 0, none⟩ = some (.slice a2 us.length c2) ∧ w'.cell? ⟨p5, 0, none⟩ = some (.slice A5 (joinL ts us).length cap5)) ∧ Below W.heap.size W w')) (by kernel_rfl) (by exact ⟨⟨((B3.on LR).drew).at 0, ((B4.on LR).drew).at 0, ((B5.on LR).drew).at 0⟩, (LR).drew⟩) (fun hHeld => ?_)
      refine take_run 0 (some 18) (v := ?_) rfl rfl (by kernel_rfl) (by kernel_rfl) (by kernel_rfl) (fun _ _ _ h => h) (by rfl) ?_ hHeld ?_
      rotate_left
      · ((intro w hSw); (try dsimp only at hSw); go_simp <;> with_reducible rfl)
      simp only [Act.put, List.setIfInBounds_toArray, List.set_cons_zero, List.set_cons_succ]
      refine take_run 1 (some 19) (v := ?_) rfl rfl (by kernel_rfl) (by kernel_rfl) (by kernel_rfl) (fun _ _ _ h => h) (by rfl) ?_ hHeld ?_
      rotate_left
      · ((intro w hSw); (try dsimp only at hSw); go_simp <;> with_reducible rfl)
      simp only [Act.put, List.setIfInBounds_toArray, List.set_cons_zero, List.set_cons_succ]
      refine take_run 2 (some 20) (v := ?_) rfl rfl (by kernel_rfl) (by kernel_rfl) (by kernel_rfl) (fun _ _ _ h => h) (by rfl) ?_ hHeld ?_
      rotate_left
      · ((intro w hSw); (try dsimp only at hSw); go_simp <;> with_reducible rfl)
      simp only [Act.put, List.setIfInBounds_toArray, List.set_cons_zero, List.set_cons_succ]
      refine take_one 3 (by kernel_rfl) rfl (fun K hK => ?_)
      go_simp
      (refine (specPastJoin_any a1 a2 c1 c2 ts us _ hn1 hn2 ((T1.on hHeld.2).up hHeld.2.size) ((T2.on hHeld.2).up hHeld.2.size)).mono ?_; rintro e wa3 ⟨A3, cap3, rfl, hR3, hb⟩)
      try go_wp2_with fail
      refine hK.out _ _ (by exact ⟨⟨(B3.on (hHeld.2.trans (hb.mono hHeld.2.size))).at 0, (B4.on (hHeld.2.trans (hb.mono hHeld.2.size))).at 0, (B5.on (hHeld.2.trans (hb.mono hHeld.2.size))).at 0⟩, hHeld.2.trans (hb.mono hHeld.2.size)⟩) (fun hHeld => ?_)
      clear hK K
      refine take_one 4 (by kernel_rfl) rfl (fun K hK => ?_)
      go_simp
      (refine (cfPast_any A5 A3 cap5 cap3 (joinL ts us) (joinL ts us) _ hn5 hn5 ((T5.on hHeld.2).up hHeld.2.size) hR3.tg).mono ?_; rintro e wb4 ⟨rfl, hb⟩; rw [decide_eq_true rfl])
      try go_wp2_with fail
      refine hK.out _ _ (by exact ⟨⟨(B3.on (hHeld.2.trans (hb.mono hHeld.2.size))).at 0, (B4.on (hHeld.2.trans (hb.mono hHeld.2.size))).at 0, (B5.on (hHeld.2.trans (hb.mono hHeld.2.size))).at 0⟩, hHeld.2.trans (hb.mono hHeld.2.size)⟩) (fun hHeld => ?_)
      clear hK K
      refine take_run 5 (some 23) (v := ?_) rfl rfl (by kernel_rfl) (by kernel_rfl) (by kernel_rfl) (fun _ _ _ h => h) (by rfl) ?_ hHeld ?_
      rotate_left
      · ((intro w hSw); (try dsimp only at hSw); go_simp <;> with_reducible rfl)
      simp only [Act.put, List.setIfInBounds_toArray, List.set_cons_zero, List.set_cons_succ]
      refine take_run 6 (some 24) (v := ?_) rfl rfl (by kernel_rfl) (by kernel_rfl) (by kernel_rfl) (fun _ _ _ h => h) (by rfl) ?_ hHeld ?_
      rotate_left
      · ((intro w hSw); (try dsimp only at hSw); go_simp <;> with_reducible rfl)
      simp only [Act.put, List.setIfInBounds_toArray, List.set_cons_zero, List.set_cons_succ]
      refine take_run 7 (some 25) (v := ?_) rfl rfl (by kernel_rfl) (by kernel_rfl) (by kernel_rfl) (fun _ _ _ h => h) (by rfl) ?_ hHeld ?_
      rotate_left
      · ((intro w hSw); (try dsimp only at hSw); go_simp <;> with_reducible rfl)
      simp only [Act.put, List.setIfInBounds_toArray, List.set_cons_zero, List.set_cons_succ]
      refine take_run 9 (some 27) (v := ?_) rfl rfl (by kernel_rfl) (by kernel_rfl) (by kernel_rfl) (fun _ _ _ h => h) (by rfl) ?_ hHeld ?_
      rotate_left
      · ((intro w hSw); (try dsimp only at hSw); go_simp <;> with_reducible rfl)
      simp only [Act.put, List.setIfInBounds_toArray, List.set_cons_zero, List.set_cons_succ]
      refine take_one 8 (by kernel_rfl) rfl (fun K hK => ?_)
      go_simp
      (refine (implPastOk_any a1 c1 ts _ hn1 ((T1.on hHeld.2).up hHeld.2.size)).mono ?_; rintro e wc8 ⟨rfl, hb⟩; rw [HP.out])
      try go_wp2_with fail
      refine hK.out _ _ (by exact ⟨⟨(B3.on (hHeld.2.trans (hb.mono hHeld.2.size))).at 0, (B4.on (hHeld.2.trans (hb.mono hHeld.2.size))).at 0, (B5.on (hHeld.2.trans (hb.mono hHeld.2.size))).at 0⟩, hHeld.2.trans (hb.mono hHeld.2.size)⟩) (fun hHeld => ?_)
      clear hK K
      refine take_one 10 (by kernel_rfl) rfl (fun K hK => ?_)
      go_simp
      (refine (specPastOk_any a1 c1 ts _ hn1 ((T1.on hHeld.2).up hHeld.2.size)).mono ?_; rintro e wc10 ⟨rfl, hb⟩; rw [HP.out])
      try go_wp2_with fail
      refine hK.out _ _ (by exact ⟨⟨(B3.on (hHeld.2.trans (hb.mono hHeld.2.size))).at 0, (B4.on (hHeld.2.trans (hb.mono hHeld.2.size))).at 0, (B5.on (hHeld.2.trans (hb.mono hHeld.2.size))).at 0⟩, hHeld.2.trans (hb.mono hHeld.2.size)⟩) (fun hHeld => ?_)
      clear hK K
      refine take_run 11 (some 29) (v := ?_) rfl rfl (by kernel_rfl) (by kernel_rfl) (by kernel_rfl) (fun _ _ _ h => h) (by rfl) ?_ hHeld ?_
      rotate_left
      · ((intro w hSw); (try dsimp only at hSw); go_simp <;> with_reducible rfl)
      simp only [Act.put, List.setIfInBounds_toArray, List.set_cons_zero, List.set_cons_succ]
      refine take_run 12 (some 30) (v := ?_) rfl rfl (by kernel_rfl) (by kernel_rfl) (by kernel_rfl) (fun _ _ _ h => h) (by rfl) ?_ hHeld ?_
      rotate_left
      · ((intro w hSw); (try dsimp only at hSw); go_simp <;> with_reducible rfl)
      simp only [Act.put, List.setIfInBounds_toArray, List.set_cons_zero, List.set_cons_succ]
      refine take_run 13 (some 31) (v := ?_) rfl rfl (by kernel_rfl) (by kernel_rfl) (by kernel_rfl) (fun _ _ _ h => h) (by rfl) ?_ hHeld ?_
      rotate_left
      · ((intro w hSw); (try dsimp only at hSw); go_simp <;> with_reducible rfl)
      simp only [Act.put, List.setIfInBounds_toArray, List.set_cons_zero, List.set_cons_succ]
      refine take_run 14 (some 32) (v := ?_) rfl rfl (by kernel_rfl) (by kernel_rfl) (by kernel_rfl) (fun _ _ _ h => h) (by rfl) ?_ hHeld ?_
      rotate_left
      · ((intro w hSw); (try dsimp only at hSw); go_simp <;> with_reducible rfl)
      simp only [Act.put, List.setIfInBounds_toArray, List.set_cons_zero, List.set_cons_succ]
      refine take_one 15 (by kernel_rfl) rfl (fun K hK => ?_)
      go_simp
      (refine (implPastOk_any a1 c1 ts _ hn1 ((T1.on hHeld.2).up hHeld.2.size)).mono ?_; rintro e wc15 ⟨rfl, hb⟩; rw [HP.out])
      try go_wp2_with fail
      refine hK.out _ _ (by exact ⟨⟨(B3.on (hHeld.2.trans (hb.mono hHeld.2.size))).at 0, (B4.on (hHeld.2.trans (hb.mono hHeld.2.size))).at 0, (B5.on (hHeld.2.trans (hb.mono hHeld.2.size))).at 0⟩, hHeld.2.trans (hb.mono hHeld.2.size)⟩) (fun hHeld => ?_)
      clear hK K
      refine take_run 16 (some 34) (v := ?_) rfl rfl (by kernel_rfl) (by kernel_rfl) (by kernel_rfl) (fun _ _ _ h => h) (by rfl) ?_ hHeld ?_
      rotate_left
      · ((intro w hSw); (try dsimp only at hSw); go_simp <;> with_reducible rfl)
      simp only [Act.put, List.setIfInBounds_toArray, List.set_cons_zero, List.set_cons_succ]
      refine take_run 17 (some 35) (v := ?_) rfl rfl (by kernel_rfl) (by kernel_rfl) (by kernel_rfl) (fun _ _ _ h => h) (by rfl) ?_ hHeld ?_
      rotate_left
      · ((intro w hSw); (try dsimp only at hSw); go_simp <;> with_reducible rfl)
      simp only [Act.put, List.setIfInBounds_toArray, List.set_cons_zero, List.set_cons_succ]
      refine take_run 18 (some 36) (v := ?_) rfl rfl (by kernel_rfl) (by kernel_rfl) (by kernel_rfl) (fun _ _ _ h => h) (by rfl) ?_ hHeld ?_
      rotate_left
      · ((intro w hSw); (try dsimp only at hSw); go_simp <;> with_reducible rfl)
      simp only [Act.put, List.setIfInBounds_toArray, List.set_cons_zero, List.set_cons_succ]
      refine take_skip 19 (some 37) rfl rfl (by kernel_rfl) (by kernel_rfl) (by kernel_rfl) (fun _ _ _ h => h) (by rfl) hHeld ?_
      simp only [Act.put, List.setIfInBounds_toArray, List.set_cons_zero, List.set_cons_succ]
      refine take_skip 20 (some 38) rfl rfl (by kernel_rfl) (by kernel_rfl) (by kernel_rfl) (fun _ _ _ h => h) (by rfl) hHeld ?_
      simp only [Act.put, List.setIfInBounds_toArray, List.set_cons_zero, List.set_cons_succ]
      refine take_skip 21 (some 39) rfl rfl (by kernel_rfl) (by kernel_rfl) (by kernel_rfl) (fun _ _ _ h => h) (by rfl) hHeld ?_
      simp only [Act.put, List.setIfInBounds_toArray, List.set_cons_zero, List.set_cons_succ]
      refine take_run 22 (some 40) (v := ?_) rfl rfl (by kernel_rfl) (by kernel_rfl) (by kernel_rfl) (fun _ _ _ h => h) (by rfl) ?_ hHeld ?_
      rotate_left
      · ((intro w hSw); (try dsimp only at hSw); go_simp <;> with_reducible rfl)
      simp only [Act.put, List.setIfInBounds_toArray, List.set_cons_zero, List.set_cons_succ]
      refine wpAnyH_done (by kernel_rfl) ?_ _
      refine NoPanic.normal ?_
      have LX := hHeld.2
      clear hHeld
      go_wp2_with fail
      refine wp_region_noPanic ?_
      refine wp_region_held_drew (S := (fun w' => (w'.cell? ⟨p3, 0, none⟩ = some (.slice a1 ts.length c1) ∧ w'.cell? ⟨p4, 0, none⟩ = some (.slice a2 us.length c2) ∧ w'.cell? ⟨p5, 0, none⟩ = some (.slice A5 (joinL ts us).length cap5)) ∧ Below W.heap.size W w')) (by kernel_rfl) (by exact ⟨⟨((B3.on LX).drew).at 0, ((B4.on LX).drew).at 0, ((B5.on LX).drew).at 0⟩, (LX).drew⟩) (fun hHeld => ?_)
      refine take_run 0 (some 41) (v := ?_) rfl rfl (by kernel_rfl) (by kernel_rfl) (by kernel_rfl) (fun _ _ _ h => h) (by rfl) ?_ hHeld ?_
      rotate_left
      · ((intro w hSw); (try dsimp only at hSw); go_simp <;> with_reducible rfl)
      simp only [Act.put, List.setIfInBounds_toArray, List.set_cons_zero, List.set_cons_succ]
      refine take_run 1 (some 42) (v := ?_) rfl rfl (by kernel_rfl) (by kernel_rfl) (by kernel_rfl) (fun _ _ _ h => h) (by rfl) ?_ hHeld ?_
      rotate_left
      · ((intro w hSw); (try dsimp only at hSw); go_simp <;> with_reducible rfl)
      simp only [Act.put, List.setIfInBounds_toArray, List.set_cons_zero, List.set_cons_succ]
      refine take_run 2 (some 43) (v := ?_) rfl rfl (by kernel_rfl) (by kernel_rfl) (by kernel_rfl) (fun _ _ _ h => h) (by rfl) ?_ hHeld ?_
      rotate_left
      · ((intro w hSw); (try dsimp only at hSw); go_simp <;> with_reducible rfl)
      simp only [Act.put, List.setIfInBounds_toArray, List.set_cons_zero, List.set_cons_succ]
      refine take_one 3 (by kernel_rfl) rfl (fun K hK => ?_)
      go_simp
      (refine (specPastJoin_any a1 a2 c1 c2 ts us _ hn1 hn2 ((T1.on hHeld.2).up hHeld.2.size) ((T2.on hHeld.2).up hHeld.2.size)).mono ?_; rintro e wa3 ⟨A3, cap3, rfl, hR3, hb⟩)
      try go_wp2_with fail
      refine hK.out _ _ (by exact ⟨⟨(B3.on (hHeld.2.trans (hb.mono hHeld.2.size))).at 0, (B4.on (hHeld.2.trans (hb.mono hHeld.2.size))).at 0, (B5.on (hHeld.2.trans (hb.mono hHeld.2.size))).at 0⟩, hHeld.2.trans (hb.mono hHeld.2.size)⟩) (fun hHeld => ?_)
      clear hK K
      refine take_one 4 (by kernel_rfl) rfl (fun K hK => ?_)
      go_simp
      (refine (cfPast_any A5 A3 cap5 cap3 (joinL ts us) (joinL ts us) _ hn5 hn5 ((T5.on hHeld.2).up hHeld.2.size) hR3.tg).mono ?_; rintro e wb4 ⟨rfl, hb⟩; rw [decide_eq_true rfl])
      try go_wp2_with fail
      refine hK.out _ _ (by exact ⟨⟨(B3.on (hHeld.2.trans (hb.mono hHeld.2.size))).at 0, (B4.on (hHeld.2.trans (hb.mono hHeld.2.size))).at 0, (B5.on (hHeld.2.trans (hb.mono hHeld.2.size))).at 0⟩, hHeld.2.trans (hb.mono hHeld.2.size)⟩) (fun hHeld => ?_)
      clear hK K
      refine take_run 5 (some 46) (v := ?_) rfl rfl (by kernel_rfl) (by kernel_rfl) (by kernel_rfl) (fun _ _ _ h => h) (by rfl) ?_ hHeld ?_
      rotate_left
      · ((intro w hSw); (try dsimp only at hSw); go_simp <;> with_reducible rfl)
      simp only [Act.put, List.setIfInBounds_toArray, List.set_cons_zero, List.set_cons_succ]
      refine take_run 6 (some 47) (v := ?_) rfl rfl (by kernel_rfl) (by kernel_rfl) (by kernel_rfl) (fun _ _ _ h => h) (by rfl) ?_ hHeld ?_
      rotate_left
      · ((intro w hSw); (try dsimp only at hSw); go_simp <;> with_reducible rfl)
      simp only [Act.put, List.setIfInBounds_toArray, List.set_cons_zero, List.set_cons_succ]
      refine take_run 8 (some 49) (v := ?_) rfl rfl (by kernel_rfl) (by kernel_rfl) (by kernel_rfl) (fun _ _ _ h => h) (by rfl) ?_ hHeld ?_
      rotate_left
      · ((intro w hSw); (try dsimp only at hSw); go_simp <;> with_reducible rfl)
      simp only [Act.put, List.setIfInBounds_toArray, List.set_cons_zero, List.set_cons_succ]
      refine take_one 7 (by kernel_rfl) rfl (fun K hK => ?_)
      go_simp
      (refine (implPastOk_any a1 c1 ts _ hn1 ((T1.on hHeld.2).up hHeld.2.size)).mono ?_; rintro e wc7 ⟨rfl, hb⟩; rw [HP.out])
      try go_wp2_with fail
      refine hK.out _ _ (by exact ⟨⟨(B3.on (hHeld.2.trans (hb.mono hHeld.2.size))).at 0, (B4.on (hHeld.2.trans (hb.mono hHeld.2.size))).at 0, (B5.on (hHeld.2.trans (hb.mono hHeld.2.size))).at 0⟩, hHeld.2.trans (hb.mono hHeld.2.size)⟩) (fun hHeld => ?_)
      clear hK K
      refine take_one 9 (by kernel_rfl) rfl (fun K hK => ?_)
      go_simp
      (refine (specPastOk_any a1 c1 ts _ hn1 ((T1.on hHeld.2).up hHeld.2.size)).mono ?_; rintro e wc9 ⟨rfl, hb⟩; rw [HP.out])
      try go_wp2_with fail
      refine hK.out _ _ (by exact ⟨⟨(B3.on (hHeld.2.trans (hb.mono hHeld.2.size))).at 0, (B4.on (hHeld.2.trans (hb.mono hHeld.2.size))).at 0, (B5.on (hHeld.2.trans (hb.mono hHeld.2.size))).at 0⟩, hHeld.2.trans (hb.mono hHeld.2.size)⟩) (fun hHeld => ?_)
      clear hK K
      refine take_run 10 (some 51) (v := ?_) rfl rfl (by kernel_rfl) (by kernel_rfl) (by kernel_rfl) (fun _ _ _ h => h) (by rfl) ?_ hHeld ?_
      rotate_left
      · ((intro w hSw); (try dsimp only at hSw); go_simp <;> with_reducible rfl)
      simp only [Act.put, List.setIfInBounds_toArray, List.set_cons_zero, List.set_cons_succ]
      refine take_run 11 (some 52) (v := ?_) rfl rfl (by kernel_rfl) (by kernel_rfl) (by kernel_rfl) (fun _ _ _ h => h) (by rfl) ?_ hHeld ?_
      rotate_left
      · ((intro w hSw); (try dsimp only at hSw); go_simp <;> with_reducible rfl)
      simp only [Act.put, List.setIfInBounds_toArray, List.set_cons_zero, List.set_cons_succ]
      refine take_run 12 (some 2) (v := ?_) rfl rfl (by kernel_rfl) (by kernel_rfl) (by kernel_rfl) (fun _ _ _ h => h) (by rfl) ?_ hHeld ?_
      rotate_left
      · ((intro w hSw); (try dsimp only at hSw); go_simp <;> with_reducible rfl)
      simp only [Act.put, List.setIfInBounds_toArray, List.set_cons_zero, List.set_cons_succ]
      refine wpAnyH_done (by kernel_rfl) ?_ _
      refine NoPanic.normal ?_
      have L9 := L0.trans (hHeld.2.mono L0.size)
      clear hHeld
      go_wp2
      go_ret
      exact ⟨rfl, L9⟩
    · have HP := hide hp
      clear hp
      cases hq : pastB us
      · have HQ := hide hq
        clear hq
        refine wp_region_noPanic ?_
        refine wp_region_held_drew (S := (fun w' => (w'.cell? ⟨p3, 0, none⟩ = some (.slice a1 ts.length c1) ∧ w'.cell? ⟨p4, 0, none⟩ = some (.slice a2 us.length c2) ∧ w'.cell? ⟨p5, 0, none⟩ = some (.slice A5 (joinL ts us).length cap5)) ∧ Below W.heap.size W w')) (by kernel_rfl) (by exact ⟨⟨((B3.on LR).drew).at 0, ((B4.on LR).drew).at 0, ((B5.on LR).drew).at 0⟩, (LR).drew⟩) (fun hHeld => ?_)
        refine take_run 0 (some 18) (v := ?_) rfl rfl (by kernel_rfl) (by kernel_rfl) (by kernel_rfl) (fun _ _ _ h => h) (by rfl) ?_ hHeld ?_
        rotate_left
        · ((intro w hSw); (try dsimp only at hSw); go_simp <;> with_reducible rfl)
        simp only [Act.put, List.setIfInBounds_toArray, List.set_cons_zero, List.set_cons_succ]
        refine take_run 1 (some 19) (v := ?_) rfl rfl (by kernel_rfl) (by kernel_rfl) (by kernel_rfl) (fun _ _ _ h => h) (by rfl) ?_ hHeld ?_
        rotate_left
        · ((intro w hSw); (try dsimp only at hSw); go_simp <;> with_reducible rfl)
        simp only [Act.put, List.setIfInBounds_toArray, List.set_cons_zero, List.set_cons_succ]
        refine take_run 2 (some 20) (v := ?_) rfl rfl (by kernel_rfl) (by kernel_rfl) (by kernel_rfl) (fun _ _ _ h => h) (by rfl) ?_ hHeld ?_
        rotate_left
        · ((intro w hSw); (try dsimp only at hSw); go_simp <;> with_reducible rfl)
        simp only [Act.put, List.setIfInBounds_toArray, List.set_cons_zero, List.set_cons_succ]
        refine take_one 3 (by kernel_rfl) rfl (fun K hK => ?_)
        go_simp
        (refine (specPastJoin_any a1 a2 c1 c2 ts us _ hn1 hn2 ((T1.on hHeld.2).up hHeld.2.size) ((T2.on hHeld.2).up hHeld.2.size)).mono ?_; rintro e wa3 ⟨A3, cap3, rfl, hR3, hb⟩)
        try go_wp2_with fail
        refine hK.out _ _ (by exact ⟨⟨(B3.on (hHeld.2.trans (hb.mono hHeld.2.size))).at 0, (B4.on (hHeld.2.trans (hb.mono hHeld.2.size))).at 0, (B5.on (hHeld.2.trans (hb.mono hHeld.2.size))).at 0⟩, hHeld.2.trans (hb.mono hHeld.2.size)⟩) (fun hHeld => ?_)
        clear hK K
        refine take_one 4 (by kernel_rfl) rfl (fun K hK => ?_)
        go_simp
        (refine (cfPast_any A5 A3 cap5 cap3 (joinL ts us) (joinL ts us) _ hn5 hn5 ((T5.on hHeld.2).up hHeld.2.size) hR3.tg).mono ?_; rintro e wb4 ⟨rfl, hb⟩; rw [decide_eq_true rfl])
        try go_wp2_with fail
        refine hK.out _ _ (by exact ⟨⟨(B3.on (hHeld.2.trans (hb.mono hHeld.2.size))).at 0, (B4.on (hHeld.2.trans (hb.mono hHeld.2.size))).at 0, (B5.on (hHeld.2.trans (hb.mono hHeld.2.size))).at 0⟩, hHeld.2.trans (hb.mono hHeld.2.size)⟩) (fun hHeld => ?_)
        clear hK K
        refine take_run 5 (some 23) (v := ?_) rfl rfl (by kernel_rfl) (by kernel_rfl) (by kernel_rfl) (fun _ _ _ h => h) (by rfl) ?_ hHeld ?_
        rotate_left
        · ((intro w hSw); (try dsimp only at hSw); go_simp <;> with_reducible rfl)
        simp only [Act.put, List.setIfInBounds_toArray, List.set_cons_zero, List.set_cons_succ]
        refine take_run 6 (some 24) (v := ?_) rfl rfl (by kernel_rfl) (by kernel_rfl) (by kernel_rfl) (fun _ _ _ h => h) (by rfl) ?_ hHeld ?_
        rotate_left
        · ((intro w hSw); (try dsimp only at hSw); go_simp <;> with_reducible rfl)
        simp only [Act.put, List.setIfInBounds_toArray, List.set_cons_zero, List.set_cons_succ]
        refine take_run 7 (some 25) (v := ?_) rfl rfl (by kernel_rfl) (by kernel_rfl) (by kernel_rfl) (fun _ _ _ h => h) (by rfl) ?_ hHeld ?_
        rotate_left
        · ((intro w hSw); (try dsimp only at hSw); go_simp <;> with_reducible rfl)
        simp only [Act.put, List.setIfInBounds_toArray, List.set_cons_zero, List.set_cons_succ]
        refine take_run 9 (some 27) (v := ?_) rfl rfl (by kernel_rfl) (by kernel_rfl) (by kernel_rfl) (fun _ _ _ h => h) (by rfl) ?_ hHeld ?_
        rotate_left
        · ((intro w hSw); (try dsimp only at hSw); go_simp <;> with_reducible rfl)
        simp only [Act.put, List.setIfInBounds_toArray, List.set_cons_zero, List.set_cons_succ]
        refine take_one 8 (by kernel_rfl) rfl (fun K hK => ?_)
        go_simp
        (refine (implPastOk_any a1 c1 ts _ hn1 ((T1.on hHeld.2).up hHeld.2.size)).mono ?_; rintro e wc8 ⟨rfl, hb⟩; rw [HP.out])
        try go_wp2_with fail
        refine hK.out _ _ (by exact ⟨⟨(B3.on (hHeld.2.trans (hb.mono hHeld.2.size))).at 0, (B4.on (hHeld.2.trans (hb.mono hHeld.2.size))).at 0, (B5.on (hHeld.2.trans (hb.mono hHeld.2.size))).at 0⟩, hHeld.2.trans (hb.mono hHeld.2.size)⟩) (fun hHeld => ?_)
        clear hK K
        refine take_one 10 (by kernel_rfl) rfl (fun K hK => ?_)
        go_simp
        (refine (specPastOk_any a1 c1 ts _ hn1 ((T1.on hHeld.2).up hHeld.2.size)).mono ?_; rintro e wc10 ⟨rfl, hb⟩; rw [HP.out])
        try go_wp2_with fail
        refine hK.out _ _ (by exact ⟨⟨(B3.on (hHeld.2.trans (hb.mono hHeld.2.size))).at 0, (B4.on (hHeld.2.trans (hb.mono hHeld.2.size))).at 0, (B5.on (hHeld.2.trans (hb.mono hHeld.2.size))).at 0⟩, hHeld.2.trans (hb.mono hHeld.2.size)⟩) (fun hHeld => ?_)
        clear hK K
        refine take_run 11 (some 29) (v := ?_) rfl rfl (by kernel_rfl) (by kernel_rfl) (by kernel_rfl) (fun _ _ _ h => h) (by rfl) ?_ hHeld ?_
        rotate_left
        · ((intro w hSw); (try dsimp only at hSw); go_simp <;> with_reducible rfl)
        simp only [Act.put, List.setIfInBounds_toArray, List.set_cons_zero, List.set_cons_succ]
        refine take_run 12 (some 30) (v := ?_) rfl rfl (by kernel_rfl) (by kernel_rfl) (by kernel_rfl) (fun _ _ _ h => h) (by rfl) ?_ hHeld ?_
        rotate_left
        · ((intro w hSw); (try dsimp only at hSw); go_simp <;> with_reducible rfl)
        simp only [Act.put, List.setIfInBounds_toArray, List.set_cons_zero, List.set_cons_succ]
        refine take_run 13 (some 31) (v := ?_) rfl rfl (by kernel_rfl) (by kernel_rfl) (by kernel_rfl) (fun _ _ _ h => h) (by rfl) ?_ hHeld ?_
        rotate_left
        · ((intro w hSw); (try dsimp only at hSw); go_simp <;> with_reducible rfl)
        simp only [Act.put, List.setIfInBounds_toArray, List.set_cons_zero, List.set_cons_succ]
        refine take_run 14 (some 32) (v := ?_) rfl rfl (by kernel_rfl) (by kernel_rfl) (by kernel_rfl) (fun _ _ _ h => h) (by rfl) ?_ hHeld ?_
        rotate_left
        · ((intro w hSw); (try dsimp only at hSw); go_simp <;> with_reducible rfl)
        simp only [Act.put, List.setIfInBounds_toArray, List.set_cons_zero, List.set_cons_succ]
        refine take_one 15 (by kernel_rfl) rfl (fun K hK => ?_)
        go_simp
        (refine (implPastOk_any a1 c1 ts _ hn1 ((T1.on hHeld.2).up hHeld.2.size)).mono ?_; rintro e wc15 ⟨rfl, hb⟩; rw [HP.out])
        try go_wp2_with fail
        refine hK.out _ _ (by exact ⟨⟨(B3.on (hHeld.2.trans (hb.mono hHeld.2.size))).at 0, (B4.on (hHeld.2.trans (hb.mono hHeld.2.size))).at 0, (B5.on (hHeld.2.trans (hb.mono hHeld.2.size))).at 0⟩, hHeld.2.trans (hb.mono hHeld.2.size)⟩) (fun hHeld => ?_)
        clear hK K
        refine take_run 16 (some 34) (v := ?_) rfl rfl (by kernel_rfl) (by kernel_rfl) (by kernel_rfl) (fun _ _ _ h => h) (by rfl) ?_ hHeld ?_
        rotate_left
        · ((intro w hSw); (try dsimp only at hSw); go_simp <;> with_reducible rfl)
        simp only [Act.put, List.setIfInBounds_toArray, List.set_cons_zero, List.set_cons_succ]
        refine take_run 17 (some 35) (v := ?_) rfl rfl (by kernel_rfl) (by kernel_rfl) (by kernel_rfl) (fun _ _ _ h => h) (by rfl) ?_ hHeld ?_
        rotate_left
        · ((intro w hSw); (try dsimp only at hSw); go_simp <;> with_reducible rfl)
        simp only [Act.put, List.setIfInBounds_toArray, List.set_cons_zero, List.set_cons_succ]
        refine take_run 18 (some 36) (v := ?_) rfl rfl (by kernel_rfl) (by kernel_rfl) (by kernel_rfl) (fun _ _ _ h => h) (by rfl) ?_ hHeld ?_
        rotate_left
        · ((intro w hSw); (try dsimp only at hSw); go_simp <;> with_reducible rfl)
        simp only [Act.put, List.setIfInBounds_toArray, List.set_cons_zero, List.set_cons_succ]
        refine take_run 19 (some 37) (v := ?_) rfl rfl (by kernel_rfl) (by kernel_rfl) (by kernel_rfl) (fun _ _ _ h => h) (by rfl) ?_ hHeld ?_
        rotate_left
        · ((intro w hSw); (try dsimp only at hSw); go_simp <;> with_reducible rfl)
        simp only [Act.put, List.setIfInBounds_toArray, List.set_cons_zero, List.set_cons_succ]
        refine take_one 20 (by kernel_rfl) rfl (fun K hK => ?_)
        go_simp
        (refine (implPastOk_any a2 c2 us _ hn2 ((T2.on hHeld.2).up hHeld.2.size)).mono ?_; rintro e wc20 ⟨rfl, hb⟩; rw [HQ.out])
        try go_wp2_with fail
        refine hK.out _ _ (by exact ⟨⟨(B3.on (hHeld.2.trans (hb.mono hHeld.2.size))).at 0, (B4.on (hHeld.2.trans (hb.mono hHeld.2.size))).at 0, (B5.on (hHeld.2.trans (hb.mono hHeld.2.size))).at 0⟩, hHeld.2.trans (hb.mono hHeld.2.size)⟩) (fun hHeld => ?_)
        clear hK K
        refine take_run 21 (some 39) (v := ?_) rfl rfl (by kernel_rfl) (by kernel_rfl) (by kernel_rfl) (fun _ _ _ h => h) (by rfl) ?_ hHeld ?_
        rotate_left
        · ((intro w hSw); (try dsimp only at hSw); go_simp <;> with_reducible rfl)
        simp only [Act.put, List.setIfInBounds_toArray, List.set_cons_zero, List.set_cons_succ]
        refine take_run 22 (some 40) (v := ?_) rfl rfl (by kernel_rfl) (by kernel_rfl) (by kernel_rfl) (fun _ _ _ h => h) (by rfl) ?_ hHeld ?_
        rotate_left
        · ((intro w hSw); (try dsimp only at hSw); go_simp <;> with_reducible rfl)
        simp only [Act.put, List.setIfInBounds_toArray, List.set_cons_zero, List.set_cons_succ]
        refine wpAnyH_done (by kernel_rfl) ?_ _
        refine NoPanic.normal ?_
        have LX := hHeld.2
        clear hHeld
        go_wp2_with fail
        refine wp_region_noPanic ?_
        refine wp_region_held_drew (S := (fun w' => (w'.cell? ⟨p3, 0, none⟩ = some (.slice a1 ts.length c1) ∧ w'.cell? ⟨p4, 0, none⟩ = some (.slice a2 us.length c2) ∧ w'.cell? ⟨p5, 0, none⟩ = some (.slice A5 (joinL ts us).length cap5)) ∧ Below W.heap.size W w')) (by kernel_rfl) (by exact ⟨⟨((B3.on LX).drew).at 0, ((B4.on LX).drew).at 0, ((B5.on LX).drew).at 0⟩, (LX).drew⟩) (fun hHeld => ?_)
        refine take_run 0 (some 41) (v := ?_) rfl rfl (by kernel_rfl) (by kernel_rfl) (by kernel_rfl) (fun _ _ _ h => h) (by rfl) ?_ hHeld ?_
        rotate_left
        · ((intro w hSw); (try dsimp only at hSw); go_simp <;> with_reducible rfl)
        simp only [Act.put, List.setIfInBounds_toArray, List.set_cons_zero, List.set_cons_succ]
        refine take_run 1 (some 42) (v := ?_) rfl rfl (by kernel_rfl) (by kernel_rfl) (by kernel_rfl) (fun _ _ _ h => h) (by rfl) ?_ hHeld ?_
        rotate_left
        · ((intro w hSw); (try dsimp only at hSw); go_simp <;> with_reducible rfl)
        simp only [Act.put, List.setIfInBounds_toArray, List.set_cons_zero, List.set_cons_succ]
        refine take_run 2 (some 43) (v := ?_) rfl rfl (by kernel_rfl) (by kernel_rfl) (by kernel_rfl) (fun _ _ _ h => h) (by rfl) ?_ hHeld ?_
        rotate_left
        · ((intro w hSw); (try dsimp only at hSw); go_simp <;> with_reducible rfl)
        simp only [Act.put, List.setIfInBounds_toArray, List.set_cons_zero, List.set_cons_succ]
        refine take_one 3 (by kernel_rfl) rfl (fun K hK => ?_)
        go_simp
        (refine (specPastJoin_any a1 a2 c1 c2 ts us _ hn1 hn2 ((T1.on hHeld.2).up hHeld.2.size) ((T2.on hHeld.2).up hHeld.2.size)).mono ?_; rintro e wa3 ⟨A3, cap3, rfl, hR3, hb⟩)
        try go_wp2_with fail
        refine hK.out _ _ (by exact ⟨⟨(B3.on (hHeld.2.trans (hb.mono hHeld.2.size))).at 0, (B4.on (hHeld.2.trans (hb.mono hHeld.2.size))).at 0, (B5.on (hHeld.2.trans (hb.mono hHeld.2.size))).at 0⟩, hHeld.2.trans (hb.mono hHeld.2.size)⟩) (fun hHeld => ?_)
        clear hK K
        refine take_one 4 (by kernel_rfl) rfl (fun K hK => ?_)
        go_simp
        (refine (cfPast_any A5 A3 cap5 cap3 (joinL ts us) (joinL ts us) _ hn5 hn5 ((T5.on hHeld.2).up hHeld.2.size) hR3.tg).mono ?_; rintro e wb4 ⟨rfl, hb⟩; rw [decide_eq_true rfl])
        try go_wp2_with fail
        refine hK.out _ _ (by exact ⟨⟨(B3.on (hHeld.2.trans (hb.mono hHeld.2.size))).at 0, (B4.on (hHeld.2.trans (hb.mono hHeld.2.size))).at 0, (B5.on (hHeld.2.trans (hb.mono hHeld.2.size))).at 0⟩, hHeld.2.trans (hb.mono hHeld.2.size)⟩) (fun hHeld => ?_)
        clear hK K
        refine take_run 5 (some 46) (v := ?_) rfl rfl (by kernel_rfl) (by kernel_rfl) (by kernel_rfl) (fun _ _ _ h => h) (by rfl) ?_ hHeld ?_
        rotate_left
        · ((intro w hSw); (try dsimp only at hSw); go_simp <;> with_reducible rfl)
        simp only [Act.put, List.setIfInBounds_toArray, List.set_cons_zero, List.set_cons_succ]
        refine take_run 6 (some 47) (v := ?_) rfl rfl (by kernel_rfl) (by kernel_rfl) (by kernel_rfl) (fun _ _ _ h => h) (by rfl) ?_ hHeld ?_
        rotate_left
        · ((intro w hSw); (try dsimp only at hSw); go_simp <;> with_reducible rfl)
        simp only [Act.put, List.setIfInBounds_toArray, List.set_cons_zero, List.set_cons_succ]
        refine take_run 8 (some 49) (v := ?_) rfl rfl (by kernel_rfl) (by kernel_rfl) (by kernel_rfl) (fun _ _ _ h => h) (by rfl) ?_ hHeld ?_
        rotate_left
        · ((intro w hSw); (try dsimp only at hSw); go_simp <;> with_reducible rfl)
        simp only [Act.put, List.setIfInBounds_toArray, List.set_cons_zero, List.set_cons_succ]
        refine take_one 7 (by kernel_rfl) rfl (fun K hK => ?_)
        go_simp
        (refine (implPastOk_any a1 c1 ts _ hn1 ((T1.on hHeld.2).up hHeld.2.size)).mono ?_; rintro e wc7 ⟨rfl, hb⟩; rw [HP.out])
        try go_wp2_with fail
        refine hK.out _ _ (by exact ⟨⟨(B3.on (hHeld.2.trans (hb.mono hHeld.2.size))).at 0, (B4.on (hHeld.2.trans (hb.mono hHeld.2.size))).at 0, (B5.on (hHeld.2.trans (hb.mono hHeld.2.size))).at 0⟩, hHeld.2.trans (hb.mono hHeld.2.size)⟩) (fun hHeld => ?_)
        clear hK K
        refine take_one 9 (by kernel_rfl) rfl (fun K hK => ?_)
        go_simp
        (refine (specPastOk_any a1 c1 ts _ hn1 ((T1.on hHeld.2).up hHeld.2.size)).mono ?_; rintro e wc9 ⟨rfl, hb⟩; rw [HP.out])
        try go_wp2_with fail
        refine hK.out _ _ (by exact ⟨⟨(B3.on (hHeld.2.trans (hb.mono hHeld.2.size))).at 0, (B4.on (hHeld.2.trans (hb.mono hHeld.2.size))).at 0, (B5.on (hHeld.2.trans (hb.mono hHeld.2.size))).at 0⟩, hHeld.2.trans (hb.mono hHeld.2.size)⟩) (fun hHeld => ?_)
        clear hK K
        refine take_run 10 (some 51) (v := ?_) rfl rfl (by kernel_rfl) (by kernel_rfl) (by kernel_rfl) (fun _ _ _ h => h) (by rfl) ?_ hHeld ?_
        rotate_left
        · ((intro w hSw); (try dsimp only at hSw); go_simp <;> with_reducible rfl)
        simp only [Act.put, List.setIfInBounds_toArray, List.set_cons_zero, List.set_cons_succ]
        refine take_run 11 (some 52) (v := ?_) rfl rfl (by kernel_rfl) (by kernel_rfl) (by kernel_rfl) (fun _ _ _ h => h) (by rfl) ?_ hHeld ?_
        rotate_left
        · ((intro w hSw); (try dsimp only at hSw); go_simp <;> with_reducible rfl)
        simp only [Act.put, List.setIfInBounds_toArray, List.set_cons_zero, List.set_cons_succ]
        refine take_run 12 (some 2) (v := ?_) rfl rfl (by kernel_rfl) (by kernel_rfl) (by kernel_rfl) (fun _ _ _ h => h) (by rfl) ?_ hHeld ?_
        rotate_left
        · ((intro w hSw); (try dsimp only at hSw); go_simp <;> with_reducible rfl)
        simp only [Act.put, List.setIfInBounds_toArray, List.set_cons_zero, List.set_cons_succ]
        refine wpAnyH_done (by kernel_rfl) ?_ _
        refine NoPanic.normal ?_
        have L9 := L0.trans (hHeld.2.mono L0.size)
        clear hHeld
        go_wp2
        go_ret
        exact ⟨rfl, L9⟩
      · have HQ := hide hq
        clear hq
        have HW1 := hide (within_join HP.out HQ.out)
        have HW2 : Hid (pwB us (joinL ts us) = true) := by unfold Hid; rw [← join_comm HP.out HQ.out]; exact within_join HQ.out HP.out
        have HC1 : Hid (decide (joinL us ts = joinL ts us) = true) := decide_eq_true (join_comm HP.out HQ.out)
        have HC2 : Hid (decide (joinL ts ts = ts) = true) := decide_eq_true (join_self HP.out)
        have HC3 : Hid (decide (joinL ts z4 = ts) = true) := decide_eq_true (join_none HP.out)
        refine wp_region_noPanic ?_
        refine wp_region_held_drew (S := (fun w' => (w'.cell? ⟨p3, 0, none⟩ = some (.slice a1 ts.length c1) ∧ w'.cell? ⟨p4, 0, none⟩ = some (.slice a2 us.length c2) ∧ w'.cell? ⟨p5, 0, none⟩ = some (.slice A5 (joinL ts us).length cap5)) ∧ Below W.heap.size W w')) (by kernel_rfl) (by exact ⟨⟨((B3.on LR).drew).at 0, ((B4.on LR).drew).at 0, ((B5.on LR).drew).at 0⟩, (LR).drew⟩) (fun hHeld => ?_)
        refine take_run 0 (some 18) (v := ?_) rfl rfl (by kernel_rfl) (by kernel_rfl) (by kernel_rfl) (fun _ _ _ h => h) (by rfl) ?_ hHeld ?_
        rotate_left
        · ((intro w hSw); (try dsimp only at hSw); go_simp <;> with_reducible rfl)
        simp only [Act.put, List.setIfInBounds_toArray, List.set_cons_zero, List.set_cons_succ]
        refine take_run 1 (some 19) (v := ?_) rfl rfl (by kernel_rfl) (by kernel_rfl) (by kernel_rfl) (fun _ _ _ h => h) (by rfl) ?_ hHeld ?_
        rotate_left
        · ((intro w hSw); (try dsimp only at hSw); go_simp <;> with_reducible rfl)
        simp only [Act.put, List.setIfInBounds_toArray, List.set_cons_zero, List.set_cons_succ]
        refine take_run 2 (some 20) (v := ?_) rfl rfl (by kernel_rfl) (by kernel_rfl) (by kernel_rfl) (fun _ _ _ h => h) (by rfl) ?_ hHeld ?_
        rotate_left
        · ((intro w hSw); (try dsimp only at hSw); go_simp <;> with_reducible rfl)
        simp only [Act.put, List.setIfInBounds_toArray, List.set_cons_zero, List.set_cons_succ]
        refine take_one 3 (by kernel_rfl) rfl (fun K hK => ?_)
        go_simp
        (refine (specPastJoin_any a1 a2 c1 c2 ts us _ hn1 hn2 ((T1.on hHeld.2).up hHeld.2.size) ((T2.on hHeld.2).up hHeld.2.size)).mono ?_; rintro e wa3 ⟨A3, cap3, rfl, hR3, hb⟩)
        try go_wp2_with fail
        refine hK.out _ _ (by exact ⟨⟨(B3.on (hHeld.2.trans (hb.mono hHeld.2.size))).at 0, (B4.on (hHeld.2.trans (hb.mono hHeld.2.size))).at 0, (B5.on (hHeld.2.trans (hb.mono hHeld.2.size))).at 0⟩, hHeld.2.trans (hb.mono hHeld.2.size)⟩) (fun hHeld => ?_)
        clear hK K
        refine take_one 4 (by kernel_rfl) rfl (fun K hK => ?_)
        go_simp
        (refine (cfPast_any A5 A3 cap5 cap3 (joinL ts us) (joinL ts us) _ hn5 hn5 ((T5.on hHeld.2).up hHeld.2.size) hR3.tg).mono ?_; rintro e wb4 ⟨rfl, hb⟩; rw [decide_eq_true rfl])
        try go_wp2_with fail
        refine hK.out _ _ (by exact ⟨⟨(B3.on (hHeld.2.trans (hb.mono hHeld.2.size))).at 0, (B4.on (hHeld.2.trans (hb.mono hHeld.2.size))).at 0, (B5.on (hHeld.2.trans (hb.mono hHeld.2.size))).at 0⟩, hHeld.2.trans (hb.mono hHeld.2.size)⟩) (fun hHeld => ?_)
        clear hK K
        refine take_run 5 (some 23) (v := ?_) rfl rfl (by kernel_rfl) (by kernel_rfl) (by kernel_rfl) (fun _ _ _ h => h) (by rfl) ?_ hHeld ?_
        rotate_left
        · ((intro w hSw); (try dsimp only at hSw); go_simp <;> with_reducible rfl)
        simp only [Act.put, List.setIfInBounds_toArray, List.set_cons_zero, List.set_cons_succ]
        refine take_run 6 (some 24) (v := ?_) rfl rfl (by kernel_rfl) (by kernel_rfl) (by kernel_rfl) (fun _ _ _ h => h) (by rfl) ?_ hHeld ?_
        rotate_left
        · ((intro w hSw); (try dsimp only at hSw); go_simp <;> with_reducible rfl)
        simp only [Act.put, List.setIfInBounds_toArray, List.set_cons_zero, List.set_cons_succ]
        refine take_run 7 (some 25) (v := ?_) rfl rfl (by kernel_rfl) (by kernel_rfl) (by kernel_rfl) (fun _ _ _ h => h) (by rfl) ?_ hHeld ?_
        rotate_left
        · ((intro w hSw); (try dsimp only at hSw); go_simp <;> with_reducible rfl)
        simp only [Act.put, List.setIfInBounds_toArray, List.set_cons_zero, List.set_cons_succ]
        refine take_run 9 (some 27) (v := ?_) rfl rfl (by kernel_rfl) (by kernel_rfl) (by kernel_rfl) (fun _ _ _ h => h) (by rfl) ?_ hHeld ?_
        rotate_left
        · ((intro w hSw); (try dsimp only at hSw); go_simp <;> with_reducible rfl)
        simp only [Act.put, List.setIfInBounds_toArray, List.set_cons_zero, List.set_cons_succ]
        refine take_one 8 (by kernel_rfl) rfl (fun K hK => ?_)
        go_simp
        (refine (implPastOk_any a1 c1 ts _ hn1 ((T1.on hHeld.2).up hHeld.2.size)).mono ?_; rintro e wc8 ⟨rfl, hb⟩; rw [HP.out])
        try go_wp2_with fail
        refine hK.out _ _ (by exact ⟨⟨(B3.on (hHeld.2.trans (hb.mono hHeld.2.size))).at 0, (B4.on (hHeld.2.trans (hb.mono hHeld.2.size))).at 0, (B5.on (hHeld.2.trans (hb.mono hHeld.2.size))).at 0⟩, hHeld.2.trans (hb.mono hHeld.2.size)⟩) (fun hHeld => ?_)
        clear hK K
        refine take_one 10 (by kernel_rfl) rfl (fun K hK => ?_)
        go_simp
        (refine (specPastOk_any a1 c1 ts _ hn1 ((T1.on hHeld.2).up hHeld.2.size)).mono ?_; rintro e wc10 ⟨rfl, hb⟩; rw [HP.out])
        try go_wp2_with fail
        refine hK.out _ _ (by exact ⟨⟨(B3.on (hHeld.2.trans (hb.mono hHeld.2.size))).at 0, (B4.on (hHeld.2.trans (hb.mono hHeld.2.size))).at 0, (B5.on (hHeld.2.trans (hb.mono hHeld.2.size))).at 0⟩, hHeld.2.trans (hb.mono hHeld.2.size)⟩) (fun hHeld => ?_)
        clear hK K
        refine take_run 11 (some 29) (v := ?_) rfl rfl (by kernel_rfl) (by kernel_rfl) (by kernel_rfl) (fun _ _ _ h => h) (by rfl) ?_ hHeld ?_
        rotate_left
        · ((intro w hSw); (try dsimp only at hSw); go_simp <;> with_reducible rfl)
        simp only [Act.put, List.setIfInBounds_toArray, List.set_cons_zero, List.set_cons_succ]
        refine take_run 12 (some 30) (v := ?_) rfl rfl (by kernel_rfl) (by kernel_rfl) (by kernel_rfl) (fun _ _ _ h => h) (by rfl) ?_ hHeld ?_
        rotate_left
        · ((intro w hSw); (try dsimp only at hSw); go_simp <;> with_reducible rfl)
        simp only [Act.put, List.setIfInBounds_toArray, List.set_cons_zero, List.set_cons_succ]
        refine take_run 13 (some 31) (v := ?_) rfl rfl (by kernel_rfl) (by kernel_rfl) (by kernel_rfl) (fun _ _ _ h => h) (by rfl) ?_ hHeld ?_
        rotate_left
        · ((intro w hSw); (try dsimp only at hSw); go_simp <;> with_reducible rfl)
        simp only [Act.put, List.setIfInBounds_toArray, List.set_cons_zero, List.set_cons_succ]
        refine take_run 14 (some 32) (v := ?_) rfl rfl (by kernel_rfl) (by kernel_rfl) (by kernel_rfl) (fun _ _ _ h => h) (by rfl) ?_ hHeld ?_
        rotate_left
        · ((intro w hSw); (try dsimp only at hSw); go_simp <;> with_reducible rfl)
        simp only [Act.put, List.setIfInBounds_toArray, List.set_cons_zero, List.set_cons_succ]
        refine take_one 15 (by kernel_rfl) rfl (fun K hK => ?_)
        go_simp
        (refine (implPastOk_any a1 c1 ts _ hn1 ((T1.on hHeld.2).up hHeld.2.size)).mono ?_; rintro e wc15 ⟨rfl, hb⟩; rw [HP.out])
        try go_wp2_with fail
        refine hK.out _ _ (by exact ⟨⟨(B3.on (hHeld.2.trans (hb.mono hHeld.2.size))).at 0, (B4.on (hHeld.2.trans (hb.mono hHeld.2.size))).at 0, (B5.on (hHeld.2.trans (hb.mono hHeld.2.size))).at 0⟩, hHeld.2.trans (hb.mono hHeld.2.size)⟩) (fun hHeld => ?_)
        clear hK K
        refine take_run 16 (some 34) (v := ?_) rfl rfl (by kernel_rfl) (by kernel_rfl) (by kernel_rfl) (fun _ _ _ h => h) (by rfl) ?_ hHeld ?_
        rotate_left
        · ((intro w hSw); (try dsimp only at hSw); go_simp <;> with_reducible rfl)
        simp only [Act.put, List.setIfInBounds_toArray, List.set_cons_zero, List.set_cons_succ]
        refine take_run 17 (some 35) (v := ?_) rfl rfl (by kernel_rfl) (by kernel_rfl) (by kernel_rfl) (fun _ _ _ h => h) (by rfl) ?_ hHeld ?_
        rotate_left
        · ((intro w hSw); (try dsimp only at hSw); go_simp <;> with_reducible rfl)
        simp only [Act.put, List.setIfInBounds_toArray, List.set_cons_zero, List.set_cons_succ]
        refine take_run 18 (some 36) (v := ?_) rfl rfl (by kernel_rfl) (by kernel_rfl) (by kernel_rfl) (fun _ _ _ h => h) (by rfl) ?_ hHeld ?_
        rotate_left
        · ((intro w hSw); (try dsimp only at hSw); go_simp <;> with_reducible rfl)
        simp only [Act.put, List.setIfInBounds_toArray, List.set_cons_zero, List.set_cons_succ]
        refine take_run 19 (some 37) (v := ?_) rfl rfl (by kernel_rfl) (by kernel_rfl) (by kernel_rfl) (fun _ _ _ h => h) (by rfl) ?_ hHeld ?_
        rotate_left
        · ((intro w hSw); (try dsimp only at hSw); go_simp <;> with_reducible rfl)
        simp only [Act.put, List.setIfInBounds_toArray, List.set_cons_zero, List.set_cons_succ]
        refine take_one 20 (by kernel_rfl) rfl (fun K hK => ?_)
        go_simp
        (refine (implPastOk_any a2 c2 us _ hn2 ((T2.on hHeld.2).up hHeld.2.size)).mono ?_; rintro e wc20 ⟨rfl, hb⟩; rw [HQ.out])
        try go_wp2_with fail
        refine hK.out _ _ (by exact ⟨⟨(B3.on (hHeld.2.trans (hb.mono hHeld.2.size))).at 0, (B4.on (hHeld.2.trans (hb.mono hHeld.2.size))).at 0, (B5.on (hHeld.2.trans (hb.mono hHeld.2.size))).at 0⟩, hHeld.2.trans (hb.mono hHeld.2.size)⟩) (fun hHeld => ?_)
        clear hK K
        refine take_run 21 (some 39) (v := ?_) rfl rfl (by kernel_rfl) (by kernel_rfl) (by kernel_rfl) (fun _ _ _ h => h) (by rfl) ?_ hHeld ?_
        rotate_left
        · ((intro w hSw); (try dsimp only at hSw); go_simp <;> with_reducible rfl)
        simp only [Act.put, List.setIfInBounds_toArray, List.set_cons_zero, List.set_cons_succ]
        refine take_run 22 (some 40) (v := ?_) rfl rfl (by kernel_rfl) (by kernel_rfl) (by kernel_rfl) (fun _ _ _ h => h) (by rfl) ?_ hHeld ?_
        rotate_left
        · ((intro w hSw); (try dsimp only at hSw); go_simp <;> with_reducible rfl)
        simp only [Act.put, List.setIfInBounds_toArray, List.set_cons_zero, List.set_cons_succ]
        refine wpAnyH_done (by kernel_rfl) ?_ _
        refine NoPanic.normal ?_
        have L1 := hHeld.2
        clear hHeld
        go_wp2
        go_loopw [6] (fun i wr => ∃ k : Nat, k ≤ 4 ∧ i = .int .i64 (k : Int) ∧ Below W.heap.size W wr) (fun i _ => 4 - (intOf i).toNat)
        case atStart => exact ⟨0, Nat.zero_le _, rfl, L1⟩
        case round =>
        obtain ⟨k, hk, rfl, hL⟩ := hrel
        clear L1
        by_cases hlt : k < 4
        · have h4 := pastB_l4 HP.out
          have h4' := pastB_l4 HQ.out
          have h5 := pastB_l4 (join_ok HP.out HQ.out)
          have hx := List.getElem?_eq_getElem (l := ts) (i := k) (by omega)
          have hy := List.getElem?_eq_getElem (l := us) (i := k) (by omega)
          have hz := mxL_at hx hy
          rw [← join_eq HP.out HQ.out] at hz
          generalize ts[k] = x at hx hz
          generalize us[k] = y at hy hz
          rcases T1 with e | ⟨b1, o1, rfl, hb1, q1⟩
          · rw [e] at h4; simp at h4
          rcases T2 with e | ⟨b2, o2, rfl, hb2, q2⟩
          · rw [e] at h4'; simp at h4'
          rcases T5 with e | ⟨b5, o5, rfl, hb5, q5⟩
          · rw [e] at h5; simp at h5
          obtain ⟨x1, x2⟩ := x
          obtain ⟨y1, y2⟩ := y
          have c0 := hide ((hL.cell (p := ⟨b1, o1 + k * 2, none⟩) hb1).trans (q1 k _ hx).1)
          have c1' := hide ((hL.cell (p := ⟨b1, o1 + k * 2 + 1, none⟩) hb1).trans (q1 k _ hx).2)
          have d0 := hide ((hL.cell (p := ⟨b2, o2 + k * 2, none⟩) hb2).trans (q2 k _ hy).1)
          have d1 := hide ((hL.cell (p := ⟨b2, o2 + k * 2 + 1, none⟩) hb2).trans (q2 k _ hy).2)
          have i1 : (0 : Int) ≤ (k : Int) := by omega
          have i2 : (k : Int) < (ts.length : Int) := by omega
          have i3 : (k : Int) < (us.length : Int) := by omega
          have i4 : (k : Int) < ((joinL ts us).length : Int) := by omega
          have i5 : (k : Int) < 4 := by omega
          clear h4 h4' h5
          by_cases hxz : mxp (x1, x2) (y1, y2) = (x1, x2)
          · rw [hxz] at hz
            have e0 := hide ((hL.cell (p := ⟨b5, o5 + k * 2, none⟩) hb5).trans (q5 k _ hz).1)
            have e1 := hide ((hL.cell (p := ⟨b5, o5 + k * 2 + 1, none⟩) hb5).trans (q5 k _ hz).2)
            clear hx hy hz q1 q2 q5 hxz
            go_wp2_with fail
            refine wp_region_noPanic ?_
            refine wp_region_held_drew (S := (fun w' => (w'.cell? ⟨p3, 0, none⟩ = some (.slice (some ⟨b1, o1, none⟩) ts.length c1) ∧ w'.cell? ⟨p4, 0, none⟩ = some (.slice (some ⟨b2, o2, none⟩) us.length c2) ∧ w'.cell? ⟨p5, 0, none⟩ = some (.slice (some ⟨b5, o5, none⟩) (joinL ts us).length cap5)) ∧ (w'.cell? ⟨b5, o5 + k * 2, none⟩ = some (.int .i64 x1) ∧ w'.cell? ⟨b5, o5 + k * 2 + 1, none⟩ = some (.int .i64 x2) ∧ w'.cell? ⟨b1, o1 + k * 2, none⟩ = some (.int .i64 x1) ∧ w'.cell? ⟨b1, o1 + k * 2 + 1, none⟩ = some (.int .i64 x2) ∧ w'.cell? ⟨b2, o2 + k * 2, none⟩ = some (.int .i64 y1) ∧ w'.cell? ⟨b2, o2 + k * 2 + 1, none⟩ = some (.int .i64 y2)) ∧ Below W.heap.size W w')) (by kernel_rfl) (by exact ⟨⟨((B3.on hL).drew).at 0, ((B4.on hL).drew).at 0, ((B5.on hL).drew).at 0⟩, ⟨e0.out, e1.out, c0.out, c1'.out, d0.out, d1.out⟩, hL.drew⟩) (fun hHeld => ?_)
            refine take_run 0 (some 57) (v := ?_) rfl rfl (by kernel_rfl) (by kernel_rfl) (by kernel_rfl) (fun _ _ _ h => h) (by rfl) ?_ hHeld ?_
            rotate_left
            · ((intro w hSw); (try dsimp only at hSw); go_simp <;> with_reducible rfl)
            simp only [Act.put, List.setIfInBounds_toArray, List.set_cons_zero, List.set_cons_succ]
            refine take_run 1 (some 58) (v := ?_) rfl rfl (by kernel_rfl) (by kernel_rfl) (by kernel_rfl) (fun _ _ _ h => h) (by rfl) ?_ hHeld ?_
            rotate_left
            · ((intro w hSw); (try dsimp only at hSw); go_simp <;> with_reducible rfl)
            simp only [Act.put, List.setIfInBounds_toArray, List.set_cons_zero, List.set_cons_succ]
            refine take_run 2 (some 59) (v := ?_) rfl rfl (by kernel_rfl) (by kernel_rfl) (by kernel_rfl) (fun _ _ _ h => h) (by rfl) ?_ hHeld ?_
            rotate_left
            · ((intro w hSw); (try dsimp only at hSw); go_simp <;> with_reducible rfl)
            simp only [Act.put, List.setIfInBounds_toArray, List.set_cons_zero, List.set_cons_succ]
            refine take_run 3 (some 60) (v := ?_) rfl rfl (by kernel_rfl) (by kernel_rfl) (by kernel_rfl) (fun _ _ _ h => h) (by rfl) ?_ hHeld ?_
            rotate_left
            · ((intro w hSw); (try dsimp only at hSw); go_simp <;> with_reducible rfl)
            simp only [Act.put, List.setIfInBounds_toArray, List.set_cons_zero, List.set_cons_succ]
            refine take_run 4 (some 61) (v := ?_) rfl rfl (by kernel_rfl) (by kernel_rfl) (by kernel_rfl) (fun _ _ _ h => h) (by rfl) ?_ hHeld ?_
            rotate_left
            · ((intro w hSw); (try dsimp only at hSw); go_simp <;> with_reducible rfl)
            simp only [Act.put, List.setIfInBounds_toArray, List.set_cons_zero, List.set_cons_succ]
            refine take_run 5 (some 62) (v := ?_) rfl rfl (by kernel_rfl) (by kernel_rfl) (by kernel_rfl) (fun _ _ _ h => h) (by rfl) ?_ hHeld ?_
            rotate_left
            · ((intro w hSw); (try dsimp only at hSw); go_simp <;> with_reducible rfl)
            simp only [Act.put, List.setIfInBounds_toArray, List.set_cons_zero, List.set_cons_succ]
            refine take_run 6 (some 63) (v := ?_) rfl rfl (by kernel_rfl) (by kernel_rfl) (by kernel_rfl) (fun _ _ _ h => h) (by rfl) ?_ hHeld ?_
            rotate_left
            · ((intro w hSw); (try dsimp only at hSw); go_simp <;> with_reducible rfl)
            simp only [Act.put, List.setIfInBounds_toArray, List.set_cons_zero, List.set_cons_succ]
            refine take_run 7 (some 64) (v := ?_) rfl rfl (by kernel_rfl) (by kernel_rfl) (by kernel_rfl) (fun _ _ _ h => h) (by rfl) ?_ hHeld ?_
            rotate_left
            · ((intro w hSw); (try dsimp only at hSw); go_simp <;> with_reducible rfl)
            simp only [Act.put, List.setIfInBounds_toArray, List.set_cons_zero, List.set_cons_succ]
            refine take_run 8 (some 65) (v := ?_) rfl rfl (by kernel_rfl) (by kernel_rfl) (by kernel_rfl) (fun _ _ _ h => h) (by rfl) ?_ hHeld ?_
            rotate_left
            · ((intro w hSw); (try dsimp only at hSw); go_simp <;> with_reducible rfl)
            simp only [Act.put, List.setIfInBounds_toArray, List.set_cons_zero, List.set_cons_succ]
            refine take_run 9 (some 66) (v := ?_) rfl rfl (by kernel_rfl) (by kernel_rfl) (by kernel_rfl) (fun _ _ _ h => h) (by rfl) ?_ hHeld ?_
            rotate_left
            · ((intro w hSw); (try dsimp only at hSw); go_simp <;> with_reducible rfl)
            simp only [Act.put, List.setIfInBounds_toArray, List.set_cons_zero, List.set_cons_succ]
            refine take_run 10 (some 67) (v := ?_) rfl rfl (by kernel_rfl) (by kernel_rfl) (by kernel_rfl) (fun _ _ _ h => h) (by rfl) ?_ hHeld ?_
            rotate_left
            · ((intro w hSw); (try dsimp only at hSw); go_simp <;> with_reducible rfl)
            simp only [Act.put, List.setIfInBounds_toArray, List.set_cons_zero, List.set_cons_succ]
            refine take_run 11 (some 68) (v := ?_) rfl rfl (by kernel_rfl) (by kernel_rfl) (by kernel_rfl) (fun _ _ _ h => h) (by rfl) ?_ hHeld ?_
            rotate_left
            · ((intro w hSw); (try dsimp only at hSw); go_simp <;> with_reducible rfl)
            simp only [Act.put, List.setIfInBounds_toArray, List.set_cons_zero, List.set_cons_succ]
            refine take_skip 12 (some 69) rfl rfl (by kernel_rfl) (by kernel_rfl) (by kernel_rfl) (fun _ _ _ h => h) (by rfl) hHeld ?_
            simp only [Act.put, List.setIfInBounds_toArray, List.set_cons_zero, List.set_cons_succ]
            refine take_skip 13 (some 70) rfl rfl (by kernel_rfl) (by kernel_rfl) (by kernel_rfl) (fun _ _ _ h => h) (by rfl) hHeld ?_
            simp only [Act.put, List.setIfInBounds_toArray, List.set_cons_zero, List.set_cons_succ]
            refine take_skip 14 (some 71) rfl rfl (by kernel_rfl) (by kernel_rfl) (by kernel_rfl) (fun _ _ _ h => h) (by rfl) hHeld ?_
            simp only [Act.put, List.setIfInBounds_toArray, List.set_cons_zero, List.set_cons_succ]
            refine take_skip 15 (some 72) rfl rfl (by kernel_rfl) (by kernel_rfl) (by kernel_rfl) (fun _ _ _ h => h) (by rfl) hHeld ?_
            simp only [Act.put, List.setIfInBounds_toArray, List.set_cons_zero, List.set_cons_succ]
            refine take_skip 16 (some 73) rfl rfl (by kernel_rfl) (by kernel_rfl) (by kernel_rfl) (fun _ _ _ h => h) (by rfl) hHeld ?_
            simp only [Act.put, List.setIfInBounds_toArray, List.set_cons_zero, List.set_cons_succ]
            refine take_skip 17 (some 74) rfl rfl (by kernel_rfl) (by kernel_rfl) (by kernel_rfl) (fun _ _ _ h => h) (by rfl) hHeld ?_
            simp only [Act.put, List.setIfInBounds_toArray, List.set_cons_zero, List.set_cons_succ]
            refine take_skip 18 (some 75) rfl rfl (by kernel_rfl) (by kernel_rfl) (by kernel_rfl) (fun _ _ _ h => h) (by rfl) hHeld ?_
            simp only [Act.put, List.setIfInBounds_toArray, List.set_cons_zero, List.set_cons_succ]
            refine take_skip 19 (some 76) rfl rfl (by kernel_rfl) (by kernel_rfl) (by kernel_rfl) (fun _ _ _ h => h) (by rfl) hHeld ?_
            simp only [Act.put, List.setIfInBounds_toArray, List.set_cons_zero, List.set_cons_succ]
            refine take_skip 20 (some 77) rfl rfl (by kernel_rfl) (by kernel_rfl) (by kernel_rfl) (fun _ _ _ h => h) (by rfl) hHeld ?_
            simp only [Act.put, List.setIfInBounds_toArray, List.set_cons_zero, List.set_cons_succ]
            refine take_skip 21 (some 78) rfl rfl (by kernel_rfl) (by kernel_rfl) (by kernel_rfl) (fun _ _ _ h => h) (by rfl) hHeld ?_
            simp only [Act.put, List.setIfInBounds_toArray, List.set_cons_zero, List.set_cons_succ]
            refine take_skip 22 (some 79) rfl rfl (by kernel_rfl) (by kernel_rfl) (by kernel_rfl) (fun _ _ _ h => h) (by rfl) hHeld ?_
            simp only [Act.put, List.setIfInBounds_toArray, List.set_cons_zero, List.set_cons_succ]
            refine take_run 23 (some 80) (v := ?_) rfl rfl (by kernel_rfl) (by kernel_rfl) (by kernel_rfl) (fun _ _ _ h => h) (by rfl) ?_ hHeld ?_
            rotate_left
            · ((intro w hSw); (try dsimp only at hSw); go_simp <;> with_reducible rfl)
            simp only [Act.put, List.setIfInBounds_toArray, List.set_cons_zero, List.set_cons_succ]
            refine wpAnyH_done (by kernel_rfl) ?_ _
            refine NoPanic.normal ?_
            have hL2 := hHeld.2.2
            clear hHeld
            go_wp2
            exact ⟨⟨k + 1, by omega, by go_num, hL2⟩, by simp [intOf]; omega⟩
          · have hyz : mxp (x1, x2) (y1, y2) = (y1, y2) := (mxp_or _ _).resolve_left hxz
            rw [hyz] at hz hxz
            have e0 := hide ((hL.cell (p := ⟨b5, o5 + k * 2, none⟩) hb5).trans (q5 k _ hz).1)
            have e1 := hide ((hL.cell (p := ⟨b5, o5 + k * 2 + 1, none⟩) hb5).trans (q5 k _ hz).2)
            have hnq := neq_ne (x1 := y1) (x2 := y2) (y1 := x1) (y2 := x2) (fun h => hxz (by rw [h.1, h.2]))
            clear hx hy hz q1 q2 q5 hxz hyz
            go_wp2_with fail
            refine wp_region_noPanic ?_
            refine wp_region_held_drew (S := (fun w' => (w'.cell? ⟨p3, 0, none⟩ = some (.slice (some ⟨b1, o1, none⟩) ts.length c1) ∧ w'.cell? ⟨p4, 0, none⟩ = some (.slice (some ⟨b2, o2, none⟩) us.length c2) ∧ w'.cell? ⟨p5, 0, none⟩ = some (.slice (some ⟨b5, o5, none⟩) (joinL ts us).length cap5)) ∧ (w'.cell? ⟨b5, o5 + k * 2, none⟩ = some (.int .i64 y1) ∧ w'.cell? ⟨b5, o5 + k * 2 + 1, none⟩ = some (.int .i64 y2) ∧ w'.cell? ⟨b1, o1 + k * 2, none⟩ = some (.int .i64 x1) ∧ w'.cell? ⟨b1, o1 + k * 2 + 1, none⟩ = some (.int .i64 x2) ∧ w'.cell? ⟨b2, o2 + k * 2, none⟩ = some (.int .i64 y1) ∧ w'.cell? ⟨b2, o2 + k * 2 + 1, none⟩ = some (.int .i64 y2)) ∧ Below W.heap.size W w')) (by kernel_rfl) (by exact ⟨⟨((B3.on hL).drew).at 0, ((B4.on hL).drew).at 0, ((B5.on hL).drew).at 0⟩, ⟨e0.out, e1.out, c0.out, c1'.out, d0.out, d1.out⟩, hL.drew⟩) (fun hHeld => ?_)
            refine take_run 0 (some 57) (v := ?_) rfl rfl (by kernel_rfl) (by kernel_rfl) (by kernel_rfl) (fun _ _ _ h => h) (by rfl) ?_ hHeld ?_
            rotate_left
            · ((intro w hSw); (try dsimp only at hSw); go_simp <;> with_reducible rfl)
            simp only [Act.put, List.setIfInBounds_toArray, List.set_cons_zero, List.set_cons_succ]
            refine take_run 1 (some 58) (v := ?_) rfl rfl (by kernel_rfl) (by kernel_rfl) (by kernel_rfl) (fun _ _ _ h => h) (by rfl) ?_ hHeld ?_
            rotate_left
            · ((intro w hSw); (try dsimp only at hSw); go_simp <;> with_reducible rfl)
            simp only [Act.put, List.setIfInBounds_toArray, List.set_cons_zero, List.set_cons_succ]
            refine take_run 2 (some 59) (v := ?_) rfl rfl (by kernel_rfl) (by kernel_rfl) (by kernel_rfl) (fun _ _ _ h => h) (by rfl) ?_ hHeld ?_
            rotate_left
            · ((intro w hSw); (try dsimp only at hSw); go_simp <;> with_reducible rfl)
            simp only [Act.put, List.setIfInBounds_toArray, List.set_cons_zero, List.set_cons_succ]
            refine take_run 3 (some 60) (v := ?_) rfl rfl (by kernel_rfl) (by kernel_rfl) (by kernel_rfl) (fun _ _ _ h => h) (by rfl) ?_ hHeld ?_
            rotate_left
            · ((intro w hSw); (try dsimp only at hSw); go_simp <;> with_reducible rfl)
            simp only [Act.put, List.setIfInBounds_toArray, List.set_cons_zero, List.set_cons_succ]
            refine take_run 4 (some 61) (v := ?_) rfl rfl (by kernel_rfl) (by kernel_rfl) (by kernel_rfl) (fun _ _ _ h => h) (by rfl) ?_ hHeld ?_
            rotate_left
            · ((intro w hSw); (try dsimp only at hSw); go_simp <;> with_reducible rfl)
            simp only [Act.put, List.setIfInBounds_toArray, List.set_cons_zero, List.set_cons_succ]
            refine take_run 5 (some 62) (v := ?_) rfl rfl (by kernel_rfl) (by kernel_rfl) (by kernel_rfl) (fun _ _ _ h => h) (by rfl) ?_ hHeld ?_
            rotate_left
            · ((intro w hSw); (try dsimp only at hSw); go_simp <;> with_reducible rfl)
            simp only [Act.put, List.setIfInBounds_toArray, List.set_cons_zero, List.set_cons_succ]
            refine take_run 6 (some 63) (v := ?_) rfl rfl (by kernel_rfl) (by kernel_rfl) (by kernel_rfl) (fun _ _ _ h => h) (by rfl) ?_ hHeld ?_
            rotate_left
            · ((intro w hSw); (try dsimp only at hSw); go_simp <;> with_reducible rfl)
            simp only [Act.put, List.setIfInBounds_toArray, List.set_cons_zero, List.set_cons_succ]
            refine take_run 7 (some 64) (v := ?_) rfl rfl (by kernel_rfl) (by kernel_rfl) (by kernel_rfl) (fun _ _ _ h => h) (by rfl) ?_ hHeld ?_
            rotate_left
            · ((intro w hSw); (try dsimp only at hSw); go_simp <;> with_reducible rfl)
            simp only [Act.put, List.setIfInBounds_toArray, List.set_cons_zero, List.set_cons_succ]
            refine take_run 8 (some 65) (v := ?_) rfl rfl (by kernel_rfl) (by kernel_rfl) (by kernel_rfl) (fun _ _ _ h => h) (by rfl) ?_ hHeld ?_
            rotate_left
            · ((intro w hSw); (try dsimp only at hSw); go_simp <;> with_reducible rfl)
            simp only [Act.put, List.setIfInBounds_toArray, List.set_cons_zero, List.set_cons_succ]
            refine take_run 9 (some 66) (v := ?_) rfl rfl (by kernel_rfl) (by kernel_rfl) (by kernel_rfl) (fun _ _ _ h => h) (by rfl) ?_ hHeld ?_
            rotate_left
            · ((intro w hSw); (try dsimp only at hSw); go_simp <;> with_reducible rfl)
            simp only [Act.put, List.setIfInBounds_toArray, List.set_cons_zero, List.set_cons_succ]
            refine take_run 10 (some 67) (v := ?_) rfl rfl (by kernel_rfl) (by kernel_rfl) (by kernel_rfl) (fun _ _ _ h => h) (by rfl) ?_ hHeld ?_
            rotate_left
            · ((intro w hSw); (try dsimp only at hSw); go_simp <;> with_reducible rfl)
            simp only [Act.put, List.setIfInBounds_toArray, List.set_cons_zero, List.set_cons_succ]
            refine take_run 11 (some 68) (v := ?_) rfl rfl (by kernel_rfl) (by kernel_rfl) (by kernel_rfl) (fun _ _ _ h => h) (by rfl) ?_ hHeld ?_
            rotate_left
            · ((intro w hSw); (try dsimp only at hSw); go_simp <;> with_reducible rfl)
            simp only [Act.put, List.setIfInBounds_toArray, List.set_cons_zero, List.set_cons_succ]
            refine take_run 12 (some 69) (v := ?_) rfl rfl (by kernel_rfl) (by kernel_rfl) (by kernel_rfl) (fun _ _ _ h => h) (by rfl) ?_ hHeld ?_
            rotate_left
            · ((intro w hSw); (try dsimp only at hSw); go_simp <;> with_reducible rfl)
            simp only [Act.put, List.setIfInBounds_toArray, List.set_cons_zero, List.set_cons_succ]
            refine take_run 13 (some 70) (v := ?_) rfl rfl (by kernel_rfl) (by kernel_rfl) (by kernel_rfl) (fun _ _ _ h => h) (by rfl) ?_ hHeld ?_
            rotate_left
            · ((intro w hSw); (try dsimp only at hSw); go_simp <;> with_reducible rfl)
            simp only [Act.put, List.setIfInBounds_toArray, List.set_cons_zero, List.set_cons_succ]
            refine take_run 14 (some 71) (v := ?_) rfl rfl (by kernel_rfl) (by kernel_rfl) (by kernel_rfl) (fun _ _ _ h => h) (by rfl) ?_ hHeld ?_
            rotate_left
            · ((intro w hSw); (try dsimp only at hSw); go_simp <;> with_reducible rfl)
            simp only [Act.put, List.setIfInBounds_toArray, List.set_cons_zero, List.set_cons_succ]
            refine take_run 15 (some 72) (v := ?_) rfl rfl (by kernel_rfl) (by kernel_rfl) (by kernel_rfl) (fun _ _ _ h => h) (by rfl) ?_ hHeld ?_
            rotate_left
            · ((intro w hSw); (try dsimp only at hSw); go_simp <;> with_reducible rfl)
            simp only [Act.put, List.setIfInBounds_toArray, List.set_cons_zero, List.set_cons_succ]
            refine take_run 16 (some 73) (v := ?_) rfl rfl (by kernel_rfl) (by kernel_rfl) (by kernel_rfl) (fun _ _ _ h => h) (by rfl) ?_ hHeld ?_
            rotate_left
            · ((intro w hSw); (try dsimp only at hSw); go_simp <;> with_reducible rfl)
            simp only [Act.put, List.setIfInBounds_toArray, List.set_cons_zero, List.set_cons_succ]
            refine take_run 17 (some 74) (v := ?_) rfl rfl (by kernel_rfl) (by kernel_rfl) (by kernel_rfl) (fun _ _ _ h => h) (by rfl) ?_ hHeld ?_
            rotate_left
            · ((intro w hSw); (try dsimp only at hSw); go_simp <;> with_reducible rfl)
            simp only [Act.put, List.setIfInBounds_toArray, List.set_cons_zero, List.set_cons_succ]
            refine take_run 18 (some 75) (v := ?_) rfl rfl (by kernel_rfl) (by kernel_rfl) (by kernel_rfl) (fun _ _ _ h => h) (by rfl) ?_ hHeld ?_
            rotate_left
            · ((intro w hSw); (try dsimp only at hSw); go_simp <;> with_reducible rfl)
            simp only [Act.put, List.setIfInBounds_toArray, List.set_cons_zero, List.set_cons_succ]
            refine take_run 19 (some 76) (v := ?_) rfl rfl (by kernel_rfl) (by kernel_rfl) (by kernel_rfl) (fun _ _ _ h => h) (by rfl) ?_ hHeld ?_
            rotate_left
            · ((intro w hSw); (try dsimp only at hSw); go_simp <;> with_reducible rfl)
            simp only [Act.put, List.setIfInBounds_toArray, List.set_cons_zero, List.set_cons_succ]
            refine take_run 20 (some 77) (v := ?_) rfl rfl (by kernel_rfl) (by kernel_rfl) (by kernel_rfl) (fun _ _ _ h => h) (by rfl) ?_ hHeld ?_
            rotate_left
            · ((intro w hSw); (try dsimp only at hSw); go_simp <;> with_reducible rfl)
            simp only [Act.put, List.setIfInBounds_toArray, List.set_cons_zero, List.set_cons_succ]
            refine take_run 21 (some 78) (v := ?_) rfl rfl (by kernel_rfl) (by kernel_rfl) (by kernel_rfl) (fun _ _ _ h => h) (by rfl) ?_ hHeld ?_
            rotate_left
            · ((intro w hSw); (try dsimp only at hSw); go_simp <;> with_reducible rfl)
            simp only [Act.put, List.setIfInBounds_toArray, List.set_cons_zero, List.set_cons_succ]
            refine take_run 22 (some 79) (v := ?_) rfl rfl (by kernel_rfl) (by kernel_rfl) (by kernel_rfl) (fun _ _ _ h => h) (by rfl) ?_ hHeld ?_
            rotate_left
            · ((intro w hSw); (try dsimp only at hSw); go_simp <;> with_reducible rfl)
            simp only [Act.put, List.setIfInBounds_toArray, List.set_cons_zero, List.set_cons_succ]
            refine take_run 23 (some 80) (v := ?_) rfl rfl (by kernel_rfl) (by kernel_rfl) (by kernel_rfl) (fun _ _ _ h => h) (by rfl) ?_ hHeld ?_
            rotate_left
            · ((intro w hSw); (try dsimp only at hSw); go_simp <;> with_reducible rfl)
            simp only [Act.put, List.setIfInBounds_toArray, List.set_cons_zero, List.set_cons_succ]
            refine wpAnyH_done (by kernel_rfl) ?_ _
            refine NoPanic.normal ?_
            have hL2 := hHeld.2.2
            clear hHeld
            go_wp2
            exact ⟨⟨k + 1, by omega, by go_num, hL2⟩, by simp [intOf]; omega⟩
        · have hkn : k = 4 := by omega
          subst hkn
          clear hlt
          go_wp2_with fail
          refine wp_region_noPanic ?_
          refine wp_region_held_drew (S := (fun w' => (w'.cell? ⟨p3, 0, none⟩ = some (.slice a1 ts.length c1) ∧ w'.cell? ⟨p4, 0, none⟩ = some (.slice a2 us.length c2) ∧ w'.cell? ⟨p5, 0, none⟩ = some (.slice A5 (joinL ts us).length cap5)) ∧ Below W.heap.size W w')) (by kernel_rfl) (by exact ⟨⟨((B3.on hL).drew).at 0, ((B4.on hL).drew).at 0, ((B5.on hL).drew).at 0⟩, (hL).drew⟩) (fun hHeld => ?_)
          refine take_run 0 (some 81) (v := ?_) rfl rfl (by kernel_rfl) (by kernel_rfl) (by kernel_rfl) (fun _ _ _ h => h) (by rfl) ?_ hHeld ?_
          rotate_left
          · ((intro w hSw); (try dsimp only at hSw); go_simp <;> with_reducible rfl)
          simp only [Act.put, List.setIfInBounds_toArray, List.set_cons_zero, List.set_cons_succ]
          refine take_run 1 (some 82) (v := ?_) rfl rfl (by kernel_rfl) (by kernel_rfl) (by kernel_rfl) (fun _ _ _ h => h) (by rfl) ?_ hHeld ?_
          rotate_left
          · ((intro w hSw); (try dsimp only at hSw); go_simp <;> with_reducible rfl)
          simp only [Act.put, List.setIfInBounds_toArray, List.set_cons_zero, List.set_cons_succ]
          refine take_one 2 (by kernel_rfl) rfl (fun K hK => ?_)
          go_simp
          (refine (implPastWithin_any a1 A5 c1 cap5 ts (joinL ts us) _ hn1 hn5 ((T1.on hHeld.2).up hHeld.2.size) ((T5.on hHeld.2).up hHeld.2.size)).mono ?_; rintro e wa ⟨rfl, hb⟩; rw [HW1.out])
          try go_wp2_with fail
          refine hK.out _ _ (by exact ⟨⟨(B3.on (hHeld.2.trans (hb.mono hHeld.2.size))).at 0, (B4.on (hHeld.2.trans (hb.mono hHeld.2.size))).at 0, (B5.on (hHeld.2.trans (hb.mono hHeld.2.size))).at 0⟩, hHeld.2.trans (hb.mono hHeld.2.size)⟩) (fun hHeld => ?_)
          clear hK K
          refine take_run 3 (some 84) (v := ?_) rfl rfl (by kernel_rfl) (by kernel_rfl) (by kernel_rfl) (fun _ _ _ h => h) (by rfl) ?_ hHeld ?_
          rotate_left
          · ((intro w hSw); (try dsimp only at hSw); go_simp <;> with_reducible rfl)
          simp only [Act.put, List.setIfInBounds_toArray, List.set_cons_zero, List.set_cons_succ]
          refine take_run 4 (some 85) (v := ?_) rfl rfl (by kernel_rfl) (by kernel_rfl) (by kernel_rfl) (fun _ _ _ h => h) (by rfl) ?_ hHeld ?_
          rotate_left
          · ((intro w hSw); (try dsimp only at hSw); go_simp <;> with_reducible rfl)
          simp only [Act.put, List.setIfInBounds_toArray, List.set_cons_zero, List.set_cons_succ]
          refine take_run 5 (some 86) (v := ?_) rfl rfl (by kernel_rfl) (by kernel_rfl) (by kernel_rfl) (fun _ _ _ h => h) (by rfl) ?_ hHeld ?_
          rotate_left
          · ((intro w hSw); (try dsimp only at hSw); go_simp <;> with_reducible rfl)
          simp only [Act.put, List.setIfInBounds_toArray, List.set_cons_zero, List.set_cons_succ]
          refine take_one 6 (by kernel_rfl) rfl (fun K hK => ?_)
          go_simp
          (refine (implPastWithin_any a2 A5 c2 cap5 us (joinL ts us) _ hn2 hn5 ((T2.on hHeld.2).up hHeld.2.size) ((T5.on hHeld.2).up hHeld.2.size)).mono ?_; rintro e wb ⟨rfl, hb⟩; rw [HW2.out])
          try go_wp2_with fail
          refine hK.out _ _ (by exact ⟨⟨(B3.on (hHeld.2.trans (hb.mono hHeld.2.size))).at 0, (B4.on (hHeld.2.trans (hb.mono hHeld.2.size))).at 0, (B5.on (hHeld.2.trans (hb.mono hHeld.2.size))).at 0⟩, hHeld.2.trans (hb.mono hHeld.2.size)⟩) (fun hHeld => ?_)
          clear hK K
          refine take_run 7 (some 88) (v := ?_) rfl rfl (by kernel_rfl) (by kernel_rfl) (by kernel_rfl) (fun _ _ _ h => h) (by rfl) ?_ hHeld ?_
          rotate_left
          · ((intro w hSw); (try dsimp only at hSw); go_simp <;> with_reducible rfl)
          simp only [Act.put, List.setIfInBounds_toArray, List.set_cons_zero, List.set_cons_succ]
          refine take_run 8 (some 89) (v := ?_) rfl rfl (by kernel_rfl) (by kernel_rfl) (by kernel_rfl) (fun _ _ _ h => h) (by rfl) ?_ hHeld ?_
          rotate_left
          · ((intro w hSw); (try dsimp only at hSw); go_simp <;> with_reducible rfl)
          simp only [Act.put, List.setIfInBounds_toArray, List.set_cons_zero, List.set_cons_succ]
          refine take_run 9 (some 90) (v := ?_) rfl rfl (by kernel_rfl) (by kernel_rfl) (by kernel_rfl) (fun _ _ _ h => h) (by rfl) ?_ hHeld ?_
          rotate_left
          · ((intro w hSw); (try dsimp only at hSw); go_simp <;> with_reducible rfl)
          simp only [Act.put, List.setIfInBounds_toArray, List.set_cons_zero, List.set_cons_succ]
          refine take_run 10 (some 91) (v := ?_) rfl rfl (by kernel_rfl) (by kernel_rfl) (by kernel_rfl) (fun _ _ _ h => h) (by rfl) ?_ hHeld ?_
          rotate_left
          · ((intro w hSw); (try dsimp only at hSw); go_simp <;> with_reducible rfl)
          simp only [Act.put, List.setIfInBounds_toArray, List.set_cons_zero, List.set_cons_succ]
          refine take_run 12 (some 93) (v := ?_) rfl rfl (by kernel_rfl) (by kernel_rfl) (by kernel_rfl) (fun _ _ _ h => h) (by rfl) ?_ hHeld ?_
          rotate_left
          · ((intro w hSw); (try dsimp only at hSw); go_simp <;> with_reducible rfl)
          simp only [Act.put, List.setIfInBounds_toArray, List.set_cons_zero, List.set_cons_succ]
          refine take_one 11 (by kernel_rfl) rfl (fun K hK => ?_)
          go_simp
          (refine (implPastJoin_any a2 a1 c2 c1 us ts _ hn2 hn1 ((T2.on hHeld.2).up hHeld.2.size) ((T1.on hHeld.2).up hHeld.2.size)).mono ?_; rintro e wa11 ⟨A11, cap11, rfl, hR11, hb⟩; have hjl11 := joinL_len us ts)
          try go_wp2_with fail
          refine hK.out _ _ (by exact ⟨⟨(B3.on (hHeld.2.trans (hb.mono hHeld.2.size))).at 0, (B4.on (hHeld.2.trans (hb.mono hHeld.2.size))).at 0, (B5.on (hHeld.2.trans (hb.mono hHeld.2.size))).at 0⟩, hHeld.2.trans (hb.mono hHeld.2.size)⟩) (fun hHeld => ?_)
          clear hK K
          refine take_one 13 (by kernel_rfl) rfl (fun K hK => ?_)
          go_simp
          (refine (cfPast_any A11 A5 cap11 cap5 (joinL us ts) (joinL ts us) _ (by omega) hn5 hR11.tg ((T5.on hHeld.2).up hHeld.2.size)).mono ?_; rintro e wc ⟨rfl, hb⟩; rw [HC1.out])
          try go_wp2_with fail
          refine hK.out _ _ (by exact ⟨⟨(B3.on (hHeld.2.trans (hb.mono hHeld.2.size))).at 0, (B4.on (hHeld.2.trans (hb.mono hHeld.2.size))).at 0, (B5.on (hHeld.2.trans (hb.mono hHeld.2.size))).at 0⟩, hHeld.2.trans (hb.mono hHeld.2.size)⟩) (fun hHeld => ?_)
          clear hK K
          refine take_run 14 (some 95) (v := ?_) rfl rfl (by kernel_rfl) (by kernel_rfl) (by kernel_rfl) (fun _ _ _ h => h) (by rfl) ?_ hHeld ?_
          rotate_left
          · ((intro w hSw); (try dsimp only at hSw); go_simp <;> with_reducible rfl)
          simp only [Act.put, List.setIfInBounds_toArray, List.set_cons_zero, List.set_cons_succ]
          refine take_run 15 (some 96) (v := ?_) rfl rfl (by kernel_rfl) (by kernel_rfl) (by kernel_rfl) (fun _ _ _ h => h) (by rfl) ?_ hHeld ?_
          rotate_left
          · ((intro w hSw); (try dsimp only at hSw); go_simp <;> with_reducible rfl)
          simp only [Act.put, List.setIfInBounds_toArray, List.set_cons_zero, List.set_cons_succ]
          refine take_run 16 (some 97) (v := ?_) rfl rfl (by kernel_rfl) (by kernel_rfl) (by kernel_rfl) (fun _ _ _ h => h) (by rfl) ?_ hHeld ?_
          rotate_left
          · ((intro w hSw); (try dsimp only at hSw); go_simp <;> with_reducible rfl)
          simp only [Act.put, List.setIfInBounds_toArray, List.set_cons_zero, List.set_cons_succ]
          refine take_run 17 (some 98) (v := ?_) rfl rfl (by kernel_rfl) (by kernel_rfl) (by kernel_rfl) (fun _ _ _ h => h) (by rfl) ?_ hHeld ?_
          rotate_left
          · ((intro w hSw); (try dsimp only at hSw); go_simp <;> with_reducible rfl)
          simp only [Act.put, List.setIfInBounds_toArray, List.set_cons_zero, List.set_cons_succ]
          refine take_run 19 (some 100) (v := ?_) rfl rfl (by kernel_rfl) (by kernel_rfl) (by kernel_rfl) (fun _ _ _ h => h) (by rfl) ?_ hHeld ?_
          rotate_left
          · ((intro w hSw); (try dsimp only at hSw); go_simp <;> with_reducible rfl)
          simp only [Act.put, List.setIfInBounds_toArray, List.set_cons_zero, List.set_cons_succ]
          refine take_one 18 (by kernel_rfl) rfl (fun K hK => ?_)
          go_simp
          (refine (implPastJoin_any a1 a1 c1 c1 ts ts _ hn1 hn1 ((T1.on hHeld.2).up hHeld.2.size) ((T1.on hHeld.2).up hHeld.2.size)).mono ?_; rintro e wa18 ⟨A18, cap18, rfl, hR18, hb⟩; have hjl18 := joinL_len ts ts)
          try go_wp2_with fail
          refine hK.out _ _ (by exact ⟨⟨(B3.on (hHeld.2.trans (hb.mono hHeld.2.size))).at 0, (B4.on (hHeld.2.trans (hb.mono hHeld.2.size))).at 0, (B5.on (hHeld.2.trans (hb.mono hHeld.2.size))).at 0⟩, hHeld.2.trans (hb.mono hHeld.2.size)⟩) (fun hHeld => ?_)
          clear hK K
          refine take_one 20 (by kernel_rfl) rfl (fun K hK => ?_)
          go_simp
          (refine (cfPast_any A18 a1 cap18 c1 (joinL ts ts) ts _ (by omega) hn1 hR18.tg ((T1.on hHeld.2).up hHeld.2.size)).mono ?_; rintro e wd ⟨rfl, hb⟩; rw [HC2.out])
          try go_wp2_with fail
          refine hK.out _ _ (by exact ⟨⟨(B3.on (hHeld.2.trans (hb.mono hHeld.2.size))).at 0, (B4.on (hHeld.2.trans (hb.mono hHeld.2.size))).at 0, (B5.on (hHeld.2.trans (hb.mono hHeld.2.size))).at 0⟩, hHeld.2.trans (hb.mono hHeld.2.size)⟩) (fun hHeld => ?_)
          clear hK K
          refine take_run 21 (some 102) (v := ?_) rfl rfl (by kernel_rfl) (by kernel_rfl) (by kernel_rfl) (fun _ _ _ h => h) (by rfl) ?_ hHeld ?_
          rotate_left
          · ((intro w hSw); (try dsimp only at hSw); go_simp <;> with_reducible rfl)
          simp only [Act.put, List.setIfInBounds_toArray, List.set_cons_zero, List.set_cons_succ]
          refine take_run 22 (some 103) (v := ?_) rfl rfl (by kernel_rfl) (by kernel_rfl) (by kernel_rfl) (fun _ _ _ h => h) (by rfl) ?_ hHeld ?_
          rotate_left
          · ((intro w hSw); (try dsimp only at hSw); go_simp <;> with_reducible rfl)
          simp only [Act.put, List.setIfInBounds_toArray, List.set_cons_zero, List.set_cons_succ]
          refine take_run 23 (some 104) (v := ?_) rfl rfl (by kernel_rfl) (by kernel_rfl) (by kernel_rfl) (fun _ _ _ h => h) (by rfl) ?_ hHeld ?_
          rotate_left
          · ((intro w hSw); (try dsimp only at hSw); go_simp <;> with_reducible rfl)
          simp only [Act.put, List.setIfInBounds_toArray, List.set_cons_zero, List.set_cons_succ]
          refine take_run 26 (some 107) (v := ?_) rfl rfl (by kernel_rfl) (by kernel_rfl) (by kernel_rfl) (fun _ _ _ h => h) (by rfl) ?_ hHeld ?_
          rotate_left
          · ((intro w hSw); (try dsimp only at hSw); go_simp <;> with_reducible rfl)
          simp only [Act.put, List.setIfInBounds_toArray, List.set_cons_zero, List.set_cons_succ]
          refine take_one 24 (by kernel_rfl) rfl (fun K hK => ?_)
          go_simp
          (refine (implPastNone_any _).mono ?_; rintro e we ⟨g9, cap9, T9, cur9, rfl, hg9, hB9, hs9, hc9, hb⟩; have HC9 := hide hc9; clear hc9)
          try go_wp2_with fail
          refine hK.out _ _ (by exact ⟨⟨(B3.on (hHeld.2.trans (hb.mono hHeld.2.size))).at 0, (B4.on (hHeld.2.trans (hb.mono hHeld.2.size))).at 0, (B5.on (hHeld.2.trans (hb.mono hHeld.2.size))).at 0⟩, hHeld.2.trans (hb.mono hHeld.2.size)⟩) (fun hHeld => ?_)
          clear hK K
          refine take_one 25 (by kernel_rfl) rfl (fun K hK => ?_)
          go_simp
          (refine (implPastJoin_any a1 (some ⟨g9, 0, none⟩) c1 cap9 ts z4 _ hn1 (by simp) ((T1.on hHeld.2).up hHeld.2.size) (Tg.of hB9 hB9.inside HC9.out)).mono ?_; rintro e wf ⟨A25, cap25, rfl, hR25, hb⟩; have hjl25 := joinL_len ts z4)
          try go_wp2_with fail
          refine hK.out _ _ (by exact ⟨⟨(B3.on (hHeld.2.trans (hb.mono hHeld.2.size))).at 0, (B4.on (hHeld.2.trans (hb.mono hHeld.2.size))).at 0, (B5.on (hHeld.2.trans (hb.mono hHeld.2.size))).at 0⟩, hHeld.2.trans (hb.mono hHeld.2.size)⟩) (fun hHeld => ?_)
          clear hK K
          refine take_one 27 (by kernel_rfl) rfl (fun K hK => ?_)
          go_simp
          (refine (cfPast_any A25 a1 cap25 c1 (joinL ts z4) ts _ (by omega) hn1 hR25.tg ((T1.on hHeld.2).up hHeld.2.size)).mono ?_; rintro e wg ⟨rfl, hb⟩; rw [HC3.out])
          try go_wp2_with fail
          refine hK.out _ _ (by exact ⟨⟨(B3.on (hHeld.2.trans (hb.mono hHeld.2.size))).at 0, (B4.on (hHeld.2.trans (hb.mono hHeld.2.size))).at 0, (B5.on (hHeld.2.trans (hb.mono hHeld.2.size))).at 0⟩, hHeld.2.trans (hb.mono hHeld.2.size)⟩) (fun hHeld => ?_)
          clear hK K
          refine take_run 28 (some 109) (v := ?_) rfl rfl (by kernel_rfl) (by kernel_rfl) (by kernel_rfl) (fun _ _ _ h => h) (by rfl) ?_ hHeld ?_
          rotate_left
          · ((intro w hSw); (try dsimp only at hSw); go_simp <;> with_reducible rfl)
          simp only [Act.put, List.setIfInBounds_toArray, List.set_cons_zero, List.set_cons_succ]
          refine take_run 29 (some 2) (v := ?_) rfl rfl (by kernel_rfl) (by kernel_rfl) (by kernel_rfl) (fun _ _ _ h => h) (by rfl) ?_ hHeld ?_
          rotate_left
          · ((intro w hSw); (try dsimp only at hSw); go_simp <;> with_reducible rfl)
          simp only [Act.put, List.setIfInBounds_toArray, List.set_cons_zero, List.set_cons_succ]
          refine wpAnyH_done (by kernel_rfl) ?_ _
          refine NoPanic.normal ?_
          have L9 := L0.trans (hHeld.2.mono L0.size)
          clear hHeld
          go_wp2
          go_ret
          exact ⟨rfl, L9⟩

set_option maxRecDepth 100000 in
theorem lifted (os : Os) (started : os.Started) (H : Type) (enc : TypeId × Value → H) :
    ReturnsInHanded {} Try.checked os 3 .any (Rows.fnPastJoinSpec.pre6 enc Try.prog Try.f3 Rows.fnPastJoinRow.domain false) (Rows.fnPastJoinSpec.post enc Try.prog Try.f3 false true false false) := by
  refine returnsInHanded_of_change (C := Try.checked) own started (by kernel_rfl) Try.func3
    (ChangeSpec.witness6 (enc := enc) (C := Try.checked) false ⟨#[], #[.slice none 0 0], []⟩ 8 (by kernel_rfl) (by kernel_rfl) (by kernel_rfl) (by kernel_rfl)) ?_
  intro W base args ds gs before hval0 hW hcnd _
  have hval : ∀ (j : Nat) t v, Try.f3.params[j]? = some t → args[j]? = some v → Value.okWide Try.prog W .any base t v := hval0
  have hW' := hW
  obtain ⟨p, q, hA0, hV, rfl, hfz, hnd⟩ := hW
  have hA : DataW.TrodAll enc Try.prog W 0 (fun _ => true) true Try.f3.params.toList args.toList ds p := hA0
  rw [Try.params3] at hA hval
  have hK := hA
  obtain ⟨v0, vs0, d0, ds0, p0, q0, hargs, rfl, rfl, h0, r0⟩ := trodAll_cons hA
  obtain ⟨rfl, rfl, rfl⟩ := trodAll_nil r0
  obtain rfl : args = #[v0] := by cases args; simp_all
  obtain ⟨rfl, rfl⟩ := trodVars_none hV
  obtain ⟨a0, len0, cap0, rfl, b0⟩ := read_bytes (hval 0 22 v0 rfl rfl) h0
  clear hA0 hval0
  refine (walk a0 len0 cap0 W b0).mono fun e W' ⟨he, hb⟩ => ?_
  subst he
  have hK' := stay_all hb (by intro t ht; simp only [List.mem_cons, List.not_mem_nil, or_false] at ht; rcases ht with rfl <;> exact ⟨by kernel_rfl, of_decide_eq_true (by kernel_rfl)⟩) hK
  exact ⟨_, rfl, _, _, _, [], _, [], hW', trodAll_mk1 (shut_bool Try.underlying4 _), hK', rfl, hb.frame _, fun h => by cases h⟩

theorem over : Rows.fnPastJoinRow.holds Try.pinned (OpenSpec.ofChange Rows.fnPastJoinSpec) :=
  OpenClaim.holds_of_wide 3 Try.f3 rfl rfl rfl rfl rfl rfl rfl ⟨rfl, rfl, rfl, rfl, rfl⟩ rfl rfl rfl rfl rfl (by kernel_rfl) Try.func3
    (by refine joined_of ?_; kernel_rfl) (of_decide_eq_true (by kernel_rfl)) (by unfold Func.isWrapper; first | (rw [if_pos (by decide +kernel)]; kernel_rfl) | (rw [if_neg (by decide +kernel)]; exact ⟨rfl, rfl⟩))
    (fun os started H enc _ => lifted os started H enc)
end Go.Proofs.Ytkkjhfgjjakmfaa.FnPastJoin
namespace Go.Proofs.Ytkkjhfgjjakmfaa
/-- The statement itself. -/
theorem fnPastJoin_holds : Rows.FnPastJoinSaid := FnPastJoin.over
#print axioms fnPastJoin_holds
end Go.Proofs.Ytkkjhfgjjakmfaa
namespace Go.Proofs.Ytkkjhfgjjakmfaa.FnPastJoin
end Go.Proofs.Ytkkjhfgjjakmfaa.FnPastJoin
