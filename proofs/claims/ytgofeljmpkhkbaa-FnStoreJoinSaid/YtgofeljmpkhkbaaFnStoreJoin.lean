/- The law FnStoreJoin (promise 10) holds: of drawn stores, what they come to together is as the model's; of such as are ok it is ok, its tags are those of both together, with itself and with an empty one a store stays. No condition. -/
import Derived.Test.YtgofeljmpkhkbaaLift
import Derived.Test.YtgofeljmpkhkbaaDrawStores3
import Derived.Test.YtgofeljmpkhkbaaStorePure
import Derived.Test.YtgofeljmpkhkbaaStoreJoin2
import Derived.Test.YtgofeljmpkhkbaaCfStores
import Derived.Test.YtgofeljmpkhkbaaReg
namespace Go.Proofs.Ytgofeljmpkhkbaa.FnStoreJoin
open Go.ChangeShapes Go.WideShapes Go.ChangeAt Go.RowKit Go.Joins
attribute [local go_sem ↓] Go.wp_at_zero Go.wp_at_succ

theorem like_via {us vs rs : List V} (hl : us.length = rs.length) (h : Like us rs) (_hl' : vs.length = rs.length) (h' : Like vs rs) : Like us vs :=
  like_trans hl h h'.swap
theorem small_of {us vs : List V} (hl : us.length = vs.length) (h : Like us vs) (hm : Small vs) : ∀ v ∈ us, v.ts.length ≤ 1048576 := fun v hv => by
  obtain ⟨i, hi⟩ := List.getElem?_of_mem hv
  have hlt := (List.getElem?_eq_some_iff.1 hi).1
  have hx := List.getElem?_eq_getElem (l := vs) (i := i) (by omega)
  obtain ⟨_, _, _, e4, _⟩ := h i v _ hi hx
  rw [e4]
  exact (hm _ (List.mem_of_getElem? hx)).1
theorem small_few {vs : List V} (h : FewV vs) : Small vs := fun v hv => ⟨by have := (h v hv).1; omega, by have := (h v hv).2; omega⟩
theorem few_keepV {us : List V} {v : V} (h : FewV us) (hv : v.ts.length ≤ 4 ∧ v.s.size ≤ 16) : FewV (keepL us v) := fewV_keep h hv (keepL_len _ _) (like_refl _)
theorem few_foldV : ∀ (bs vs : List V), FewV vs → FewV bs → FewV (foldK vs bs)
  | [], _, h, _ => h
  | v :: r, vs, h, hb => few_foldV r (keepL vs v) (few_keepV h (hb v (List.mem_cons_self ..))) (fun x hx => hb x (List.mem_cons_of_mem _ hx))
theorem few_joinV {vs bs : List V} (h : FewV vs) (hb : FewV bs) : FewV (joinR vs bs) := by
  unfold joinR
  split
  · exact few_foldV bs vs h hb
  · exact fun v hv => by simp at hv
theorem fewV_like {us vs : List V} (hl : us.length = vs.length) (h : Like us vs) (hf : FewV vs) : FewV us := fun v hv => by
  obtain ⟨i, hi⟩ := List.getElem?_of_mem hv
  have hlt := (List.getElem?_eq_some_iff.1 hi).1
  have hx := List.getElem?_eq_getElem (l := vs) (i := i) (by omega)
  obtain ⟨_, _, _, e4, e5, _⟩ := h i v _ hi hx
  rw [e4, e5]
  exact hf _ (List.mem_of_getElem? hx)
theorem small_zero : Small [v0, v0, v0, v0] := fun v hv => by
  have : v = v0 := by simpa using hv
  rw [this]
  exact ⟨Nat.zero_le _, (by decide : (ByteArray.mk #[]).size ≤ 9223372036854775807)⟩
set_option maxRecDepth 100000 in
set_option maxHeartbeats 4000000 in
theorem walk (a : Option Addr) (len cap : Nat) (w : World) (hc : Code0 w a len cap) :
    Calls Try.prog 4 #[.slice a len cap] w fun e w' => e = .returned (.bool true) ∧ Below w.heap.size w w' := by
  by_cases h1 : 1048576 < len
  · have h1' : (1048576 : Int) < (len : Int) := by omega
    go_enter Try.func4, Try.ntmps4
    go_wp2
    go_ret
    exact ⟨rfl, Below.refl _ _⟩
  · have h1' : (len : Int) ≤ 1048576 := by omega
    go_enter Try.func4, Try.ntmps4
    go_wp2_with fail
    refine (drawStoreJoin_any w a len cap hc (by omega)).mono ?_
    rintro e w1 ⟨a1, a2, c1, c2, vs, us, rfl, hl1, hf1, hl2, hf2, ht1, ht2, hb1⟩
    have hn1 : vs.length ≤ 1048576 := by omega
    have hn2 : us.length ≤ 1048576 := by omega
    have SM1 := hide (small_few hf1)
    have SM2 := hide (small_few hf2)
    have FJ := hide (few_joinV hf1 hf2)
    have hj : (joinR vs us).length ≤ 4 := (few_join vs us).1
    have hn5 : (joinR vs us).length ≤ 1048576 := by omega
    have LA := below_alloc2 w1 (.cells #[.slice a1 vs.length c1] 25) (.cells #[.slice a2 us.length c2] 25)
    have B3' : Blk ((w1.alloc (.cells #[.slice a1 vs.length c1] 25)).alloc (.cells #[.slice a2 us.length c2] 25)) w1.heap.size 25 #[.slice a1 vs.length c1] := (Blk.made _ _ _).more _
    have B4' := Blk.made (w1.alloc (.cells #[.slice a1 vs.length c1] 25)) 25 #[.slice a2 us.length c2]
    simp only [World.size_alloc] at B4'
    have V1' := (ht1.on LA).up LA.size
    have V2' := (ht2.on LA).up LA.size
    have L0' := hb1.trans (LA.mono hb1.size)
    clear ht1 ht2 LA hb1 hc hf1 hf2
    go_wp2_with fail
    generalize (w1.alloc (.cells #[.slice a1 vs.length c1] 25)).alloc (.cells #[.slice a2 us.length c2] 25) = W1 at B3' B4' V1' V2' L0' ⊢
    generalize w1.heap.size + 1 = p4 at *
    generalize w1.heap.size = p3 at *
    refine (implStoreJoin_any a1 a2 c1 c2 vs us W1 hn1 SM1.out V1' hn2 SM2.out V2').mono ?_
    intro e w2 ha
    obtain ⟨A5, cap5, vs5, rfl, hl5, hi5, hR5, hb2⟩ := answerS_form ha
    clear ha
    have HL5 := hide hl5
    have HI5 := hide hi5
    have SM5 := hide (small_few (fewV_like hl5 hi5 FJ.out))
    have HM5 := hide (fun v hv => (SM5.out v hv).1)
    clear hl5 hi5
    have LB := hb2.trans ((below_alloc1 w2 (.cells #[.slice A5 (joinR vs us).length cap5] 25)).mono hb2.size)
    have B3 := B3'.on LB
    have B4 := B4'.on LB
    have B5 := Blk.made w2 25 #[.slice A5 (joinR vs us).length cap5]
    have V1 := (V1'.on LB).up LB.size
    have V2 := (V2'.on LB).up LB.size
    have V5 := (hR5.alloc (.cells #[.slice A5 (joinR vs us).length cap5] 25)).vg
    have L0 := L0'.trans (LB.mono L0'.size)
    clear B3' B4' V1' V2' L0' LB hb2 hR5
    go_wp2_with fail
    generalize w2.alloc (.cells #[.slice A5 (joinR vs us).length cap5] 25) = W at B3 B4 B5 V1 V2 V5 L0 ⊢
    generalize w2.heap.size = p5 at *
    have LR := Below.refl W.heap.size W
    cases hp : storeB vs
    · have HP := hide hp
      clear hp
      refine wp_region_noPanic ?_
      refine wp_region_held_drew (S := (fun w' => (w'.cell? ⟨p3, 0, none⟩ = some (.slice a1 vs.length c1) ∧ w'.cell? ⟨p4, 0, none⟩ = some (.slice a2 us.length c2) ∧ w'.cell? ⟨p5, 0, none⟩ = some (.slice A5 (joinR vs us).length cap5)) ∧ Below W.heap.size W w')) (by kernel_rfl) (by exact ⟨⟨((B3.on LR).drew).at 0, ((B4.on LR).drew).at 0, ((B5.on LR).drew).at 0⟩, (LR).drew⟩) (fun hHeld => ?_)
      refine take_run 0 (some 17) (v := ?_) rfl rfl (by kernel_rfl) (by kernel_rfl) (by kernel_rfl) (fun _ _ _ h => h) (by rfl) ?_ hHeld ?_
      rotate_left
      · ((intro w hSw); (try dsimp only at hSw); go_simp <;> with_reducible rfl)
      simp only [Act.put, List.setIfInBounds_toArray, List.set_cons_zero, List.set_cons_succ]
      refine take_run 1 (some 18) (v := ?_) rfl rfl (by kernel_rfl) (by kernel_rfl) (by kernel_rfl) (fun _ _ _ h => h) (by rfl) ?_ hHeld ?_
      rotate_left
      · ((intro w hSw); (try dsimp only at hSw); go_simp <;> with_reducible rfl)
      simp only [Act.put, List.setIfInBounds_toArray, List.set_cons_zero, List.set_cons_succ]
      refine take_run 2 (some 19) (v := ?_) rfl rfl (by kernel_rfl) (by kernel_rfl) (by kernel_rfl) (fun _ _ _ h => h) (by rfl) ?_ hHeld ?_
      rotate_left
      · ((intro w hSw); (try dsimp only at hSw); go_simp <;> with_reducible rfl)
      simp only [Act.put, List.setIfInBounds_toArray, List.set_cons_zero, List.set_cons_succ]
      refine take_one 3 (by kernel_rfl) rfl (fun K hK => ?_)
      go_simp
      (refine (specStoreJoin_any a1 a2 c1 c2 vs us _ hn1 SM1.out ((V1.on hHeld.2).up hHeld.2.size) hn2 SM2.out ((V2.on hHeld.2).up hHeld.2.size)).mono ?_; intro e wa3 ha; obtain ⟨A3, cap3, vs3, rfl, hl3, hi3, hR3, hb⟩ := answerS_form ha; clear ha)
      try go_wp2_with fail
      refine hK.out _ _ (by exact ⟨⟨(B3.on (hHeld.2.trans (hb.mono hHeld.2.size))).at 0, (B4.on (hHeld.2.trans (hb.mono hHeld.2.size))).at 0, (B5.on (hHeld.2.trans (hb.mono hHeld.2.size))).at 0⟩, hHeld.2.trans (hb.mono hHeld.2.size)⟩) (fun hHeld => ?_)
      clear hK K
      refine take_one 4 (by kernel_rfl) rfl (fun K hK => ?_)
      go_simp
      (refine (cfStore_same A5 A3 cap5 cap3 _ vs5 vs3 _ hn5 HL5.out hl3 (like_via HL5.out HI5.out hl3 hi3) HM5.out ((V5.on hHeld.2).up hHeld.2.size) hR3.vg).mono ?_; rintro e wb4 ⟨rfl, hb⟩)
      try go_wp2_with fail
      refine hK.out _ _ (by exact ⟨⟨(B3.on (hHeld.2.trans (hb.mono hHeld.2.size))).at 0, (B4.on (hHeld.2.trans (hb.mono hHeld.2.size))).at 0, (B5.on (hHeld.2.trans (hb.mono hHeld.2.size))).at 0⟩, hHeld.2.trans (hb.mono hHeld.2.size)⟩) (fun hHeld => ?_)
      clear hK K
      refine take_run 5 (some 22) (v := ?_) rfl rfl (by kernel_rfl) (by kernel_rfl) (by kernel_rfl) (fun _ _ _ h => h) (by rfl) ?_ hHeld ?_
      rotate_left
      · ((intro w hSw); (try dsimp only at hSw); go_simp <;> with_reducible rfl)
      simp only [Act.put, List.setIfInBounds_toArray, List.set_cons_zero, List.set_cons_succ]
      refine take_run 6 (some 23) (v := ?_) rfl rfl (by kernel_rfl) (by kernel_rfl) (by kernel_rfl) (fun _ _ _ h => h) (by rfl) ?_ hHeld ?_
      rotate_left
      · ((intro w hSw); (try dsimp only at hSw); go_simp <;> with_reducible rfl)
      simp only [Act.put, List.setIfInBounds_toArray, List.set_cons_zero, List.set_cons_succ]
      refine take_run 7 (some 24) (v := ?_) rfl rfl (by kernel_rfl) (by kernel_rfl) (by kernel_rfl) (fun _ _ _ h => h) (by rfl) ?_ hHeld ?_
      rotate_left
      · ((intro w hSw); (try dsimp only at hSw); go_simp <;> with_reducible rfl)
      simp only [Act.put, List.setIfInBounds_toArray, List.set_cons_zero, List.set_cons_succ]
      refine take_one 8 (by kernel_rfl) rfl (fun K hK => ?_)
      go_simp
      (refine (implStoreOk_any a1 c1 vs _ hn1 SM1.out ((V1.on hHeld.2).up hHeld.2.size)).mono ?_; rintro e wc8 ⟨rfl, hb⟩; rw [HP.out])
      try go_wp2_with fail
      refine hK.out _ _ (by exact ⟨⟨(B3.on (hHeld.2.trans (hb.mono hHeld.2.size))).at 0, (B4.on (hHeld.2.trans (hb.mono hHeld.2.size))).at 0, (B5.on (hHeld.2.trans (hb.mono hHeld.2.size))).at 0⟩, hHeld.2.trans (hb.mono hHeld.2.size)⟩) (fun hHeld => ?_)
      clear hK K
      refine take_run 9 (some 26) (v := ?_) rfl rfl (by kernel_rfl) (by kernel_rfl) (by kernel_rfl) (fun _ _ _ h => h) (by rfl) ?_ hHeld ?_
      rotate_left
      · ((intro w hSw); (try dsimp only at hSw); go_simp <;> with_reducible rfl)
      simp only [Act.put, List.setIfInBounds_toArray, List.set_cons_zero, List.set_cons_succ]
      refine take_run 10 (some 27) (v := ?_) rfl rfl (by kernel_rfl) (by kernel_rfl) (by kernel_rfl) (fun _ _ _ h => h) (by rfl) ?_ hHeld ?_
      rotate_left
      · ((intro w hSw); (try dsimp only at hSw); go_simp <;> with_reducible rfl)
      simp only [Act.put, List.setIfInBounds_toArray, List.set_cons_zero, List.set_cons_succ]
      refine take_run 11 (some 28) (v := ?_) rfl rfl (by kernel_rfl) (by kernel_rfl) (by kernel_rfl) (fun _ _ _ h => h) (by rfl) ?_ hHeld ?_
      rotate_left
      · ((intro w hSw); (try dsimp only at hSw); go_simp <;> with_reducible rfl)
      simp only [Act.put, List.setIfInBounds_toArray, List.set_cons_zero, List.set_cons_succ]
      refine take_skip 12 (some 29) rfl rfl (by kernel_rfl) (by kernel_rfl) (by kernel_rfl) (fun _ _ _ h => h) (by rfl) hHeld ?_
      simp only [Act.put, List.setIfInBounds_toArray, List.set_cons_zero, List.set_cons_succ]
      refine take_skip 13 (some 30) rfl rfl (by kernel_rfl) (by kernel_rfl) (by kernel_rfl) (fun _ _ _ h => h) (by rfl) hHeld ?_
      simp only [Act.put, List.setIfInBounds_toArray, List.set_cons_zero, List.set_cons_succ]
      refine take_skip 14 (some 31) rfl rfl (by kernel_rfl) (by kernel_rfl) (by kernel_rfl) (fun _ _ _ h => h) (by rfl) hHeld ?_
      simp only [Act.put, List.setIfInBounds_toArray, List.set_cons_zero, List.set_cons_succ]
      refine take_run 15 (some 32) (v := ?_) rfl rfl (by kernel_rfl) (by kernel_rfl) (by kernel_rfl) (fun _ _ _ h => h) (by rfl) ?_ hHeld ?_
      rotate_left
      · ((intro w hSw); (try dsimp only at hSw); go_simp <;> with_reducible rfl)
      simp only [Act.put, List.setIfInBounds_toArray, List.set_cons_zero, List.set_cons_succ]
      refine wpAnyH_done (by kernel_rfl) ?_ _
      refine NoPanic.normal ?_
      have LX := hHeld.2
      clear hHeld
      go_wp2_with fail
      refine wp_region_noPanic ?_
      refine wp_region_held_drew (S := (fun w' => (w'.cell? ⟨p3, 0, none⟩ = some (.slice a1 vs.length c1) ∧ w'.cell? ⟨p4, 0, none⟩ = some (.slice a2 us.length c2) ∧ w'.cell? ⟨p5, 0, none⟩ = some (.slice A5 (joinR vs us).length cap5)) ∧ Below W.heap.size W w')) (by kernel_rfl) (by exact ⟨⟨((B3.on LX).drew).at 0, ((B4.on LX).drew).at 0, ((B5.on LX).drew).at 0⟩, (LX).drew⟩) (fun hHeld => ?_)
      refine take_run 0 (some 33) (v := ?_) rfl rfl (by kernel_rfl) (by kernel_rfl) (by kernel_rfl) (fun _ _ _ h => h) (by rfl) ?_ hHeld ?_
      rotate_left
      · ((intro w hSw); (try dsimp only at hSw); go_simp <;> with_reducible rfl)
      simp only [Act.put, List.setIfInBounds_toArray, List.set_cons_zero, List.set_cons_succ]
      refine take_run 1 (some 34) (v := ?_) rfl rfl (by kernel_rfl) (by kernel_rfl) (by kernel_rfl) (fun _ _ _ h => h) (by rfl) ?_ hHeld ?_
      rotate_left
      · ((intro w hSw); (try dsimp only at hSw); go_simp <;> with_reducible rfl)
      simp only [Act.put, List.setIfInBounds_toArray, List.set_cons_zero, List.set_cons_succ]
      refine take_run 2 (some 35) (v := ?_) rfl rfl (by kernel_rfl) (by kernel_rfl) (by kernel_rfl) (fun _ _ _ h => h) (by rfl) ?_ hHeld ?_
      rotate_left
      · ((intro w hSw); (try dsimp only at hSw); go_simp <;> with_reducible rfl)
      simp only [Act.put, List.setIfInBounds_toArray, List.set_cons_zero, List.set_cons_succ]
      refine take_one 3 (by kernel_rfl) rfl (fun K hK => ?_)
      go_simp
      (refine (specStoreJoin_any a1 a2 c1 c2 vs us _ hn1 SM1.out ((V1.on hHeld.2).up hHeld.2.size) hn2 SM2.out ((V2.on hHeld.2).up hHeld.2.size)).mono ?_; intro e wa3 ha; obtain ⟨A3, cap3, vs3, rfl, hl3, hi3, hR3, hb⟩ := answerS_form ha; clear ha)
      try go_wp2_with fail
      refine hK.out _ _ (by exact ⟨⟨(B3.on (hHeld.2.trans (hb.mono hHeld.2.size))).at 0, (B4.on (hHeld.2.trans (hb.mono hHeld.2.size))).at 0, (B5.on (hHeld.2.trans (hb.mono hHeld.2.size))).at 0⟩, hHeld.2.trans (hb.mono hHeld.2.size)⟩) (fun hHeld => ?_)
      clear hK K
      refine take_one 4 (by kernel_rfl) rfl (fun K hK => ?_)
      go_simp
      (refine (cfStore_same A5 A3 cap5 cap3 _ vs5 vs3 _ hn5 HL5.out hl3 (like_via HL5.out HI5.out hl3 hi3) HM5.out ((V5.on hHeld.2).up hHeld.2.size) hR3.vg).mono ?_; rintro e wb4 ⟨rfl, hb⟩)
      try go_wp2_with fail
      refine hK.out _ _ (by exact ⟨⟨(B3.on (hHeld.2.trans (hb.mono hHeld.2.size))).at 0, (B4.on (hHeld.2.trans (hb.mono hHeld.2.size))).at 0, (B5.on (hHeld.2.trans (hb.mono hHeld.2.size))).at 0⟩, hHeld.2.trans (hb.mono hHeld.2.size)⟩) (fun hHeld => ?_)
      clear hK K
      refine take_run 5 (some 2) (v := ?_) rfl rfl (by kernel_rfl) (by kernel_rfl) (by kernel_rfl) (fun _ _ _ h => h) (by rfl) ?_ hHeld ?_
      rotate_left
      · ((intro w hSw); (try dsimp only at hSw); go_simp <;> with_reducible rfl)
      simp only [Act.put, List.setIfInBounds_toArray, List.set_cons_zero, List.set_cons_succ]
      refine wpAnyH_done (by kernel_rfl) ?_ _
      refine NoPanic.normal ?_
      have L9 := L0.trans (hHeld.2.mono L0.size)
      clear hHeld
      go_wp2
      go_ret
      exact ⟨rfl, L9⟩
    · have HP := hide hp
      clear hp
      cases hq : storeB us
      · have HQ := hide hq
        clear hq
        refine wp_region_noPanic ?_
        refine wp_region_held_drew (S := (fun w' => (w'.cell? ⟨p3, 0, none⟩ = some (.slice a1 vs.length c1) ∧ w'.cell? ⟨p4, 0, none⟩ = some (.slice a2 us.length c2) ∧ w'.cell? ⟨p5, 0, none⟩ = some (.slice A5 (joinR vs us).length cap5)) ∧ Below W.heap.size W w')) (by kernel_rfl) (by exact ⟨⟨((B3.on LR).drew).at 0, ((B4.on LR).drew).at 0, ((B5.on LR).drew).at 0⟩, (LR).drew⟩) (fun hHeld => ?_)
        refine take_run 0 (some 17) (v := ?_) rfl rfl (by kernel_rfl) (by kernel_rfl) (by kernel_rfl) (fun _ _ _ h => h) (by rfl) ?_ hHeld ?_
        rotate_left
        · ((intro w hSw); (try dsimp only at hSw); go_simp <;> with_reducible rfl)
        simp only [Act.put, List.setIfInBounds_toArray, List.set_cons_zero, List.set_cons_succ]
        refine take_run 1 (some 18) (v := ?_) rfl rfl (by kernel_rfl) (by kernel_rfl) (by kernel_rfl) (fun _ _ _ h => h) (by rfl) ?_ hHeld ?_
        rotate_left
        · ((intro w hSw); (try dsimp only at hSw); go_simp <;> with_reducible rfl)
        simp only [Act.put, List.setIfInBounds_toArray, List.set_cons_zero, List.set_cons_succ]
        refine take_run 2 (some 19) (v := ?_) rfl rfl (by kernel_rfl) (by kernel_rfl) (by kernel_rfl) (fun _ _ _ h => h) (by rfl) ?_ hHeld ?_
        rotate_left
        · ((intro w hSw); (try dsimp only at hSw); go_simp <;> with_reducible rfl)
        simp only [Act.put, List.setIfInBounds_toArray, List.set_cons_zero, List.set_cons_succ]
        refine take_one 3 (by kernel_rfl) rfl (fun K hK => ?_)
        go_simp
        (refine (specStoreJoin_any a1 a2 c1 c2 vs us _ hn1 SM1.out ((V1.on hHeld.2).up hHeld.2.size) hn2 SM2.out ((V2.on hHeld.2).up hHeld.2.size)).mono ?_; intro e wa3 ha; obtain ⟨A3, cap3, vs3, rfl, hl3, hi3, hR3, hb⟩ := answerS_form ha; clear ha)
        try go_wp2_with fail
        refine hK.out _ _ (by exact ⟨⟨(B3.on (hHeld.2.trans (hb.mono hHeld.2.size))).at 0, (B4.on (hHeld.2.trans (hb.mono hHeld.2.size))).at 0, (B5.on (hHeld.2.trans (hb.mono hHeld.2.size))).at 0⟩, hHeld.2.trans (hb.mono hHeld.2.size)⟩) (fun hHeld => ?_)
        clear hK K
        refine take_one 4 (by kernel_rfl) rfl (fun K hK => ?_)
        go_simp
        (refine (cfStore_same A5 A3 cap5 cap3 _ vs5 vs3 _ hn5 HL5.out hl3 (like_via HL5.out HI5.out hl3 hi3) HM5.out ((V5.on hHeld.2).up hHeld.2.size) hR3.vg).mono ?_; rintro e wb4 ⟨rfl, hb⟩)
        try go_wp2_with fail
        refine hK.out _ _ (by exact ⟨⟨(B3.on (hHeld.2.trans (hb.mono hHeld.2.size))).at 0, (B4.on (hHeld.2.trans (hb.mono hHeld.2.size))).at 0, (B5.on (hHeld.2.trans (hb.mono hHeld.2.size))).at 0⟩, hHeld.2.trans (hb.mono hHeld.2.size)⟩) (fun hHeld => ?_)
        clear hK K
        refine take_run 5 (some 22) (v := ?_) rfl rfl (by kernel_rfl) (by kernel_rfl) (by kernel_rfl) (fun _ _ _ h => h) (by rfl) ?_ hHeld ?_
        rotate_left
        · ((intro w hSw); (try dsimp only at hSw); go_simp <;> with_reducible rfl)
        simp only [Act.put, List.setIfInBounds_toArray, List.set_cons_zero, List.set_cons_succ]
        refine take_run 6 (some 23) (v := ?_) rfl rfl (by kernel_rfl) (by kernel_rfl) (by kernel_rfl) (fun _ _ _ h => h) (by rfl) ?_ hHeld ?_
        rotate_left
        · ((intro w hSw); (try dsimp only at hSw); go_simp <;> with_reducible rfl)
        simp only [Act.put, List.setIfInBounds_toArray, List.set_cons_zero, List.set_cons_succ]
        refine take_run 7 (some 24) (v := ?_) rfl rfl (by kernel_rfl) (by kernel_rfl) (by kernel_rfl) (fun _ _ _ h => h) (by rfl) ?_ hHeld ?_
        rotate_left
        · ((intro w hSw); (try dsimp only at hSw); go_simp <;> with_reducible rfl)
        simp only [Act.put, List.setIfInBounds_toArray, List.set_cons_zero, List.set_cons_succ]
        refine take_one 8 (by kernel_rfl) rfl (fun K hK => ?_)
        go_simp
        (refine (implStoreOk_any a1 c1 vs _ hn1 SM1.out ((V1.on hHeld.2).up hHeld.2.size)).mono ?_; rintro e wc8 ⟨rfl, hb⟩; rw [HP.out])
        try go_wp2_with fail
        refine hK.out _ _ (by exact ⟨⟨(B3.on (hHeld.2.trans (hb.mono hHeld.2.size))).at 0, (B4.on (hHeld.2.trans (hb.mono hHeld.2.size))).at 0, (B5.on (hHeld.2.trans (hb.mono hHeld.2.size))).at 0⟩, hHeld.2.trans (hb.mono hHeld.2.size)⟩) (fun hHeld => ?_)
        clear hK K
        refine take_run 9 (some 26) (v := ?_) rfl rfl (by kernel_rfl) (by kernel_rfl) (by kernel_rfl) (fun _ _ _ h => h) (by rfl) ?_ hHeld ?_
        rotate_left
        · ((intro w hSw); (try dsimp only at hSw); go_simp <;> with_reducible rfl)
        simp only [Act.put, List.setIfInBounds_toArray, List.set_cons_zero, List.set_cons_succ]
        refine take_run 10 (some 27) (v := ?_) rfl rfl (by kernel_rfl) (by kernel_rfl) (by kernel_rfl) (fun _ _ _ h => h) (by rfl) ?_ hHeld ?_
        rotate_left
        · ((intro w hSw); (try dsimp only at hSw); go_simp <;> with_reducible rfl)
        simp only [Act.put, List.setIfInBounds_toArray, List.set_cons_zero, List.set_cons_succ]
        refine take_run 11 (some 28) (v := ?_) rfl rfl (by kernel_rfl) (by kernel_rfl) (by kernel_rfl) (fun _ _ _ h => h) (by rfl) ?_ hHeld ?_
        rotate_left
        · ((intro w hSw); (try dsimp only at hSw); go_simp <;> with_reducible rfl)
        simp only [Act.put, List.setIfInBounds_toArray, List.set_cons_zero, List.set_cons_succ]
        refine take_run 12 (some 29) (v := ?_) rfl rfl (by kernel_rfl) (by kernel_rfl) (by kernel_rfl) (fun _ _ _ h => h) (by rfl) ?_ hHeld ?_
        rotate_left
        · ((intro w hSw); (try dsimp only at hSw); go_simp <;> with_reducible rfl)
        simp only [Act.put, List.setIfInBounds_toArray, List.set_cons_zero, List.set_cons_succ]
        refine take_one 13 (by kernel_rfl) rfl (fun K hK => ?_)
        go_simp
        (refine (implStoreOk_any a2 c2 us _ hn2 SM2.out ((V2.on hHeld.2).up hHeld.2.size)).mono ?_; rintro e wc13 ⟨rfl, hb⟩; rw [HQ.out])
        try go_wp2_with fail
        refine hK.out _ _ (by exact ⟨⟨(B3.on (hHeld.2.trans (hb.mono hHeld.2.size))).at 0, (B4.on (hHeld.2.trans (hb.mono hHeld.2.size))).at 0, (B5.on (hHeld.2.trans (hb.mono hHeld.2.size))).at 0⟩, hHeld.2.trans (hb.mono hHeld.2.size)⟩) (fun hHeld => ?_)
        clear hK K
        refine take_run 14 (some 31) (v := ?_) rfl rfl (by kernel_rfl) (by kernel_rfl) (by kernel_rfl) (fun _ _ _ h => h) (by rfl) ?_ hHeld ?_
        rotate_left
        · ((intro w hSw); (try dsimp only at hSw); go_simp <;> with_reducible rfl)
        simp only [Act.put, List.setIfInBounds_toArray, List.set_cons_zero, List.set_cons_succ]
        refine take_run 15 (some 32) (v := ?_) rfl rfl (by kernel_rfl) (by kernel_rfl) (by kernel_rfl) (fun _ _ _ h => h) (by rfl) ?_ hHeld ?_
        rotate_left
        · ((intro w hSw); (try dsimp only at hSw); go_simp <;> with_reducible rfl)
        simp only [Act.put, List.setIfInBounds_toArray, List.set_cons_zero, List.set_cons_succ]
        refine wpAnyH_done (by kernel_rfl) ?_ _
        refine NoPanic.normal ?_
        have LX := hHeld.2
        clear hHeld
        go_wp2_with fail
        refine wp_region_noPanic ?_
        refine wp_region_held_drew (S := (fun w' => (w'.cell? ⟨p3, 0, none⟩ = some (.slice a1 vs.length c1) ∧ w'.cell? ⟨p4, 0, none⟩ = some (.slice a2 us.length c2) ∧ w'.cell? ⟨p5, 0, none⟩ = some (.slice A5 (joinR vs us).length cap5)) ∧ Below W.heap.size W w')) (by kernel_rfl) (by exact ⟨⟨((B3.on LX).drew).at 0, ((B4.on LX).drew).at 0, ((B5.on LX).drew).at 0⟩, (LX).drew⟩) (fun hHeld => ?_)
        refine take_run 0 (some 33) (v := ?_) rfl rfl (by kernel_rfl) (by kernel_rfl) (by kernel_rfl) (fun _ _ _ h => h) (by rfl) ?_ hHeld ?_
        rotate_left
        · ((intro w hSw); (try dsimp only at hSw); go_simp <;> with_reducible rfl)
        simp only [Act.put, List.setIfInBounds_toArray, List.set_cons_zero, List.set_cons_succ]
        refine take_run 1 (some 34) (v := ?_) rfl rfl (by kernel_rfl) (by kernel_rfl) (by kernel_rfl) (fun _ _ _ h => h) (by rfl) ?_ hHeld ?_
        rotate_left
        · ((intro w hSw); (try dsimp only at hSw); go_simp <;> with_reducible rfl)
        simp only [Act.put, List.setIfInBounds_toArray, List.set_cons_zero, List.set_cons_succ]
        refine take_run 2 (some 35) (v := ?_) rfl rfl (by kernel_rfl) (by kernel_rfl) (by kernel_rfl) (fun _ _ _ h => h) (by rfl) ?_ hHeld ?_
        rotate_left
        · ((intro w hSw); (try dsimp only at hSw); go_simp <;> with_reducible rfl)
        simp only [Act.put, List.setIfInBounds_toArray, List.set_cons_zero, List.set_cons_succ]
        refine take_one 3 (by kernel_rfl) rfl (fun K hK => ?_)
        go_simp
        (refine (specStoreJoin_any a1 a2 c1 c2 vs us _ hn1 SM1.out ((V1.on hHeld.2).up hHeld.2.size) hn2 SM2.out ((V2.on hHeld.2).up hHeld.2.size)).mono ?_; intro e wa3 ha; obtain ⟨A3, cap3, vs3, rfl, hl3, hi3, hR3, hb⟩ := answerS_form ha; clear ha)
        try go_wp2_with fail
        refine hK.out _ _ (by exact ⟨⟨(B3.on (hHeld.2.trans (hb.mono hHeld.2.size))).at 0, (B4.on (hHeld.2.trans (hb.mono hHeld.2.size))).at 0, (B5.on (hHeld.2.trans (hb.mono hHeld.2.size))).at 0⟩, hHeld.2.trans (hb.mono hHeld.2.size)⟩) (fun hHeld => ?_)
        clear hK K
        refine take_one 4 (by kernel_rfl) rfl (fun K hK => ?_)
        go_simp
        (refine (cfStore_same A5 A3 cap5 cap3 _ vs5 vs3 _ hn5 HL5.out hl3 (like_via HL5.out HI5.out hl3 hi3) HM5.out ((V5.on hHeld.2).up hHeld.2.size) hR3.vg).mono ?_; rintro e wb4 ⟨rfl, hb⟩)
        try go_wp2_with fail
        refine hK.out _ _ (by exact ⟨⟨(B3.on (hHeld.2.trans (hb.mono hHeld.2.size))).at 0, (B4.on (hHeld.2.trans (hb.mono hHeld.2.size))).at 0, (B5.on (hHeld.2.trans (hb.mono hHeld.2.size))).at 0⟩, hHeld.2.trans (hb.mono hHeld.2.size)⟩) (fun hHeld => ?_)
        clear hK K
        refine take_run 5 (some 2) (v := ?_) rfl rfl (by kernel_rfl) (by kernel_rfl) (by kernel_rfl) (fun _ _ _ h => h) (by rfl) ?_ hHeld ?_
        rotate_left
        · ((intro w hSw); (try dsimp only at hSw); go_simp <;> with_reducible rfl)
        simp only [Act.put, List.setIfInBounds_toArray, List.set_cons_zero, List.set_cons_succ]
        refine wpAnyH_done (by kernel_rfl) ?_ _
        refine NoPanic.normal ?_
        have L9 := L0.trans (hHeld.2.mono L0.size)
        clear hHeld
        go_wp2
        go_ret
        exact ⟨rfl, L9⟩
      · have HQ := hide hq
        clear hq
        have HO5 : Hid (storeB vs5 = true) := by unfold Hid; rw [storeB_like HL5.out HI5.out]; exact store_join HP.out HQ.out
        have HT5 : Hid (tagsR vs5 = joinL (tagsR vs) (tagsR us)) := by unfold Hid; rw [tagsR_like HL5.out HI5.out]; exact tags_join HP.out HQ.out
        have HJ1 := hide (join_own HP.out)
        have HJ2 := hide (join_zero HP.out)
        refine wp_region_noPanic ?_
        refine wp_region_held_drew (S := (fun w' => (w'.cell? ⟨p3, 0, none⟩ = some (.slice a1 vs.length c1) ∧ w'.cell? ⟨p4, 0, none⟩ = some (.slice a2 us.length c2) ∧ w'.cell? ⟨p5, 0, none⟩ = some (.slice A5 (joinR vs us).length cap5)) ∧ Below W.heap.size W w')) (by kernel_rfl) (by exact ⟨⟨((B3.on LR).drew).at 0, ((B4.on LR).drew).at 0, ((B5.on LR).drew).at 0⟩, (LR).drew⟩) (fun hHeld => ?_)
        refine take_run 0 (some 17) (v := ?_) rfl rfl (by kernel_rfl) (by kernel_rfl) (by kernel_rfl) (fun _ _ _ h => h) (by rfl) ?_ hHeld ?_
        rotate_left
        · ((intro w hSw); (try dsimp only at hSw); go_simp <;> with_reducible rfl)
        simp only [Act.put, List.setIfInBounds_toArray, List.set_cons_zero, List.set_cons_succ]
        refine take_run 1 (some 18) (v := ?_) rfl rfl (by kernel_rfl) (by kernel_rfl) (by kernel_rfl) (fun _ _ _ h => h) (by rfl) ?_ hHeld ?_
        rotate_left
        · ((intro w hSw); (try dsimp only at hSw); go_simp <;> with_reducible rfl)
        simp only [Act.put, List.setIfInBounds_toArray, List.set_cons_zero, List.set_cons_succ]
        refine take_run 2 (some 19) (v := ?_) rfl rfl (by kernel_rfl) (by kernel_rfl) (by kernel_rfl) (fun _ _ _ h => h) (by rfl) ?_ hHeld ?_
        rotate_left
        · ((intro w hSw); (try dsimp only at hSw); go_simp <;> with_reducible rfl)
        simp only [Act.put, List.setIfInBounds_toArray, List.set_cons_zero, List.set_cons_succ]
        refine take_one 3 (by kernel_rfl) rfl (fun K hK => ?_)
        go_simp
        (refine (specStoreJoin_any a1 a2 c1 c2 vs us _ hn1 SM1.out ((V1.on hHeld.2).up hHeld.2.size) hn2 SM2.out ((V2.on hHeld.2).up hHeld.2.size)).mono ?_; intro e wa3 ha; obtain ⟨A3, cap3, vs3, rfl, hl3, hi3, hR3, hb⟩ := answerS_form ha; clear ha)
        try go_wp2_with fail
        refine hK.out _ _ (by exact ⟨⟨(B3.on (hHeld.2.trans (hb.mono hHeld.2.size))).at 0, (B4.on (hHeld.2.trans (hb.mono hHeld.2.size))).at 0, (B5.on (hHeld.2.trans (hb.mono hHeld.2.size))).at 0⟩, hHeld.2.trans (hb.mono hHeld.2.size)⟩) (fun hHeld => ?_)
        clear hK K
        refine take_one 4 (by kernel_rfl) rfl (fun K hK => ?_)
        go_simp
        (refine (cfStore_same A5 A3 cap5 cap3 _ vs5 vs3 _ hn5 HL5.out hl3 (like_via HL5.out HI5.out hl3 hi3) HM5.out ((V5.on hHeld.2).up hHeld.2.size) hR3.vg).mono ?_; rintro e wb4 ⟨rfl, hb⟩)
        try go_wp2_with fail
        refine hK.out _ _ (by exact ⟨⟨(B3.on (hHeld.2.trans (hb.mono hHeld.2.size))).at 0, (B4.on (hHeld.2.trans (hb.mono hHeld.2.size))).at 0, (B5.on (hHeld.2.trans (hb.mono hHeld.2.size))).at 0⟩, hHeld.2.trans (hb.mono hHeld.2.size)⟩) (fun hHeld => ?_)
        clear hK K
        refine take_run 5 (some 22) (v := ?_) rfl rfl (by kernel_rfl) (by kernel_rfl) (by kernel_rfl) (fun _ _ _ h => h) (by rfl) ?_ hHeld ?_
        rotate_left
        · ((intro w hSw); (try dsimp only at hSw); go_simp <;> with_reducible rfl)
        simp only [Act.put, List.setIfInBounds_toArray, List.set_cons_zero, List.set_cons_succ]
        refine take_run 6 (some 23) (v := ?_) rfl rfl (by kernel_rfl) (by kernel_rfl) (by kernel_rfl) (fun _ _ _ h => h) (by rfl) ?_ hHeld ?_
        rotate_left
        · ((intro w hSw); (try dsimp only at hSw); go_simp <;> with_reducible rfl)
        simp only [Act.put, List.setIfInBounds_toArray, List.set_cons_zero, List.set_cons_succ]
        refine take_run 7 (some 24) (v := ?_) rfl rfl (by kernel_rfl) (by kernel_rfl) (by kernel_rfl) (fun _ _ _ h => h) (by rfl) ?_ hHeld ?_
        rotate_left
        · ((intro w hSw); (try dsimp only at hSw); go_simp <;> with_reducible rfl)
        simp only [Act.put, List.setIfInBounds_toArray, List.set_cons_zero, List.set_cons_succ]
        refine take_one 8 (by kernel_rfl) rfl (fun K hK => ?_)
        go_simp
        (refine (implStoreOk_any a1 c1 vs _ hn1 SM1.out ((V1.on hHeld.2).up hHeld.2.size)).mono ?_; rintro e wc8 ⟨rfl, hb⟩; rw [HP.out])
        try go_wp2_with fail
        refine hK.out _ _ (by exact ⟨⟨(B3.on (hHeld.2.trans (hb.mono hHeld.2.size))).at 0, (B4.on (hHeld.2.trans (hb.mono hHeld.2.size))).at 0, (B5.on (hHeld.2.trans (hb.mono hHeld.2.size))).at 0⟩, hHeld.2.trans (hb.mono hHeld.2.size)⟩) (fun hHeld => ?_)
        clear hK K
        refine take_run 9 (some 26) (v := ?_) rfl rfl (by kernel_rfl) (by kernel_rfl) (by kernel_rfl) (fun _ _ _ h => h) (by rfl) ?_ hHeld ?_
        rotate_left
        · ((intro w hSw); (try dsimp only at hSw); go_simp <;> with_reducible rfl)
        simp only [Act.put, List.setIfInBounds_toArray, List.set_cons_zero, List.set_cons_succ]
        refine take_run 10 (some 27) (v := ?_) rfl rfl (by kernel_rfl) (by kernel_rfl) (by kernel_rfl) (fun _ _ _ h => h) (by rfl) ?_ hHeld ?_
        rotate_left
        · ((intro w hSw); (try dsimp only at hSw); go_simp <;> with_reducible rfl)
        simp only [Act.put, List.setIfInBounds_toArray, List.set_cons_zero, List.set_cons_succ]
        refine take_run 11 (some 28) (v := ?_) rfl rfl (by kernel_rfl) (by kernel_rfl) (by kernel_rfl) (fun _ _ _ h => h) (by rfl) ?_ hHeld ?_
        rotate_left
        · ((intro w hSw); (try dsimp only at hSw); go_simp <;> with_reducible rfl)
        simp only [Act.put, List.setIfInBounds_toArray, List.set_cons_zero, List.set_cons_succ]
        refine take_run 12 (some 29) (v := ?_) rfl rfl (by kernel_rfl) (by kernel_rfl) (by kernel_rfl) (fun _ _ _ h => h) (by rfl) ?_ hHeld ?_
        rotate_left
        · ((intro w hSw); (try dsimp only at hSw); go_simp <;> with_reducible rfl)
        simp only [Act.put, List.setIfInBounds_toArray, List.set_cons_zero, List.set_cons_succ]
        refine take_one 13 (by kernel_rfl) rfl (fun K hK => ?_)
        go_simp
        (refine (implStoreOk_any a2 c2 us _ hn2 SM2.out ((V2.on hHeld.2).up hHeld.2.size)).mono ?_; rintro e wc13 ⟨rfl, hb⟩; rw [HQ.out])
        try go_wp2_with fail
        refine hK.out _ _ (by exact ⟨⟨(B3.on (hHeld.2.trans (hb.mono hHeld.2.size))).at 0, (B4.on (hHeld.2.trans (hb.mono hHeld.2.size))).at 0, (B5.on (hHeld.2.trans (hb.mono hHeld.2.size))).at 0⟩, hHeld.2.trans (hb.mono hHeld.2.size)⟩) (fun hHeld => ?_)
        clear hK K
        refine take_run 14 (some 31) (v := ?_) rfl rfl (by kernel_rfl) (by kernel_rfl) (by kernel_rfl) (fun _ _ _ h => h) (by rfl) ?_ hHeld ?_
        rotate_left
        · ((intro w hSw); (try dsimp only at hSw); go_simp <;> with_reducible rfl)
        simp only [Act.put, List.setIfInBounds_toArray, List.set_cons_zero, List.set_cons_succ]
        refine take_run 15 (some 32) (v := ?_) rfl rfl (by kernel_rfl) (by kernel_rfl) (by kernel_rfl) (fun _ _ _ h => h) (by rfl) ?_ hHeld ?_
        rotate_left
        · ((intro w hSw); (try dsimp only at hSw); go_simp <;> with_reducible rfl)
        simp only [Act.put, List.setIfInBounds_toArray, List.set_cons_zero, List.set_cons_succ]
        refine wpAnyH_done (by kernel_rfl) ?_ _
        refine NoPanic.normal ?_
        have LX := hHeld.2
        clear hHeld
        go_wp2_with fail
        refine wp_region_noPanic ?_
        refine wp_region_held_drew (S := (fun w' => (w'.cell? ⟨p3, 0, none⟩ = some (.slice a1 vs.length c1) ∧ w'.cell? ⟨p4, 0, none⟩ = some (.slice a2 us.length c2) ∧ w'.cell? ⟨p5, 0, none⟩ = some (.slice A5 (joinR vs us).length cap5)) ∧ Below W.heap.size W w')) (by kernel_rfl) (by exact ⟨⟨((B3.on LX).drew).at 0, ((B4.on LX).drew).at 0, ((B5.on LX).drew).at 0⟩, (LX).drew⟩) (fun hHeld => ?_)
        refine take_run 0 (some 38) (v := ?_) rfl rfl (by kernel_rfl) (by kernel_rfl) (by kernel_rfl) (fun _ _ _ h => h) (by rfl) ?_ hHeld ?_
        rotate_left
        · ((intro w hSw); (try dsimp only at hSw); go_simp <;> with_reducible rfl)
        simp only [Act.put, List.setIfInBounds_toArray, List.set_cons_zero, List.set_cons_succ]
        refine take_one 1 (by kernel_rfl) rfl (fun K hK => ?_)
        go_simp
        (have CT := implStoreOk_any A5 cap5 vs5 _ (by rw [HL5.out]; exact hn5) SM5.out ((V5.on hHeld.2).up hHeld.2.size); rw [HL5.out] at CT; refine CT.mono ?_; clear CT; rintro e wa ⟨rfl, hb⟩; rw [HO5.out])
        try go_wp2_with fail
        refine hK.out _ _ (by exact ⟨⟨(B3.on (hHeld.2.trans (hb.mono hHeld.2.size))).at 0, (B4.on (hHeld.2.trans (hb.mono hHeld.2.size))).at 0, (B5.on (hHeld.2.trans (hb.mono hHeld.2.size))).at 0⟩, hHeld.2.trans (hb.mono hHeld.2.size)⟩) (fun hHeld => ?_)
        clear hK K
        refine take_run 2 (some 40) (v := ?_) rfl rfl (by kernel_rfl) (by kernel_rfl) (by kernel_rfl) (fun _ _ _ h => h) (by rfl) ?_ hHeld ?_
        rotate_left
        · ((intro w hSw); (try dsimp only at hSw); go_simp <;> with_reducible rfl)
        simp only [Act.put, List.setIfInBounds_toArray, List.set_cons_zero, List.set_cons_succ]
        refine take_run 3 (some 41) (v := ?_) rfl rfl (by kernel_rfl) (by kernel_rfl) (by kernel_rfl) (fun _ _ _ h => h) (by rfl) ?_ hHeld ?_
        rotate_left
        · ((intro w hSw); (try dsimp only at hSw); go_simp <;> with_reducible rfl)
        simp only [Act.put, List.setIfInBounds_toArray, List.set_cons_zero, List.set_cons_succ]
        refine take_run 5 (some 43) (v := ?_) rfl rfl (by kernel_rfl) (by kernel_rfl) (by kernel_rfl) (fun _ _ _ h => h) (by rfl) ?_ hHeld ?_
        rotate_left
        · ((intro w hSw); (try dsimp only at hSw); go_simp <;> with_reducible rfl)
        simp only [Act.put, List.setIfInBounds_toArray, List.set_cons_zero, List.set_cons_succ]
        refine take_run 7 (some 45) (v := ?_) rfl rfl (by kernel_rfl) (by kernel_rfl) (by kernel_rfl) (fun _ _ _ h => h) (by rfl) ?_ hHeld ?_
        rotate_left
        · ((intro w hSw); (try dsimp only at hSw); go_simp <;> with_reducible rfl)
        simp only [Act.put, List.setIfInBounds_toArray, List.set_cons_zero, List.set_cons_succ]
        refine take_one 4 (by kernel_rfl) rfl (fun K hK => ?_)
        go_simp
        (have CT := implStoreTags_any A5 cap5 vs5 _ (by rw [HL5.out]; exact hn5) SM5.out ((V5.on hHeld.2).up hHeld.2.size); rw [HL5.out, HT5.out] at CT; refine CT.mono ?_; clear CT; rintro e wt4 ⟨A4', cap4, rfl, hR4, hb⟩)
        try go_wp2_with fail
        refine hK.out _ _ (by exact ⟨⟨(B3.on (hHeld.2.trans (hb.mono hHeld.2.size))).at 0, (B4.on (hHeld.2.trans (hb.mono hHeld.2.size))).at 0, (B5.on (hHeld.2.trans (hb.mono hHeld.2.size))).at 0⟩, hHeld.2.trans (hb.mono hHeld.2.size)⟩) (fun hHeld => ?_)
        clear hK K
        refine take_one 6 (by kernel_rfl) rfl (fun K hK => ?_)
        go_simp
        (refine (implStoreTags_any a1 c1 vs _ hn1 SM1.out ((V1.on hHeld.2).up hHeld.2.size)).mono ?_; rintro e wt6 ⟨A6, cap6, rfl, hR6, hb⟩; have HR4 := hR4.on hb)
        try go_wp2_with fail
        refine hK.out _ _ (by exact ⟨⟨(B3.on (hHeld.2.trans (hb.mono hHeld.2.size))).at 0, (B4.on (hHeld.2.trans (hb.mono hHeld.2.size))).at 0, (B5.on (hHeld.2.trans (hb.mono hHeld.2.size))).at 0⟩, hHeld.2.trans (hb.mono hHeld.2.size)⟩) (fun hHeld => ?_)
        clear hK K
        refine take_one 8 (by kernel_rfl) rfl (fun K hK => ?_)
        go_simp
        (refine (implStoreTags_any a2 c2 us _ hn2 SM2.out ((V2.on hHeld.2).up hHeld.2.size)).mono ?_; rintro e wt8 ⟨A8, cap8, rfl, hR8, hb⟩; have HR4b := HR4.on hb; have HR6 := hR6.on hb)
        try go_wp2_with fail
        refine hK.out _ _ (by exact ⟨⟨(B3.on (hHeld.2.trans (hb.mono hHeld.2.size))).at 0, (B4.on (hHeld.2.trans (hb.mono hHeld.2.size))).at 0, (B5.on (hHeld.2.trans (hb.mono hHeld.2.size))).at 0⟩, hHeld.2.trans (hb.mono hHeld.2.size)⟩) (fun hHeld => ?_)
        clear hK K
        refine take_one 9 (by kernel_rfl) rfl (fun K hK => ?_)
        go_simp
        (refine (implPastJoin_any A6 A8 cap6 cap8 (tagsR vs) (tagsR us) _ (by have := tagsR_len vs; omega) (by have := tagsR_len us; omega) HR6.tg hR8.tg).mono ?_; rintro e wt9 ⟨A9, cap9, rfl, hR9, hb⟩; have HR4c := HR4b.on hb)
        try go_wp2_with fail
        refine hK.out _ _ (by exact ⟨⟨(B3.on (hHeld.2.trans (hb.mono hHeld.2.size))).at 0, (B4.on (hHeld.2.trans (hb.mono hHeld.2.size))).at 0, (B5.on (hHeld.2.trans (hb.mono hHeld.2.size))).at 0⟩, hHeld.2.trans (hb.mono hHeld.2.size)⟩) (fun hHeld => ?_)
        clear hK K
        refine take_one 10 (by kernel_rfl) rfl (fun K hK => ?_)
        go_simp
        (refine (cfPast_any A4' A9 cap4 cap9 (joinL (tagsR vs) (tagsR us)) (joinL (tagsR vs) (tagsR us)) _ (by have := joinL_len (tagsR vs) (tagsR us); omega) (by have := joinL_len (tagsR vs) (tagsR us); omega) HR4c.tg hR9.tg).mono ?_; rintro e wb ⟨rfl, hb⟩; rw [decide_eq_true rfl])
        try go_wp2_with fail
        refine hK.out _ _ (by exact ⟨⟨(B3.on (hHeld.2.trans (hb.mono hHeld.2.size))).at 0, (B4.on (hHeld.2.trans (hb.mono hHeld.2.size))).at 0, (B5.on (hHeld.2.trans (hb.mono hHeld.2.size))).at 0⟩, hHeld.2.trans (hb.mono hHeld.2.size)⟩) (fun hHeld => ?_)
        clear hK K
        refine take_run 11 (some 49) (v := ?_) rfl rfl (by kernel_rfl) (by kernel_rfl) (by kernel_rfl) (fun _ _ _ h => h) (by rfl) ?_ hHeld ?_
        rotate_left
        · ((intro w hSw); (try dsimp only at hSw); go_simp <;> with_reducible rfl)
        simp only [Act.put, List.setIfInBounds_toArray, List.set_cons_zero, List.set_cons_succ]
        refine take_run 12 (some 50) (v := ?_) rfl rfl (by kernel_rfl) (by kernel_rfl) (by kernel_rfl) (fun _ _ _ h => h) (by rfl) ?_ hHeld ?_
        rotate_left
        · ((intro w hSw); (try dsimp only at hSw); go_simp <;> with_reducible rfl)
        simp only [Act.put, List.setIfInBounds_toArray, List.set_cons_zero, List.set_cons_succ]
        refine take_run 13 (some 51) (v := ?_) rfl rfl (by kernel_rfl) (by kernel_rfl) (by kernel_rfl) (fun _ _ _ h => h) (by rfl) ?_ hHeld ?_
        rotate_left
        · ((intro w hSw); (try dsimp only at hSw); go_simp <;> with_reducible rfl)
        simp only [Act.put, List.setIfInBounds_toArray, List.set_cons_zero, List.set_cons_succ]
        refine take_run 14 (some 52) (v := ?_) rfl rfl (by kernel_rfl) (by kernel_rfl) (by kernel_rfl) (fun _ _ _ h => h) (by rfl) ?_ hHeld ?_
        rotate_left
        · ((intro w hSw); (try dsimp only at hSw); go_simp <;> with_reducible rfl)
        simp only [Act.put, List.setIfInBounds_toArray, List.set_cons_zero, List.set_cons_succ]
        refine take_run 16 (some 54) (v := ?_) rfl rfl (by kernel_rfl) (by kernel_rfl) (by kernel_rfl) (fun _ _ _ h => h) (by rfl) ?_ hHeld ?_
        rotate_left
        · ((intro w hSw); (try dsimp only at hSw); go_simp <;> with_reducible rfl)
        simp only [Act.put, List.setIfInBounds_toArray, List.set_cons_zero, List.set_cons_succ]
        refine take_one 15 (by kernel_rfl) rfl (fun K hK => ?_)
        go_simp
        (refine (implStoreJoin_any a1 a1 c1 c1 vs vs _ hn1 SM1.out ((V1.on hHeld.2).up hHeld.2.size) hn1 SM1.out ((V1.on hHeld.2).up hHeld.2.size)).mono ?_; intro e wa15 ha; obtain ⟨A15, cap15, vs15, rfl, hl15, hi15, hR15, hb⟩ := answerS_form ha; clear ha; rw [HJ1.out] at hl15 hi15 ⊢)
        try go_wp2_with fail
        refine hK.out _ _ (by exact ⟨⟨(B3.on (hHeld.2.trans (hb.mono hHeld.2.size))).at 0, (B4.on (hHeld.2.trans (hb.mono hHeld.2.size))).at 0, (B5.on (hHeld.2.trans (hb.mono hHeld.2.size))).at 0⟩, hHeld.2.trans (hb.mono hHeld.2.size)⟩) (fun hHeld => ?_)
        clear hK K
        refine take_one 17 (by kernel_rfl) rfl (fun K hK => ?_)
        go_simp
        (refine (cfStore_same A15 a1 cap15 c1 _ vs15 vs _ hn1 hl15 rfl hi15 (small_of hl15 hi15 SM1.out) hR15.vg ((V1.on hHeld.2).up hHeld.2.size)).mono ?_; rintro e wb17 ⟨rfl, hb⟩)
        try go_wp2_with fail
        refine hK.out _ _ (by exact ⟨⟨(B3.on (hHeld.2.trans (hb.mono hHeld.2.size))).at 0, (B4.on (hHeld.2.trans (hb.mono hHeld.2.size))).at 0, (B5.on (hHeld.2.trans (hb.mono hHeld.2.size))).at 0⟩, hHeld.2.trans (hb.mono hHeld.2.size)⟩) (fun hHeld => ?_)
        clear hK K
        refine take_run 18 (some 56) (v := ?_) rfl rfl (by kernel_rfl) (by kernel_rfl) (by kernel_rfl) (fun _ _ _ h => h) (by rfl) ?_ hHeld ?_
        rotate_left
        · ((intro w hSw); (try dsimp only at hSw); go_simp <;> with_reducible rfl)
        simp only [Act.put, List.setIfInBounds_toArray, List.set_cons_zero, List.set_cons_succ]
        refine take_run 19 (some 57) (v := ?_) rfl rfl (by kernel_rfl) (by kernel_rfl) (by kernel_rfl) (fun _ _ _ h => h) (by rfl) ?_ hHeld ?_
        rotate_left
        · ((intro w hSw); (try dsimp only at hSw); go_simp <;> with_reducible rfl)
        simp only [Act.put, List.setIfInBounds_toArray, List.set_cons_zero, List.set_cons_succ]
        refine take_run 20 (some 58) (v := ?_) rfl rfl (by kernel_rfl) (by kernel_rfl) (by kernel_rfl) (fun _ _ _ h => h) (by rfl) ?_ hHeld ?_
        rotate_left
        · ((intro w hSw); (try dsimp only at hSw); go_simp <;> with_reducible rfl)
        simp only [Act.put, List.setIfInBounds_toArray, List.set_cons_zero, List.set_cons_succ]
        refine take_run 23 (some 61) (v := ?_) rfl rfl (by kernel_rfl) (by kernel_rfl) (by kernel_rfl) (fun _ _ _ h => h) (by rfl) ?_ hHeld ?_
        rotate_left
        · ((intro w hSw); (try dsimp only at hSw); go_simp <;> with_reducible rfl)
        simp only [Act.put, List.setIfInBounds_toArray, List.set_cons_zero, List.set_cons_succ]
        refine take_one 21 (by kernel_rfl) rfl (fun K hK => ?_)
        go_simp
        (refine (implStoreNew_any _).mono ?_; rintro e we ⟨g9, rfl, hg9, hB9, hb⟩)
        try go_wp2_with fail
        refine hK.out _ _ (by exact ⟨⟨(B3.on (hHeld.2.trans (hb.mono hHeld.2.size))).at 0, (B4.on (hHeld.2.trans (hb.mono hHeld.2.size))).at 0, (B5.on (hHeld.2.trans (hb.mono hHeld.2.size))).at 0⟩, hHeld.2.trans (hb.mono hHeld.2.size)⟩) (fun hHeld => ?_)
        clear hK K
        refine take_one 22 (by kernel_rfl) rfl (fun K hK => ?_)
        go_simp
        (have CT := implStoreJoin_any a1 (some ⟨g9, 0, none⟩) c1 4 vs [v0, v0, v0, v0] _ hn1 SM1.out ((V1.on hHeld.2).up hHeld.2.size) (by simp) small_zero (zero24_vg hB9); refine CT.mono ?_; clear CT; intro e wa22 ha; obtain ⟨A22, cap22, vs22, rfl, hl22, hi22, hR22, hb⟩ := answerS_form ha; clear ha; rw [HJ2.out] at hl22 hi22 ⊢)
        try go_wp2_with fail
        refine hK.out _ _ (by exact ⟨⟨(B3.on (hHeld.2.trans (hb.mono hHeld.2.size))).at 0, (B4.on (hHeld.2.trans (hb.mono hHeld.2.size))).at 0, (B5.on (hHeld.2.trans (hb.mono hHeld.2.size))).at 0⟩, hHeld.2.trans (hb.mono hHeld.2.size)⟩) (fun hHeld => ?_)
        clear hK K
        refine take_one 24 (by kernel_rfl) rfl (fun K hK => ?_)
        go_simp
        (refine (cfStore_same A22 a1 cap22 c1 _ vs22 vs _ hn1 hl22 rfl hi22 (small_of hl22 hi22 SM1.out) hR22.vg ((V1.on hHeld.2).up hHeld.2.size)).mono ?_; rintro e wb24 ⟨rfl, hb⟩)
        try go_wp2_with fail
        refine hK.out _ _ (by exact ⟨⟨(B3.on (hHeld.2.trans (hb.mono hHeld.2.size))).at 0, (B4.on (hHeld.2.trans (hb.mono hHeld.2.size))).at 0, (B5.on (hHeld.2.trans (hb.mono hHeld.2.size))).at 0⟩, hHeld.2.trans (hb.mono hHeld.2.size)⟩) (fun hHeld => ?_)
        clear hK K
        refine take_run 25 (some 63) (v := ?_) rfl rfl (by kernel_rfl) (by kernel_rfl) (by kernel_rfl) (fun _ _ _ h => h) (by rfl) ?_ hHeld ?_
        rotate_left
        · ((intro w hSw); (try dsimp only at hSw); go_simp <;> with_reducible rfl)
        simp only [Act.put, List.setIfInBounds_toArray, List.set_cons_zero, List.set_cons_succ]
        refine take_run 26 (some 2) (v := ?_) rfl rfl (by kernel_rfl) (by kernel_rfl) (by kernel_rfl) (fun _ _ _ h => h) (by rfl) ?_ hHeld ?_
        rotate_left
        · ((intro w hSw); (try dsimp only at hSw); go_simp <;> with_reducible rfl)
        simp only [Act.put, List.setIfInBounds_toArray, List.set_cons_zero, List.set_cons_succ]
        refine wpAnyH_done (by kernel_rfl) ?_ _
        refine NoPanic.normal ?_
        have L9 := L0.trans (hHeld.2.mono L0.size)
        clear hHeld
        go_wp2
        go_ret
        exact ⟨rfl, L9⟩

set_option maxRecDepth 100000 in
theorem lifted (os : Os) (started : os.Started) (H : Type) (enc : TypeId × Value → H) :
    ReturnsInHanded {} Try.checked os 4 .any (Rows.fnStoreJoinSpec.pre6 enc Try.prog Try.f4 Rows.fnStoreJoinRow.domain false) (Rows.fnStoreJoinSpec.post enc Try.prog Try.f4 false true false false) := by
  refine returnsInHanded_of_change (C := Try.checked) own started (by kernel_rfl) Try.func4
    (ChangeSpec.witness6 (enc := enc) (C := Try.checked) false ⟨#[], #[.slice none 0 0], []⟩ 8 (by kernel_rfl) (by kernel_rfl) (by kernel_rfl) (by kernel_rfl)) ?_
  intro W base args ds gs before hval0 hW hcnd _
  have hval : ∀ (j : Nat) t v, Try.f4.params[j]? = some t → args[j]? = some v → Value.okWide Try.prog W .any base t v := hval0
  have hW' := hW
  obtain ⟨p, q, hA0, hV, rfl, hfz, hnd⟩ := hW
  have hA : DataW.TrodAll enc Try.prog W 0 (fun _ => true) true Try.f4.params.toList args.toList ds p := hA0
  rw [Try.params4] at hA hval
  have hK := hA
  obtain ⟨v0, vs0, d0, ds0, p0, q0, hargs, rfl, rfl, h0, r0⟩ := trodAll_cons hA
  obtain ⟨rfl, rfl, rfl⟩ := trodAll_nil r0
  obtain rfl : args = #[v0] := by cases args; simp_all
  obtain ⟨rfl, rfl⟩ := trodVars_none hV
  obtain ⟨a0, len0, cap0, rfl, b0⟩ := read_bytes (hval 0 22 v0 rfl rfl) h0
  clear hA0 hval0
  refine (walk a0 len0 cap0 W b0).mono fun e W' ⟨he, hb⟩ => ?_
  subst he
  have hK' := stay_all hb (by intro t ht; simp only [List.mem_cons, List.not_mem_nil, or_false] at ht; rcases ht with rfl <;> exact ⟨by kernel_rfl, of_decide_eq_true (by kernel_rfl)⟩) hK
  exact ⟨_, rfl, _, _, _, [], _, [], hW', trodAll_mk1 (shut_bool Try.underlying4 _), hK', rfl, hb.frame _, fun h => by cases h⟩

theorem over : Rows.fnStoreJoinRow.holds Try.pinned (OpenSpec.ofChange Rows.fnStoreJoinSpec) :=
  OpenClaim.holds_of_wide 4 Try.f4 rfl rfl rfl rfl rfl rfl rfl ⟨rfl, rfl, rfl, rfl, rfl⟩ rfl rfl rfl rfl rfl (by kernel_rfl) Try.func4
    (by refine joined_of ?_; kernel_rfl) (of_decide_eq_true (by kernel_rfl)) (by unfold Func.isWrapper; first | (rw [if_pos (by decide +kernel)]; kernel_rfl) | (rw [if_neg (by decide +kernel)]; exact ⟨rfl, rfl⟩))
    (fun os started H enc _ => lifted os started H enc)
end Go.Proofs.Ytgofeljmpkhkbaa.FnStoreJoin
namespace Go.Proofs.Ytgofeljmpkhkbaa
/-- The statement itself. -/
theorem fnStoreJoin_holds : Rows.FnStoreJoinSaid := FnStoreJoin.over
#print axioms fnStoreJoin_holds
end Go.Proofs.Ytgofeljmpkhkbaa
namespace Go.Proofs.Ytgofeljmpkhkbaa.FnStoreJoin
end Go.Proofs.Ytgofeljmpkhkbaa.FnStoreJoin
