/- Contracts of StoreJoin, of program and model. Condition: as many versions and tags as a law lets by. -/
import Derived.Test.YtgofeljmpkhkbaaStoreJoin
namespace Go.Proofs.Ytgofeljmpkhkbaa
open Go.RowKit Go.Joins
attribute [local go_sem ↓] Go.wp_at_zero Go.wp_at_succ

theorem foldKeep_len (B0 B U G cx c : Nat) (a : Option Addr) (us bs : List V) (cur : Array Value) (w : World) (hR : ORow w B U G us cur) (hU : U ≤ w.heap.size) (h4 : us.length = 4) (hB0 : B0 ≤ B) (hB0w : B0 ≤ w.heap.size) (hs : storeB bs = true) (hv : Vg w B0 a bs) :
    Calls Try.prog 41 #[.slice a bs.length c, .slice (some ⟨G, 0, none⟩) 4 cx, .func (.func 26) #[] #[]] w (FoldL w B G (foldK us bs) (.slice (some ⟨G, 0, none⟩) 4 cx)) := by
  rw [storeB_four hs]
  exact foldKeep_any B0 B U G cx c a us bs cur w hR hU h4 hB0 hB0w hs hv
theorem like_foldK : ∀ (bs : List V) {us vs : List V}, us.length = vs.length → Like us vs → Like (foldK us bs) (foldK vs bs)
  | [], _, _, _, h => h
  | v :: r, us, vs, hl, h => like_foldK r (us := keepL us v) (vs := keepL vs v) (by rw [keepL_len, keepL_len, hl]) (like_keep hl h)

set_option maxRecDepth 100000 in
set_option maxHeartbeats 2000000 in
theorem implStoreJoin_any (a a2 : Option Addr) (c c2 : Nat) (vs bs : List V) (w : World) (hn : vs.length ≤ 1048576) (hm : Small vs) (hv : Vg w w.heap.size a vs) (hn2 : bs.length ≤ 1048576) (hm2 : Small bs) (hv2 : Vg w w.heap.size a2 bs) :
    Calls Try.prog 16 #[.agg #[.slice a vs.length c], .agg #[.slice a2 bs.length c2]] w (AnswerS w (joinR vs bs)) := by
  have S0 := (((Inv.start w).box 25 #[.slice a vs.length c]).box 25 #[.slice a2 bs.length c2]).box 25 #[.slice none 0 0]
  simp only [World.size_alloc] at S0
  have HMS := hide hm
  have HMB := hide hm2
  clear hm hm2
  cases ho : storeB vs
  · have HE : Hid (joinR vs bs = []) := by unfold Hid joinR; rw [ho]; rfl
    have HO := hide ho
    clear ho
    go_enter Try.func16, Try.ntmps16
    go_wp2_with fail
    generalize ((w.alloc (.cells #[.slice a vs.length c] 25)).alloc (.cells #[.slice a2 bs.length c2] 25)).alloc (.cells #[.slice none 0 0] 25) = W at S0 ⊢
    refine (implStoreOk_any a c vs W hn HMS.out ((hv.on S0.below).up S0.base)).mono ?_
    rintro e w1 ⟨rfl, hb1⟩
    rw [HO.out]
    have S1 := S0.on hb1
    have q1 := (S1.nth 0 rfl).one
    clear S0
    go_wp2
    refine bodyPost_ret (v := .agg #[.slice none 0 0]) (by simp [results, Try.results16, go_sem, q1]) rfl ?_
    exact answerS_nil HE.out (S1.below.setCell (by simp; omega) _)
  · have HO := hide ho
    have H4 := hide (storeB_four ho)
    clear ho
    cases hvv : storeB bs
    · have HE : Hid (joinR vs bs = []) := by unfold Hid joinR; rw [hvv]; simp
      have HV := hide hvv
      clear hvv
      go_enter Try.func16, Try.ntmps16
      go_wp2_with fail
      generalize ((w.alloc (.cells #[.slice a vs.length c] 25)).alloc (.cells #[.slice a2 bs.length c2] 25)).alloc (.cells #[.slice none 0 0] 25) = W at S0 ⊢
      refine (implStoreOk_any a c vs W hn HMS.out ((hv.on S0.below).up S0.base)).mono ?_
      rintro e w1 ⟨rfl, hb1⟩
      rw [HO.out]
      have S1 := S0.on hb1
      have k1 := (S1.nth 1 rfl).one.1
      clear S0
      go_wp2_with fail
      refine (implStoreOk_any a2 c2 bs w1 hn2 HMB.out ((hv2.on S1.below).up S1.base)).mono ?_
      rintro e w2 ⟨rfl, hb2⟩
      rw [HV.out]
      have S2 := S1.on hb2
      have q1 := (S2.nth 0 rfl).one
      clear S1 k1
      go_wp2
      refine bodyPost_ret (v := .agg #[.slice none 0 0]) (by simp [results, Try.results16, go_sem, q1]) rfl ?_
      exact answerS_nil HE.out (S2.below.setCell (by simp; omega) _)
    · have HE : Hid (joinR vs bs = foldK vs bs) := by unfold Hid joinR; rw [HO.out, hvv]; rfl
      have HV := hide hvv
      have HB4 := hide (storeB_four hvv)
      clear hvv
      go_enter Try.func16, Try.ntmps16
      go_wp2_with fail
      generalize ((w.alloc (.cells #[.slice a vs.length c] 25)).alloc (.cells #[.slice a2 bs.length c2] 25)).alloc (.cells #[.slice none 0 0] 25) = W at S0 ⊢
      refine (implStoreOk_any a c vs W hn HMS.out ((hv.on S0.below).up S0.base)).mono ?_
      rintro e w1 ⟨rfl, hb1⟩
      rw [HO.out]
      have S1 := S0.on hb1
      have k1 := (S1.nth 1 rfl).one.1
      clear S0
      go_wp2_with fail
      refine (implStoreOk_any a2 c2 bs w1 hn2 HMB.out ((hv2.on S1.below).up S1.base)).mono ?_
      rintro e w2 ⟨rfl, hb2⟩
      rw [HV.out]
      have S2 := S1.on hb2
      have zr := S2.room
      have zb := S2.base
      have S3 : Inv w (w.heap.size + 1 + 1) [(w.heap.size + 1, 25, #[.slice a2 bs.length c2]), (w.heap.size, 25, #[.slice a vs.length c])] w2 := ⟨S2.below, by omega, fun x hx => by
        simp only [List.mem_cons, List.not_mem_nil, or_false] at hx
        rcases hx with rfl | rfl
        · exact ⟨by simp, by simp, S2.nth 1 rfl⟩
        · exact ⟨Nat.le_refl _, by simp only; omega, S2.nth 2 rfl⟩⟩
      have B3 := S2.nth 0 rfl
      clear S1 k1
      go_wp2_with fail
      refine wp_region_noPanic ?_
      refine wp_region_held_drew (S := (fun w' => w'.cell? ⟨w.heap.size, 0, none⟩ = some (.slice a vs.length c) ∧ w'.cell? ⟨w.heap.size + 1, 0, none⟩ = some (.slice a2 bs.length c2) ∧ Inv w (w.heap.size + 1 + 1) [(w.heap.size + 1, 25, #[.slice a2 bs.length c2]), (w.heap.size, 25, #[.slice a vs.length c])] w' ∧ (∃ y, Blk w' (w.heap.size + 1 + 1) 25 #[y]) ∧ w2.heap.size ≤ w'.heap.size)) (by kernel_rfl) (by exact ⟨(S3.drew.nth 1 rfl).at 0, (S3.drew.nth 0 rfl).at 0, S3.drew, ⟨_, B3.drew⟩, Nat.le_refl _⟩) (fun hHeld => ?_)
      refine take_run 0 (some 14) (v := ?_) rfl rfl (by kernel_rfl) (by kernel_rfl) (by kernel_rfl) (fun _ _ _ h => h) (by rfl) ?_ hHeld ?_
      rotate_left
      · ((intro w hSw); (try dsimp only at hSw); go_simp <;> with_reducible rfl)
      simp only [Act.put, List.setIfInBounds_toArray, List.set_cons_zero, List.set_cons_succ]
      refine take_run 1 (some 15) (v := ?_) rfl rfl (by kernel_rfl) (by kernel_rfl) (by kernel_rfl) (fun _ _ _ h => h) (by rfl) ?_ hHeld ?_
      rotate_left
      · ((intro w hSw); (try dsimp only at hSw); go_simp <;> with_reducible rfl)
      simp only [Act.put, List.setIfInBounds_toArray, List.set_cons_zero, List.set_cons_succ]
      refine take_run 2 (some 16) (v := ?_) rfl rfl (by kernel_rfl) (by kernel_rfl) (by kernel_rfl) (fun _ _ _ h => h) (by rfl) ?_ hHeld ?_
      rotate_left
      · ((intro w hSw); (try dsimp only at hSw); go_simp <;> with_reducible rfl)
      simp only [Act.put, List.setIfInBounds_toArray, List.set_cons_zero, List.set_cons_succ]
      refine take_run 3 (some 17) (v := ?_) rfl rfl (by kernel_rfl) (by kernel_rfl) (by kernel_rfl) (fun _ _ _ h => h) (by rfl) ?_ hHeld ?_
      rotate_left
      · ((intro w hSw); (try dsimp only at hSw); go_simp <;> with_reducible rfl)
      simp only [Act.put, List.setIfInBounds_toArray, List.set_cons_zero, List.set_cons_succ]
      refine take_one 4 (by kernel_rfl) rfl (fun K hK => ?_)
      go_simp
      (have zh := hHeld.2.2.2.2; refine (copyVers_any a c vs _ hn (fun v hv => (HMS.out v hv).1) ((hv.on hHeld.2.2.1.below).up hHeld.2.2.1.base)).mono ?_; rintro e w4 ⟨x, us, rfl, hul, hli, hCR, hb⟩; have HL3 := hide hul; have HI3 := hide hli; obtain ⟨G, cap, cur, rfl, hO⟩ := res_four hCR.res (hul.trans H4.out); have HO3 := hide hO; have z4 : w2.heap.size ≤ w4.heap.size := (by have := hb.size; simp at this; omega))
      try go_wp2_with fail
      refine hK.out _ _ (by exact ⟨((hHeld.2.2.1.on hb).nth 1 rfl).at 0, ((hHeld.2.2.1.on hb).nth 0 rfl).at 0, hHeld.2.2.1.on hb, hHeld.2.2.2.1.elim (fun y h => ⟨y, h.on hb⟩), Nat.le_trans hHeld.2.2.2.2 hb.size⟩) (fun hHeld => ?_)
      clear hK K
      refine take_one 5 (by kernel_rfl) rfl (fun K hK => ?_)
      go_simp
      ((with_reducible refine (foldKeep_len w.heap.size _ _ G cap c2 a2 us bs cur w4 HO3.out (Nat.le_refl _) (HL3.out.trans H4.out) ?_ ?_ HV.out (hv2.on hHeld.2.2.1.below)).mono ?_); (show w.heap.size ≤ w2.heap.size; omega); (omega); rintro e w5 ⟨us', cur', rfl, hl', hli', hO', hT⟩; have HL4 := hide hl'; have HI4 := hide hli'; have HO4 := hide hO'; have I5 := hHeld.2.2.1.turned hT (fun g e => by have := HO3.out.lo; have e' : g = G := e; simp at this; omega) (fun x hx e => by have e' : x.1 = G := e; have := HO3.out.lo; simp only [List.mem_cons, List.not_mem_nil, or_false] at hx; simp at this; rcases hx with rfl | rfl <;> simp only at e' <;> omega); obtain ⟨y5, hy5⟩ := hHeld.2.2.2.1; have B5 := hy5.turned hT (fun e => by have e' : w.heap.size + 1 + 1 = G := e; have := HO3.out.lo; simp at this; omega); have HB9 := hide B5; have q5 := B5.one)
      try go_wp2_with fail
      refine hK.out _ _ (by exact ⟨((I5).nth 1 rfl).at 0, ((I5).nth 0 rfl).at 0, I5, ⟨y5, B5⟩, Nat.le_trans hHeld.2.2.2.2 hT.size⟩) (fun hHeld => ?_)
      clear hK K
      refine take_run 6 (some 20) (v := ?_) rfl rfl (by kernel_rfl) (by kernel_rfl) (by kernel_rfl) (fun _ _ _ h => h) (by rfl) ?_ hHeld ?_
      rotate_left
      · ((intro w hSw); (try dsimp only at hSw); go_simp <;> with_reducible rfl)
      simp only [Act.put, List.setIfInBounds_toArray, List.set_cons_zero, List.set_cons_succ]
      refine take_one 7 (by kernel_rfl) rfl (fun K hK => ?_)
      go_simp
      refine hK.out _ _ (by exact ⟨((I5.set (p := ⟨w.heap.size + 1 + 1, 0, none⟩) (by simp) (by simp; omega) _).nth 1 rfl).at 0, ((I5.set (p := ⟨w.heap.size + 1 + 1, 0, none⟩) (by simp) (by simp; omega) _).nth 0 rfl).at 0, I5.set (p := ⟨w.heap.size + 1 + 1, 0, none⟩) (by simp) (by simp; omega) _, ⟨_, B5.put 0 _⟩, by simpa [World.setCell] using hHeld.2.2.2.2⟩) (fun hHeld => ?_)
      clear hK K
      refine wpAnyH_done (by kernel_rfl) ?_ _
      refine NoPanic.normal ?_
      obtain ⟨-, -, I9, -, z9⟩ := hHeld
      have B9 := HB9.out.put 0 (.slice (some ⟨G, 0, none⟩) 4 cap)
      simp only [List.setIfInBounds_toArray, List.set_cons_zero] at B9
      have q9 := B9.one
      have hGW : G ≠ w.heap.size + 1 + 1 := by have := HO3.out.lo; omega
      have HO9 := hide (HO4.out.aside (p := ⟨w.heap.size + 1 + 1, 0, none⟩) HB9.out store_ne_tag hGW (.slice (some ⟨G, 0, none⟩) 4 cap))
      clear S2 S3 B3
      go_wp2
      refine bodyPost_ret (v := .agg #[.slice (some ⟨G, 0, none⟩) 4 cap]) (by simp [results, Try.results16, go_sem, q9]) rfl ?_
      refine ⟨_, us', rfl, by rw [HE.out, HL4.out, foldK_len, HL3.out, foldK_len], by rw [HE.out]; exact like_trans HL4.out HI4.out (like_foldK bs HL3.out HI3.out), .inr ⟨G, cap, cur', by rw [HL4.out, foldK_len, HL3.out, H4.out], ?_⟩, ?_⟩
      · exact (HO9.out.low (by show w.heap.size ≤ w2.heap.size; omega)).wide (by simp [World.setCell])
      · exact I9.below

set_option maxRecDepth 100000 in
set_option maxHeartbeats 2000000 in
theorem specStoreJoin_any (a a2 : Option Addr) (c c2 : Nat) (vs bs : List V) (w : World) (hn : vs.length ≤ 1048576) (hm : Small vs) (hv : Vg w w.heap.size a vs) (hn2 : bs.length ≤ 1048576) (hm2 : Small bs) (hv2 : Vg w w.heap.size a2 bs) :
    Calls Try.prog 17 #[.agg #[.slice a vs.length c], .agg #[.slice a2 bs.length c2]] w (AnswerS w (joinR vs bs)) := by
  have S0 := (((Inv.start w).box 25 #[.slice a vs.length c]).box 25 #[.slice a2 bs.length c2]).box 25 #[.slice none 0 0]
  simp only [World.size_alloc] at S0
  have HMS := hide hm
  have HMB := hide hm2
  clear hm hm2
  cases ho : storeB vs
  · have HE : Hid (joinR vs bs = []) := by unfold Hid joinR; rw [ho]; rfl
    have HO := hide ho
    clear ho
    go_enter Try.func17, Try.ntmps17
    go_wp2_with fail
    generalize ((w.alloc (.cells #[.slice a vs.length c] 25)).alloc (.cells #[.slice a2 bs.length c2] 25)).alloc (.cells #[.slice none 0 0] 25) = W at S0 ⊢
    refine (l2StoreOk_any a c vs W hn HMS.out ((hv.on S0.below).up S0.base)).mono ?_
    rintro e w1 ⟨rfl, hb1⟩
    rw [HO.out]
    have S1 := S0.on hb1
    have q1 := (S1.nth 0 rfl).one
    clear S0
    go_wp2
    refine bodyPost_ret (v := .agg #[.slice none 0 0]) (by simp [results, Try.results17, go_sem, q1]) rfl ?_
    exact answerS_nil HE.out (S1.below.setCell (by simp; omega) _)
  · have HO := hide ho
    have H4 := hide (storeB_four ho)
    clear ho
    cases hvv : storeB bs
    · have HE : Hid (joinR vs bs = []) := by unfold Hid joinR; rw [hvv]; simp
      have HV := hide hvv
      clear hvv
      go_enter Try.func17, Try.ntmps17
      go_wp2_with fail
      generalize ((w.alloc (.cells #[.slice a vs.length c] 25)).alloc (.cells #[.slice a2 bs.length c2] 25)).alloc (.cells #[.slice none 0 0] 25) = W at S0 ⊢
      refine (l2StoreOk_any a c vs W hn HMS.out ((hv.on S0.below).up S0.base)).mono ?_
      rintro e w1 ⟨rfl, hb1⟩
      rw [HO.out]
      have S1 := S0.on hb1
      have k1 := (S1.nth 1 rfl).one.1
      clear S0
      go_wp2_with fail
      refine (l2StoreOk_any a2 c2 bs w1 hn2 HMB.out ((hv2.on S1.below).up S1.base)).mono ?_
      rintro e w2 ⟨rfl, hb2⟩
      rw [HV.out]
      have S2 := S1.on hb2
      have q1 := (S2.nth 0 rfl).one
      clear S1 k1
      go_wp2
      refine bodyPost_ret (v := .agg #[.slice none 0 0]) (by simp [results, Try.results17, go_sem, q1]) rfl ?_
      exact answerS_nil HE.out (S2.below.setCell (by simp; omega) _)
    · have HE : Hid (joinR vs bs = foldK vs bs) := by unfold Hid joinR; rw [HO.out, hvv]; rfl
      have HV := hide hvv
      have HB4 := hide (storeB_four hvv)
      clear hvv
      go_enter Try.func17, Try.ntmps17
      go_wp2_with fail
      generalize ((w.alloc (.cells #[.slice a vs.length c] 25)).alloc (.cells #[.slice a2 bs.length c2] 25)).alloc (.cells #[.slice none 0 0] 25) = W at S0 ⊢
      refine (l2StoreOk_any a c vs W hn HMS.out ((hv.on S0.below).up S0.base)).mono ?_
      rintro e w1 ⟨rfl, hb1⟩
      rw [HO.out]
      have S1 := S0.on hb1
      have k1 := (S1.nth 1 rfl).one.1
      clear S0
      go_wp2_with fail
      refine (l2StoreOk_any a2 c2 bs w1 hn2 HMB.out ((hv2.on S1.below).up S1.base)).mono ?_
      rintro e w2 ⟨rfl, hb2⟩
      rw [HV.out]
      have S2 := S1.on hb2
      have zr := S2.room
      have zb := S2.base
      clear S1 k1
      have q2 := (S2.nth 2 rfl).one.1
      go_wp2_with fail
      refine (l2CopyStore_any a c vs w2 hn (fun v hv => (HMS.out v hv).1) ((hv.on S2.below).up S2.base)).mono ?_
      rintro e w3 ⟨x, us, rfl, hul, hli, hCR, hb3⟩
      have HL3 := hide hul
      have HI3 := hide hli
      obtain ⟨G, cap, cur, rfl, hO⟩ := res_four hCR.res (hul.trans H4.out)
      have z3 := hb3.size
      have glo := hO.lo
      have ghi := hO.hi
      have S3 := ((S2.on hb3).top).box 25 #[.slice (some ⟨G, 0, none⟩) 4 cap]
      have HO3 := hide ((hO.on (below_alloc1 w3 (.cells #[.slice (some ⟨G, 0, none⟩) 4 cap] 25))).wide (show w3.heap.size ≤ (w3.alloc (.cells #[.slice (some ⟨G, 0, none⟩) 4 cap] 25)).heap.size by simp))
      have HTL : Hid (foldK vs (bs.take 4) = foldK vs bs) := by unfold Hid; rw [List.take_of_length_le (Nat.le_of_eq HB4.out)]
      have HU4 : Hid (us.length = 4) := hul.trans H4.out
      clear S2 q2 hb3 hul hli hCR hO
      go_wp2
      have HS3 := hide S3
      clear S3
      go_loopw [6] (fun i wr => ∃ (k : Nat) (us' : List V) (cur' : Array Value), k ≤ 4 ∧ i = .int .i64 (k : Int) ∧ Hid (us'.length = 4) ∧ Hid (Like us' (foldK vs (bs.take k))) ∧ Hid (ORow wr w2.heap.size wr.heap.size G us' cur') ∧ Inv w (w3.heap.size + 1) [(w3.heap.size, 25, #[.slice (some ⟨G, 0, none⟩) 4 cap]), (w.heap.size + 1 + 1, 25, #[.slice none 0 0]), (w.heap.size + 1, 25, #[.slice a2 bs.length c2]), (w.heap.size, 25, #[.slice a vs.length c])] wr) (fun i _ => 4 - (intOf i).toNat)
      case atStart => exact ⟨0, us, cur, Nat.zero_le _, rfl, HU4.out, HI3.out, HO3.out, by simpa using HS3.out⟩
      case round =>
      obtain ⟨k, us', cur', hk, rfl, HL', HI', HO', hI⟩ := hrel
      clear HS3 HO3
      by_cases hlt : k < 4
      · have hbl := hI.below
        have hz := hI.base
        have hrm := hI.room
        rcases hv2 with h0 | ⟨b, off, rfl, hb, hx⟩
        · have := HB4.out; subst h0; simp at this
        · have hkl : k < bs.length := by have := HB4.out; omega
          obtain ⟨hS, hT⟩ := hx k _ (List.getElem?_eq_getElem hkl)
          have HX := hide (List.getElem?_eq_getElem hkl)
          generalize bs[k] = v at hS hT HX
          have HSL := hide (store_slot HV.out HX.out)
          obtain ⟨k0, k3⟩ := slot_key HSL.out hlt
          obtain ⟨kn, hkn⟩ := Int.eq_ofNat_of_zero_le k0
          have hkn4 : kn < 4 := by omega
          have HKN := hide hkn
          have HF := hide ((few_store HV.out).2 v (List.mem_of_getElem? HX.out))
          have HSX := hide hS
          have hS' := hS.keep hb fun _ hp => hbl.cell hp
          have HT := hide hT
          have i1 : (0 : Int) ≤ (k : Int) := by omega
          have i2 : (k : Int) < 4 := by omega
          have i3 : (k : Int) < (bs.length : Int) := by omega
          have hbw : b < wr.heap.size := by omega
          have q3 := (hI.nth 2 rfl).one.1
          clear hS hT hx hkn k0 k3
          by_cases ht : 0 < v.t
          · go_wp2_with fail
            clear q3 hS'
            refine wp_region_noPanic ?_
            refine wp_region_held_drew (S := (fun w' => w'.cell? ⟨w3.heap.size, 0, none⟩ = some (.slice (some ⟨G, 0, none⟩) 4 cap) ∧ w'.cell? ⟨w.heap.size + 1, 0, none⟩ = some (.slice (some ⟨b, off, none⟩) bs.length c2) ∧ Six w' b (off + k * 6) v ∧ Inv w (w3.heap.size + 1) [(w3.heap.size, 25, #[.slice (some ⟨G, 0, none⟩) 4 cap]), (w.heap.size + 1 + 1, 25, #[.slice none 0 0]), (w.heap.size + 1, 25, #[.slice (some ⟨b, off, none⟩) bs.length c2]), (w.heap.size, 25, #[.slice a vs.length c])] w')) (by kernel_rfl) (by exact ⟨(hI.drew.nth 0 rfl).at 0, (hI.drew.nth 2 rfl).at 0, HSX.out.keep hb fun _ hp => hI.drew.below.cell hp, hI.drew⟩) (fun hHeld => ?_)
            refine take_run 0 (some 30) (v := ?_) rfl rfl (by kernel_rfl) (by kernel_rfl) (by kernel_rfl) (fun _ _ _ h => h) (by rfl) ?_ hHeld ?_
            rotate_left
            · ((intro w hSw); (try dsimp only at hSw); go_simp <;> with_reducible rfl)
            simp only [Act.put, List.setIfInBounds_toArray, List.set_cons_zero, List.set_cons_succ]
            refine take_run 1 (some 31) (v := ?_) rfl rfl (by kernel_rfl) (by kernel_rfl) (by kernel_rfl) (fun _ _ _ h => h) (by rfl) ?_ hHeld ?_
            rotate_left
            · ((intro w hSw); (try dsimp only at hSw); go_simp <;> with_reducible rfl)
            simp only [Act.put, List.setIfInBounds_toArray, List.set_cons_zero, List.set_cons_succ]
            refine take_run 2 (some 32) (v := ?_) rfl rfl (by kernel_rfl) (by kernel_rfl) (by kernel_rfl) (fun _ _ _ h => h) (by rfl) ?_ hHeld ?_
            rotate_left
            · ((intro w hSw); (try dsimp only at hSw); go_simp <;> with_reducible rfl)
            simp only [Act.put, List.setIfInBounds_toArray, List.set_cons_zero, List.set_cons_succ]
            refine take_run 3 (some 33) (v := ?_) rfl rfl (by kernel_rfl) (by kernel_rfl) (by kernel_rfl) (fun _ _ _ h => h) (by rfl) ?_ hHeld ?_
            rotate_left
            · ((intro w hSw); (try dsimp only at hSw); go_simp <;> with_reducible rfl)
            simp only [Act.put, List.setIfInBounds_toArray, List.set_cons_zero, List.set_cons_succ]
            refine take_run 4 (some 34) (v := ?_) rfl rfl (by kernel_rfl) (by kernel_rfl) (by kernel_rfl) (fun _ _ _ h => h) (by rfl) ?_ hHeld ?_
            rotate_left
            · ((intro w hSw); (try dsimp only at hSw); go_simp <;> with_reducible rfl)
            simp only [Act.put, List.setIfInBounds_toArray, List.set_cons_zero, List.set_cons_succ]
            refine take_run 5 (some 35) (v := ?_) rfl rfl (by kernel_rfl) (by kernel_rfl) (by kernel_rfl) (fun _ _ _ h => h) (by rfl) ?_ hHeld ?_
            rotate_left
            · ((intro w hSw); (try dsimp only at hSw); go_simp <;> with_reducible rfl)
            simp only [Act.put, List.setIfInBounds_toArray, List.set_cons_zero, List.set_cons_succ]
            refine take_one 6 (by kernel_rfl) rfl (fun K hK => ?_)
            go_simp
            ((with_reducible refine (l2Add_any w2.heap.size wr.heap.size G cap us' cur' v kn _ (HO'.out.on (Below.refl _ _).drew) (Nat.le_refl _) HL'.out HKN.out hkn4 ?_ ?_).mono ?_); (have := HF.out; omega); (exact (HT.out.on hI.drew.below).up hI.drew.base); rintro e w5 ⟨us2, cur2, rfl, hl2, hli2, hO2, hT2⟩; have I5 := hHeld.2.2.2.turned hT2 (fun g e => by have e' : g = G := e; omega) (fun x hx e => by have e' : x.1 = G := e; simp only [List.mem_cons, List.not_mem_nil, or_false] at hx; rcases hx with rfl | rfl | rfl | rfl <;> simp only at e' <;> omega); have k5 := (I5.nth 0 rfl).one; have I6 := I5.put0 (i := 0) (by intro x hx; simp only [List.mem_cons, List.not_mem_nil, or_false] at hx; rcases hx with rfl | rfl | rfl <;> simp only <;> omega) (.slice (some ⟨G, 0, none⟩) 4 cap); simp only [List.setIfInBounds_toArray, List.set_cons_zero] at I6)
            try go_wp2_with fail
            refine hK.out _ _ (by exact ⟨(I5.nth 0 rfl).at 0, (I5.nth 2 rfl).at 0, HSX.out.keep hb fun _ hp => I5.below.cell hp, I5⟩) (fun hHeld => ?_)
            clear hK K
            refine take_one 7 (by kernel_rfl) rfl (fun K hK => ?_)
            go_simp
            refine hK.out _ _ (by exact ⟨(I6.nth 0 rfl).at 0, (I6.nth 2 rfl).at 0, HSX.out.keep hb fun _ hp => I6.below.cell hp, I6⟩) (fun hHeld => ?_)
            clear hK K
            refine wpAnyH_done (by kernel_rfl) ?_ _
            refine NoPanic.normal ?_
            have hO6 := (hO2.aside (p := ⟨w3.heap.size, 0, none⟩) (I5.nth 0 rfl) store_ne_tag (by show G ≠ w3.heap.size; omega) (.slice (some ⟨G, 0, none⟩) 4 cap)).wide (show w5.heap.size ≤ (w5.setCell ⟨w3.heap.size, 0, none⟩ (.slice (some ⟨G, 0, none⟩) 4 cap)).heap.size by simp [World.setCell])
            have H2 : Hid (us2.length = 4) := hl2.trans HL'.out
            have H3 : Hid (Like us2 (foldK vs (bs.take (k + 1)))) := by
              unfold Hid
              rw [foldK_step HX.out]
              exact like_trans (by rw [hl2, keepL_len]) hli2 (like_keep (by rw [HL'.out, foldK_len, H4.out]) HI'.out)
            have HO6 := hide hO6
            clear hHeld hl2 hli2 hO2 hT2 I5 k5 hO6 hI
            go_wp2
            exact ⟨⟨k + 1, us2, cur2, by omega, by go_num, H2, H3, HO6, I6⟩, by simp [intOf]; omega⟩
          · have H3 : Hid (Like us' (foldK vs (bs.take (k + 1)))) := by
              unfold Hid
              obtain ⟨_, e1, e2⟩ := slot_late HSL.out ht
              rw [foldK_step HX.out, keep_none (late_fold HO.out HV.out k) e1 e2]
              exact HI'.out
            go_wp2
            exact ⟨⟨k + 1, us', cur', by omega, by go_num, HL', H3, HO', hI⟩, by simp [intOf]; omega⟩
      · have hkn : k = 4 := by omega
        subst hkn
        clear hlt
        have q5 := (hI.nth 0 rfl).one
        have q1 := (hI.nth 1 rfl).one
        have B1 := hI.nth 1 rfl
        have hL := hI.below
        go_wp2
        refine bodyPost_ret (v := .agg #[.slice (some ⟨G, 0, none⟩) 4 cap]) (by simp [results, Try.results17, go_sem, q1]) rfl ?_
        have hO9 := ((HO'.out.aside (p := ⟨w.heap.size + 1 + 1, 0, none⟩) B1 store_ne_tag (by show G ≠ w.heap.size + 1 + 1; omega) (.slice (some ⟨G, 0, none⟩) 4 cap)).low (show w.heap.size ≤ w2.heap.size by omega)).wide (show wr.heap.size ≤ (wr.setCell ⟨w.heap.size + 1 + 1, 0, none⟩ (.slice (some ⟨G, 0, none⟩) 4 cap)).heap.size by simp [World.setCell])
        have hli := HI'.out
        rw [HTL.out] at hli
        exact ⟨_, us', rfl, by rw [HE.out, HL'.out, foldK_len, H4.out], by rw [HE.out]; exact hli, .inr ⟨G, cap, cur', by rw [HL'.out], hO9⟩, hL.setCell (by simp; omega) _⟩
end Go.Proofs.Ytgofeljmpkhkbaa
