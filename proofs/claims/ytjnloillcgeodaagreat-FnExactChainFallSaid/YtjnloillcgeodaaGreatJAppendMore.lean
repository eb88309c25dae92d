/- Contract of a copy of a chain, in the model. Condition: sizes that memory holds. -/
import Derived.Test.YtjnloillcgeodaaGreatJChainClone
import Derived.Test.YtjnloillcgeodaaGreatJChainSpec3
import Derived.Test.YtjnloillcgeodaaGreatJChainCopy
import Derived.Test.YtjnloillcgeodaaGreatJNodeMark
namespace Go.Proofs.YtjnloillcgeodaaGreat
open Go.RowKit Go.Joins
attribute [local go_sem ↓] Go.wp_at_zero Go.wp_at_succ

set_option maxRecDepth 100000 in
set_option maxHeartbeats 8000000 in
theorem l3Copy_any (A : Option Addr) (c : Nat) (ns : List Nd) (w : World) (hn : ns.length ≤ 1048576) (hm : SmN ns) (hC : CgA w A ns) :
    Calls Tryz.prog 38 #[.agg #[.slice A ns.length c]] w (ClonedC w ns) := by
  obtain ⟨i0, hi0, hz0, hz1, hz2⟩ := info_parts node_info
  have I0 := hide hi0
  have I1 := hide hz0
  have I2 := hide hz1
  have I3 := hide hz2
  clear hi0 hz0 hz1 hz2
  obtain ⟨j0, hj0, hy0, hy1, hy2⟩ := info_parts ver_info
  have J0 := hide hj0
  have J1 := hide hy0
  have J2 := hide hy1
  have J3 := hide hy2
  clear hj0 hy0 hy1 hy2
  have HM := hide hm
  have HC := hide hC
  clear hm hC
  generalize hnn : ns.length = n at *
  have HN := hide hnn
  clear hnn
  have S0 := ((Inv.start w).box 25 #[.slice A n c]).box 25 #[.slice none 0 0]
  have V0 := Blk.made ((w.alloc (.cells #[.slice A n c] 25)).alloc (.cells #[.slice none 0 0] 25)) 25 #[.slice none 0 0]
  have S1 := S0.alloc (.cells #[.slice none 0 0] 25)
  simp only [World.size_alloc] at S1 V0
  have HC0 := hide (GRow.start (w.heap.size + 1 + 1 + 1) (((w.alloc (.cells #[.slice A n c] 25)).alloc (.cells #[.slice none 0 0] 25)).alloc (.cells #[.slice none 0 0] 25)) (by simp))
  clear S0
  go_enter Tryz.func38, Tryz.ntmps38
  go_wp2
  go_loopw [4] (fun i wr => ∃ (k : Nat) (x : Value) (us : List Nd), k ≤ n ∧ i = .int .i64 (k : Int) ∧ Blk wr (w.heap.size + 1 + 1) 25 #[x] ∧ Hid (us.length = k) ∧ Hid (∀ (i : Nat) v v', us[i]? = some v → ns[i]? = some v' → Nd.like v v') ∧ Hid (GRow (w.heap.size + 1 + 1 + 1) wr x us) ∧ Inv w (w.heap.size + 1 + 1) [(w.heap.size + 1, 25, #[.slice none 0 0]), (w.heap.size, 25, #[.slice A n c])] wr) (fun i _ => n - (intOf i).toNat)
  case atStart => exact ⟨0, _, [], Nat.zero_le _, rfl, V0, rfl, fun i v v' hi => by simp at hi, HC0.out, S1⟩
  case round =>
    rename World => wo
    obtain ⟨k, x, us, hk, rfl, hV, HU, HL, HG, hI⟩ := hrel
    clear S1 V0 HC0
    have c0 := (hI.nth 1 rfl).one.1
    by_cases hlt : k < n
    · rcases HC.out with h0 | ⟨G, cur, rfl, hCG⟩
      · have := HN.out; rw [h0] at this; simp at this; omega
      have hkl : k < ns.length := by have := HN.out; omega
      have HX := hide (List.getElem?_eq_getElem hkl)
      generalize ns[k] = nd at HX
      have HMM := hide (HM.out k nd HX.out)
      have HCr := hCG.on hI.below
      have n0 : wo.cell? ⟨G, k * 2, none⟩ = some (.slice nd.sa nd.ss.length nd.sc) := (HCr.blk.at _).trans (HCr.at' k nd HX.out).1
      have HN1 := hide (show ∀ W, Below wo.heap.size wo W → W.cell? ⟨G, k * 2 + 1, none⟩ = some (.slice nd.wa nd.ws.length nd.wc) from fun W hW => ((HCr.on hW).blk.at _).trans (HCr.at' k nd HX.out).2)
      have HVG := hide (HCr.store k nd HX.out)
      have HWG := hide (HCr.wait k nd HX.out)
      have i1 : (0 : Int) ≤ (k : Int) := by omega
      have i2 : (k : Int) < (n : Int) := by omega
      obtain ⟨xa, xc, rfl⟩ := HG.out.form
      obtain ⟨sa, sc, ss, wa, wc, ws⟩ := nd
      simp only at n0 HN1 HVG HWG HMM
      have CT := hide (l2CopyStore_any sa sc ss wo HMM.out.1.1 (fun v hv => (HMM.out.2.1 v hv).1) HVG.out)
      have HI := hide hI
      have HVB := hide hV
      have hgl := hCG.blk.inside
      clear HCr hCG hI hV
      go_wp2_with fail
      with_reducible refine CT.out.mono ?_
      rintro e w1 ⟨x1, us1, rfl, hul, hli, hcr, hb1⟩
      obtain ⟨A1, cap1, rfl, hR1⟩ := hcr.resS
      have HL1 : Hid (LL us1 ss) := ⟨hul, hli⟩
      have HR1 := hide hR1
      have z1 := hb1.size
      have HB1 := hide hb1
      have zr := HI.out.room
      have zb := HI.out.base
      clear hR1 hcr hul hli CT n0 c0 hb1
      have N0 := Blk.made w1 37 #[.slice A1 us1.length cap1, .slice none 0 0]
      have BA := hide (below_alloc1 w1 (.cells #[.slice A1 us1.length cap1, .slice none 0 0] 37))
      have HC1 := hide (CRow.start (w1.heap.size + 1) (w1.alloc (.cells #[.slice A1 us1.length cap1, .slice none 0 0] 37)) (by simp))
      have HVS : Hid (∀ v ∈ ws, v.ts.length ≤ 1048576) := fun v hv => (HMM.out.2.2 v hv).1
      have hws := HMM.out.1.2
      have HC0 : Hid (∀ W, Below w1.heap.size w1 W → W.cell? ⟨w.heap.size, 0, none⟩ = some (.slice (some ⟨G, 0, none⟩) n c)) := fun W hW => ((((HI.out.on HB1.out).nth 1 rfl).on hW).one.1)
      have HN2 : Hid (∀ W, Below w1.heap.size w1 W → W.cell? ⟨G, k * 2 + 1, none⟩ = some (.slice wa ws.length wc)) := fun W hW => HN1.out W (HB1.out.trans (hW.mono z1))
      generalize hnw : ws.length = nw at *
      have HNW := hide hnw
      clear hnw
      go_wp2
      go_loopw [6] (fun i wi => ∃ (q : Nat) (y : Value) (vs : List V), q ≤ nw ∧ i = .int .i64 (q : Int) ∧ Blk wi w1.heap.size 37 #[.slice A1 us1.length cap1, y] ∧ Hid (vs.length = q) ∧ Hid (Like vs ws) ∧ Hid (CRow (w1.heap.size + 1) wi y vs) ∧ Below w1.heap.size w1 wi) (fun i _ => nw - (intOf i).toNat)
      case atStart => exact ⟨0, _, [], Nat.zero_le _, rfl, N0, rfl, fun i v v' hi => by simp at hi, HC1.out, BA.out⟩
      case round =>
        obtain ⟨q, y, vs, hq, rfl, hN, HV', HLv, HCv, hBw⟩ := hrel
        clear N0 HC1
        have c1 := HC0.out _ hBw
        have n1 := HN2.out _ hBw
        by_cases hltq : q < nw
        · rcases HWG.out with h0 | ⟨b, off, rfl, hb, hx⟩
          · have := HNW.out; subst h0; simp at this; omega
          have hql : q < ws.length := by have := HNW.out; omega
          obtain ⟨hS, hT⟩ := hx q _ (List.getElem?_eq_getElem hql)
          have HY := hide (List.getElem?_eq_getElem hql)
          generalize ws[q] = v at hS hT HY
          have HBv := hide (HVS.out v (List.mem_of_getElem? HY.out))
          have HBO : Hid (∀ W, Below w1.heap.size w1 W → Below wo.heap.size wo W) := fun W hW => HB1.out.trans (hW.mono z1)
          have Q := hide (show ∀ W, Below w1.heap.size w1 W → Six W b (off + q * 6) v from fun W hW => hS.keep hb fun _ hp => (HBO.out W hW).cell hp)
          have HT := hide (show ∀ W, Below w1.heap.size w1 W → Tg W W.heap.size v.a v.ts from fun W hW => (hT.on (HBO.out W hW)).up (HBO.out W hW).size)
          have jh : ∀ {W : World}, Below w1.heap.size w1 W → W.cell? ⟨w.heap.size, 0, none⟩ = some (.slice (some ⟨G, 0, none⟩) n c) ∧ W.cell? ⟨G, k * 2 + 1, none⟩ = some (.slice (some ⟨b, off, none⟩) nw wc) ∧ Six W b (off + q * 6) v ∧ Below w1.heap.size w1 W := fun hW => ⟨HC0.out _ hW, HN2.out _ hW, Q.out _ hW, hW⟩
          have i3 : (0 : Int) ≤ (q : Int) := by omega
          have i4 : (q : Int) < (nw : Int) := by omega
          obtain ⟨ya, yn, yc, rfl⟩ := HCv.out.form
          have HVT := hide (HCv.out.typed)
          have hlo := HCv.out.lo
          have hN2' : Hid (Blk wr w1.heap.size 37 #[.slice A1 us1.length cap1, .slice ya yn yc]) := hN
          have V1 := hN.drew
          have q1 : wr.drew.cell? ⟨w1.heap.size, 1, none⟩ = some (.slice ya yn yc) := V1.at 1
          have C1 := hide (HCv.out.on (Below.refl _ _).drew)
          have zq := hBw.size
          clear hS hT hx
          go_wp2_with fail
          clear c1 n1
          refine wp_region_noPanic ?_
          refine wp_region_held_drew (S := (fun w' => w'.cell? ⟨w.heap.size, 0, none⟩ = some (.slice (some ⟨G, 0, none⟩) n c) ∧ w'.cell? ⟨G, k * 2 + 1, none⟩ = some (.slice (some ⟨b, off, none⟩) nw wc) ∧ Six w' b (off + q * 6) v ∧ Below w1.heap.size w1 w')) (by kernel_rfl) (by exact jh hBw.drew) (fun hHeld => ?_)
          refine take_run 0 (some 34) (v := ?_) rfl rfl (by kernel_rfl) (by kernel_rfl) (by kernel_rfl) (fun _ _ _ h => h) (by rfl) ?_ hHeld ?_
          rotate_left
          · ((intro w hSw); (try dsimp only at hSw); go_simp <;> with_reducible rfl)
          simp only [Act.put, List.setIfInBounds_toArray, List.set_cons_zero, List.set_cons_succ]
          refine take_run 2 (some 36) (v := ?_) rfl rfl (by kernel_rfl) (by kernel_rfl) (by kernel_rfl) (fun _ _ _ h => h) (by rfl) ?_ hHeld ?_
          rotate_left
          · ((intro w hSw); (try dsimp only at hSw); go_simp <;> with_reducible rfl)
          simp only [Act.put, List.setIfInBounds_toArray, List.set_cons_zero, List.set_cons_succ]
          refine take_run 3 (some 37) (v := ?_) rfl rfl (by kernel_rfl) (by kernel_rfl) (by kernel_rfl) (fun _ _ _ h => h) (by rfl) ?_ hHeld ?_
          rotate_left
          · ((intro w hSw); (try dsimp only at hSw); go_simp <;> with_reducible rfl)
          simp only [Act.put, List.setIfInBounds_toArray, List.set_cons_zero, List.set_cons_succ]
          refine take_run 4 (some 38) (v := ?_) rfl rfl (by kernel_rfl) (by kernel_rfl) (by kernel_rfl) (fun _ _ _ h => h) (by rfl) ?_ hHeld ?_
          rotate_left
          · ((intro w hSw); (try dsimp only at hSw); go_simp <;> with_reducible rfl)
          simp only [Act.put, List.setIfInBounds_toArray, List.set_cons_zero, List.set_cons_succ]
          refine take_run 5 (some 39) (v := ?_) rfl rfl (by kernel_rfl) (by kernel_rfl) (by kernel_rfl) (fun _ _ _ h => h) (by rfl) ?_ hHeld ?_
          rotate_left
          · ((intro w hSw); (try dsimp only at hSw); go_simp <;> with_reducible rfl)
          simp only [Act.put, List.setIfInBounds_toArray, List.set_cons_zero, List.set_cons_succ]
          refine take_run 6 (some 40) (v := ?_) rfl rfl (by kernel_rfl) (by kernel_rfl) (by kernel_rfl) (fun _ _ _ h => h) (by rfl) ?_ hHeld ?_
          rotate_left
          · ((intro w hSw); (try dsimp only at hSw); go_simp <;> with_reducible rfl)
          simp only [Act.put, List.setIfInBounds_toArray, List.set_cons_zero, List.set_cons_succ]
          refine take_run 7 (some 41) (v := ?_) rfl rfl (by kernel_rfl) (by kernel_rfl) (by kernel_rfl) (fun _ _ _ h => h) (by rfl) ?_ hHeld ?_
          rotate_left
          · ((intro w hSw); (try dsimp only at hSw); go_simp <;> with_reducible rfl)
          simp only [Act.put, List.setIfInBounds_toArray, List.set_cons_zero, List.set_cons_succ]
          refine take_run 8 (some 42) (v := ?_) rfl rfl (by kernel_rfl) (by kernel_rfl) (by kernel_rfl) (fun _ _ _ h => h) (by rfl) ?_ hHeld ?_
          rotate_left
          · ((intro w hSw); (try dsimp only at hSw); go_simp <;> with_reducible rfl)
          simp only [Act.put, List.setIfInBounds_toArray, List.set_cons_zero, List.set_cons_succ]
          refine take_run 9 (some 43) (v := ?_) rfl rfl (by kernel_rfl) (by kernel_rfl) (by kernel_rfl) (fun _ _ _ h => h) (by rfl) ?_ hHeld ?_
          rotate_left
          · ((intro w hSw); (try dsimp only at hSw); go_simp <;> with_reducible rfl)
          simp only [Act.put, List.setIfInBounds_toArray, List.set_cons_zero, List.set_cons_succ]
          refine take_run 10 (some 44) (v := ?_) rfl rfl (by kernel_rfl) (by kernel_rfl) (by kernel_rfl) (fun _ _ _ h => h) (by rfl) ?_ hHeld ?_
          rotate_left
          · ((intro w hSw); (try dsimp only at hSw); go_simp <;> with_reducible rfl)
          simp only [Act.put, List.setIfInBounds_toArray, List.set_cons_zero, List.set_cons_succ]
          refine wpAnyH_ready (rs := [1, 11]) (by kernel_rfl) (by simp) ?_
          refine AllReadyH.cons rfl (fun K hK => ?_) (AllReadyH.cons rfl (fun K hK => ?_) AllReadyH.nil)
          · skip
            go_simp
            refine hK.out _ _ (by exact hHeld) (fun hHeld => ?_)
            clear hK K
            refine take_one 11 (by kernel_rfl) rfl (fun K hK => ?_)
            go_simp
            (refine (l2Copy_any v _ HBv.out (HT.out _ hHeld.2.2.2)).mono ?_; rintro e w5 ⟨v', rfl, hlike, hown, hb5⟩; have C2 := hide (C1.out.on hb5); have V2 := V1.on hb5; have HLI := hide hlike; have HOW := hide hown; have z5 : wr.heap.size ≤ w5.heap.size := (by have := hb5.size; simpa using this); have HR := hide (show w5.ownsRow (w1.heap.size + 1) 51 6 (.slice ya yn yc) q (flat6 vs) by have := C2.out.row; rw [HV'.out] at this; exact this); have HB5 := hide hb5; have q2 : w5.cell? ⟨w1.heap.size, 1, none⟩ = some (.slice ya yn yc) := V2.at 1; have q4 : (w5.alloc (.cells (verC v'.k v'.t v'.u v'.a v'.ts.length v'.c v'.s v'.g) 51)).cell? ⟨w1.heap.size, 1, none⟩ = some (.slice ya yn yc) := (V2.more _).at 1)
            try go_wp2_with fail
            refine hK.out _ _ (by exact jh (hHeld.2.2.2.trans (HB5.out.mono hHeld.2.2.2.size))) (fun hHeld => ?_)
            clear hK K
            refine take_one 12 (by kernel_rfl) rfl (fun K hK => ?_)
            go_simp
            refine hK.out _ _ (by exact jh (hHeld.2.2.2.alloc hHeld.2.2.2.size _)) (fun hHeld => ?_)
            clear hK K
            refine take_one 13 (by kernel_rfl) rfl (fun K hK => ?_)
            (refine step_append_lies _ (by rfl) _ _ _ (by rfl) (w1.heap.size + 1) 51 j0 _ 6 72 Tryz.underlying33 J0.out J1.out J2.out J3.out rfl (by omega) (.slice ya yn yc) q (flat6 vs) (by rfl) (HR.out.alloc _) ⟨w5.heap.size, 0, none⟩ 1 1 (cells6 v') (by rfl) (by rfl) (World.news_of_block (cs := verC v'.k v'.t v'.u v'.a v'.ts.length v'.c v'.s v'.g) (t := 51) (fr := (0, 0)) (heap_alloc_new w5 _)) (by simp [cells6, Value.oneCell']) (by omega) (by unfold maxLen; omega) (by omega) (by simp; omega) _ rfl ?_; intro g cap w6 hown2 hgrow hat hlt2; have V3 := (V2.more (.cells (verC v'.k v'.t v'.u v'.a v'.ts.length v'.c v'.s v'.g) 51)).kept hgrow (by intro e; have hq := HVT.out _ e; obtain ⟨_, _, h1, _⟩ := hq; omega); have q3 : w6.cell? ⟨w1.heap.size, 1, none⟩ = some (.slice ya yn yc) := V3.at 1; have f3 := V3.loose 1; have OW := hide hown2; have GW := hide hgrow; clear hown2)
            simp only [List.getElem_toArray, List.getElem_cons_zero, List.getElem_cons_succ, Act.put, List.setIfInBounds_toArray, List.set_cons_zero, List.set_cons_succ]
            refine hK.out _ _ (by exact jh (hHeld.2.2.2.grown hgrow hHeld.2.2.2.size (fun g' e => by have hq := HVT.out _ e; obtain ⟨_, _, h1, _⟩ := hq; omega))) (fun hHeld => ?_)
            clear hK K
            refine take_run 14 (some 48) (v := ?_) rfl rfl (by kernel_rfl) (by kernel_rfl) (by kernel_rfl) (fun _ _ _ h => h) (by rfl) ?_ hHeld ?_
            rotate_left
            · ((intro w hSw); (try dsimp only at hSw); go_simp <;> with_reducible rfl)
            simp only [Act.put, List.setIfInBounds_toArray, List.set_cons_zero, List.set_cons_succ]
            refine take_one 15 (by kernel_rfl) rfl (fun K hK => ?_)
            go_simp
            refine hK.out _ _ (by exact jh (hHeld.2.2.2.setCell (Nat.le_refl _) _)) (fun hHeld => ?_)
            clear hK K
            refine wpAnyH_done (by kernel_rfl) ?_ _
            refine NoPanic.normal ?_
            have I9 := hHeld.2.2.2
            have C9 := HCv.out.push (w1 := w5.alloc (.cells (verC v'.k v'.t v'.u v'.a v'.ts.length v'.c v'.s v'.g) 51)) (B := wr.heap.size) (v := v') (g := g) (cap := cap) (w2 := w6) (((Below.refl _ _).drew.trans (HB5.out.mono (Nat.le_refl _))).trans ((below_alloc1 w5 _).mono z5)) (Nat.le_refl _) ((HOW.out.on (below_alloc1 w5 _)).wide (by simp)) (by rw [HV'.out]; exact OW.out) GW.out
            rw [HV'.out] at C9
            have C10 := hide (C9.aside (p := ⟨w1.heap.size, 1, none⟩) V3 node_ne_tag (by simp only; omega) (.slice (some ⟨g, 0, none⟩) (q + 1) cap))
            have V9 := V3.put 1 (.slice (some ⟨g, 0, none⟩) (q + 1) cap)
            have HL9 := hide (like_step HLv.out HV'.out HY.out HLI.out)
            have HU9 : Hid ((vs ++ [v']).length = q + 1) := (by unfold Hid; rw [List.length_append, HV'.out]; rfl)
            clear hHeld V3 q3 q1 q2 q4 V1 V2 C9 C1 C2 HCv
            go_wp2
            exact ⟨⟨q + 1, _, _, by omega, by go_num, V9, HU9, HL9, C10, I9⟩, by simp [intOf]; omega⟩
          · skip
            go_simp
            (refine (l2Copy_any v _ HBv.out (HT.out _ hHeld.2.2.2)).mono ?_; rintro e w5 ⟨v', rfl, hlike, hown, hb5⟩; have C2 := hide (C1.out.on hb5); have V2 := V1.on hb5; have HLI := hide hlike; have HOW := hide hown; have z5 : wr.heap.size ≤ w5.heap.size := (by have := hb5.size; simpa using this); have HR := hide (show w5.ownsRow (w1.heap.size + 1) 51 6 (.slice ya yn yc) q (flat6 vs) by have := C2.out.row; rw [HV'.out] at this; exact this); have HB5 := hide hb5; have q2 : w5.cell? ⟨w1.heap.size, 1, none⟩ = some (.slice ya yn yc) := V2.at 1; have q4 : (w5.alloc (.cells (verC v'.k v'.t v'.u v'.a v'.ts.length v'.c v'.s v'.g) 51)).cell? ⟨w1.heap.size, 1, none⟩ = some (.slice ya yn yc) := (V2.more _).at 1)
            try go_wp2_with fail
            refine hK.out _ _ (by exact jh (hHeld.2.2.2.trans (HB5.out.mono hHeld.2.2.2.size))) (fun hHeld => ?_)
            clear hK K
            refine wpAnyH_ready (rs := [1, 12]) (by kernel_rfl) (by simp) ?_
            refine AllReadyH.cons rfl (fun K hK => ?_) (AllReadyH.cons rfl (fun K hK => ?_) AllReadyH.nil)
            · skip
              go_simp
              refine hK.out _ _ (by exact hHeld) (fun hHeld => ?_)
              clear hK K
              refine take_one 12 (by kernel_rfl) rfl (fun K hK => ?_)
              go_simp
              refine hK.out _ _ (by exact jh (hHeld.2.2.2.alloc hHeld.2.2.2.size _)) (fun hHeld => ?_)
              clear hK K
              refine take_one 13 (by kernel_rfl) rfl (fun K hK => ?_)
              (refine step_append_lies _ (by rfl) _ _ _ (by rfl) (w1.heap.size + 1) 51 j0 _ 6 72 Tryz.underlying33 J0.out J1.out J2.out J3.out rfl (by omega) (.slice ya yn yc) q (flat6 vs) (by rfl) (HR.out.alloc _) ⟨w5.heap.size, 0, none⟩ 1 1 (cells6 v') (by rfl) (by rfl) (World.news_of_block (cs := verC v'.k v'.t v'.u v'.a v'.ts.length v'.c v'.s v'.g) (t := 51) (fr := (0, 0)) (heap_alloc_new w5 _)) (by simp [cells6, Value.oneCell']) (by omega) (by unfold maxLen; omega) (by omega) (by simp; omega) _ rfl ?_; intro g cap w6 hown2 hgrow hat hlt2; have V3 := (V2.more (.cells (verC v'.k v'.t v'.u v'.a v'.ts.length v'.c v'.s v'.g) 51)).kept hgrow (by intro e; have hq := HVT.out _ e; obtain ⟨_, _, h1, _⟩ := hq; omega); have q3 : w6.cell? ⟨w1.heap.size, 1, none⟩ = some (.slice ya yn yc) := V3.at 1; have f3 := V3.loose 1; have OW := hide hown2; have GW := hide hgrow; clear hown2)
              simp only [List.getElem_toArray, List.getElem_cons_zero, List.getElem_cons_succ, Act.put, List.setIfInBounds_toArray, List.set_cons_zero, List.set_cons_succ]
              refine hK.out _ _ (by exact jh (hHeld.2.2.2.grown hgrow hHeld.2.2.2.size (fun g' e => by have hq := HVT.out _ e; obtain ⟨_, _, h1, _⟩ := hq; omega))) (fun hHeld => ?_)
              clear hK K
              refine take_run 14 (some 48) (v := ?_) rfl rfl (by kernel_rfl) (by kernel_rfl) (by kernel_rfl) (fun _ _ _ h => h) (by rfl) ?_ hHeld ?_
              rotate_left
              · ((intro w hSw); (try dsimp only at hSw); go_simp <;> with_reducible rfl)
              simp only [Act.put, List.setIfInBounds_toArray, List.set_cons_zero, List.set_cons_succ]
              refine take_one 15 (by kernel_rfl) rfl (fun K hK => ?_)
              go_simp
              refine hK.out _ _ (by exact jh (hHeld.2.2.2.setCell (Nat.le_refl _) _)) (fun hHeld => ?_)
              clear hK K
              refine wpAnyH_done (by kernel_rfl) ?_ _
              refine NoPanic.normal ?_
              have I9 := hHeld.2.2.2
              have C9 := HCv.out.push (w1 := w5.alloc (.cells (verC v'.k v'.t v'.u v'.a v'.ts.length v'.c v'.s v'.g) 51)) (B := wr.heap.size) (v := v') (g := g) (cap := cap) (w2 := w6) (((Below.refl _ _).drew.trans (HB5.out.mono (Nat.le_refl _))).trans ((below_alloc1 w5 _).mono z5)) (Nat.le_refl _) ((HOW.out.on (below_alloc1 w5 _)).wide (by simp)) (by rw [HV'.out]; exact OW.out) GW.out
              rw [HV'.out] at C9
              have C10 := hide (C9.aside (p := ⟨w1.heap.size, 1, none⟩) V3 node_ne_tag (by simp only; omega) (.slice (some ⟨g, 0, none⟩) (q + 1) cap))
              have V9 := V3.put 1 (.slice (some ⟨g, 0, none⟩) (q + 1) cap)
              have HL9 := hide (like_step HLv.out HV'.out HY.out HLI.out)
              have HU9 : Hid ((vs ++ [v']).length = q + 1) := (by unfold Hid; rw [List.length_append, HV'.out]; rfl)
              clear hHeld V3 q3 q1 q2 q4 V1 V2 C9 C1 C2 HCv
              go_wp2
              exact ⟨⟨q + 1, _, _, by omega, by go_num, V9, HU9, HL9, C10, I9⟩, by simp [intOf]; omega⟩
            · skip
              go_simp
              refine hK.out _ _ (by exact jh (hHeld.2.2.2.alloc hHeld.2.2.2.size _)) (fun hHeld => ?_)
              clear hK K
              refine take_one 1 (by kernel_rfl) rfl (fun K hK => ?_)
              go_simp
              refine hK.out _ _ (by exact hHeld) (fun hHeld => ?_)
              clear hK K
              refine take_one 13 (by kernel_rfl) rfl (fun K hK => ?_)
              (refine step_append_lies _ (by rfl) _ _ _ (by rfl) (w1.heap.size + 1) 51 j0 _ 6 72 Tryz.underlying33 J0.out J1.out J2.out J3.out rfl (by omega) (.slice ya yn yc) q (flat6 vs) (by rfl) (HR.out.alloc _) ⟨w5.heap.size, 0, none⟩ 1 1 (cells6 v') (by rfl) (by rfl) (World.news_of_block (cs := verC v'.k v'.t v'.u v'.a v'.ts.length v'.c v'.s v'.g) (t := 51) (fr := (0, 0)) (heap_alloc_new w5 _)) (by simp [cells6, Value.oneCell']) (by omega) (by unfold maxLen; omega) (by omega) (by simp; omega) _ rfl ?_; intro g cap w6 hown2 hgrow hat hlt2; have V3 := (V2.more (.cells (verC v'.k v'.t v'.u v'.a v'.ts.length v'.c v'.s v'.g) 51)).kept hgrow (by intro e; have hq := HVT.out _ e; obtain ⟨_, _, h1, _⟩ := hq; omega); have q3 : w6.cell? ⟨w1.heap.size, 1, none⟩ = some (.slice ya yn yc) := V3.at 1; have f3 := V3.loose 1; have OW := hide hown2; have GW := hide hgrow; clear hown2)
              simp only [List.getElem_toArray, List.getElem_cons_zero, List.getElem_cons_succ, Act.put, List.setIfInBounds_toArray, List.set_cons_zero, List.set_cons_succ]
              refine hK.out _ _ (by exact jh (hHeld.2.2.2.grown hgrow hHeld.2.2.2.size (fun g' e => by have hq := HVT.out _ e; obtain ⟨_, _, h1, _⟩ := hq; omega))) (fun hHeld => ?_)
              clear hK K
              refine take_run 14 (some 48) (v := ?_) rfl rfl (by kernel_rfl) (by kernel_rfl) (by kernel_rfl) (fun _ _ _ h => h) (by rfl) ?_ hHeld ?_
              rotate_left
              · ((intro w hSw); (try dsimp only at hSw); go_simp <;> with_reducible rfl)
              simp only [Act.put, List.setIfInBounds_toArray, List.set_cons_zero, List.set_cons_succ]
              refine take_one 15 (by kernel_rfl) rfl (fun K hK => ?_)
              go_simp
              refine hK.out _ _ (by exact jh (hHeld.2.2.2.setCell (Nat.le_refl _) _)) (fun hHeld => ?_)
              clear hK K
              refine wpAnyH_done (by kernel_rfl) ?_ _
              refine NoPanic.normal ?_
              have I9 := hHeld.2.2.2
              have C9 := HCv.out.push (w1 := w5.alloc (.cells (verC v'.k v'.t v'.u v'.a v'.ts.length v'.c v'.s v'.g) 51)) (B := wr.heap.size) (v := v') (g := g) (cap := cap) (w2 := w6) (((Below.refl _ _).drew.trans (HB5.out.mono (Nat.le_refl _))).trans ((below_alloc1 w5 _).mono z5)) (Nat.le_refl _) ((HOW.out.on (below_alloc1 w5 _)).wide (by simp)) (by rw [HV'.out]; exact OW.out) GW.out
              rw [HV'.out] at C9
              have C10 := hide (C9.aside (p := ⟨w1.heap.size, 1, none⟩) V3 node_ne_tag (by simp only; omega) (.slice (some ⟨g, 0, none⟩) (q + 1) cap))
              have V9 := V3.put 1 (.slice (some ⟨g, 0, none⟩) (q + 1) cap)
              have HL9 := hide (like_step HLv.out HV'.out HY.out HLI.out)
              have HU9 : Hid ((vs ++ [v']).length = q + 1) := (by unfold Hid; rw [List.length_append, HV'.out]; rfl)
              clear hHeld V3 q3 q1 q2 q4 V1 V2 C9 C1 C2 HCv
              go_wp2
              exact ⟨⟨q + 1, _, _, by omega, by go_num, V9, HU9, HL9, C10, I9⟩, by simp [intOf]; omega⟩
        · have hqn : q = nw := by omega
          subst hqn
          clear hltq
          obtain ⟨ya, yc, hy, hRy⟩ := HCv.out.resS
          obtain ⟨ya', yn', yc', hy'⟩ := HCv.out.form
          subst hy
          have HLV : Hid (LL vs ws) := ⟨HV'.out.trans HNW.out.symm, HLv.out⟩
          have HRY := hide hRy
          have V1 := (HVB.out.on (HB1.out.trans (hBw.mono z1)))
          have p1 := V1.one.1
          have p2 := hN.two.1
          have p3 := hN.two.2.1
          have GB := hide (HB1.out.trans (hBw.mono z1))
          have zq := hBw.size
          have hvl := HV'.out
          have HGT := hide (HG.out.typed)
          have hlo := HG.out.lo
          have HR := hide (show wr.ownsRow (w.heap.size + 1 + 1 + 1) 37 2 (.slice xa us.length xc) k (flatN us) by have := (HG.out.on GB.out).row; rw [HU.out] at this ⊢; exact this)
          have r1 := hide (HR1.out.on hBw)
          have HVV := hide V1
          have HIW := hide (HI.out.on GB.out)
          have HCY := hide HCv.out
          clear hN hRy hy' V1 HCv HLv hvl
          go_wp2_with (at_builtin; (refine wpList_append_lies _ rfl (.tmp 50) (.tmp 52) 23 rfl (w.heap.size + 1 + 1 + 1) 37 i0 _ 2 48 Tryz.underlying23 I0.out I1.out I2.out I3.out rfl (by omega) (.slice xa us.length xc) k (flatN us) rfl (HR.out.alloc _) ⟨wr.heap.size, 0, none⟩ 1 1 (cellsN ⟨A1, cap1, us1, ya, yc, vs⟩) rfl rfl (World.news_of_block (cs := #[.slice A1 us1.length cap1, .slice ya vs.length yc]) (by simpa using heap_alloc_new wr (.cells #[.slice A1 us1.length cap1, .slice ya vs.length yc] 37))) (by simp [cellsN, Value.oneCell']) (by omega) (by unfold maxLen; omega) (by omega) (by simp; omega) _ rfl ?_; intro g2 cap2 w2 hown2 hgrow hat hlt2; have V3 := (HVV.out.more (.cells #[.slice A1 us1.length cap1, .slice ya vs.length yc] 37)).kept hgrow (by intro e; have hq := HGT.out _ e; obtain ⟨_, _, h1, _⟩ := hq; omega); have q3 := V3.one; have HV3 := hide V3; have OW := hide hown2; have GW := hide hgrow; clear hown2 hgrow hat V3))
          have C9 := HG.out.push (w1 := wr.alloc (.cells #[.slice A1 us1.length cap1, .slice ya vs.length yc] 37)) (v := ⟨A1, cap1, us1, ya, yc, vs⟩) (g := g2) (cap := cap2) (w2 := w2) (GB.out.trans ((below_alloc1 wr _).mono GB.out.size)) (((r1.out.wide zq).on (below_alloc1 wr _)).wide (by simp)) (((HRY.out.low (by omega)).on (below_alloc1 wr _)).wide (by simp)) (fun g h1 h2 => h2.elim (fun h2 => by have := r1.out.foot h1; have := HRY.out.foot h2; omega) (fun h2 => by have := r1.out.foot h1; obtain ⟨_, _, h3, _⟩ := HCY.out.typed g h2; omega)) ((HCY.out.down (by omega)).on (below_alloc1 wr _)) (by rw [HU.out]; exact OW.out) GW.out
          rw [HU.out] at C9
          have C10 := C9.aside (p := ⟨w.heap.size + 1 + 1, 0, none⟩) (by simp only; omega) (.slice (some ⟨g2, 0, none⟩) (k + 1) cap2)
          have V9 := HV3.out.put 0 (.slice (some ⟨g2, 0, none⟩) (k + 1) cap2)
          have HL9 := nl_snoc (v := ⟨A1, cap1, us1, ya, yc, vs⟩) HL.out HU.out HX.out ⟨HL1.out.1, HL1.out.2, HLV.out.1, HLV.out.2⟩
          have HU9 : (us ++ [(⟨A1, cap1, us1, ya, yc, vs⟩ : Nd)]).length = k + 1 := by rw [List.length_append, HU.out]; rfl
          have I9 := ((HIW.out.alloc (.cells #[.slice A1 us1.length cap1, .slice ya vs.length yc] 37)).grow GW.out (fun g' e => by have hq := HGT.out _ e; obtain ⟨_, _, h1, _⟩ := hq; omega)).set (p := ⟨w.heap.size + 1 + 1, 0, none⟩) (by simp) (by simp; omega) (.slice (some ⟨g2, 0, none⟩) (k + 1) cap2)
          exact ⟨⟨k + 1, _, _, by omega, by go_num, V9, HU9, HL9, C10, I9⟩, by simp [intOf]; omega⟩
    · have hkn : k = n := by omega
      subst hkn
      clear hlt
      obtain ⟨xa, xc, rfl⟩ := HG.out.form
      have q0 := hV.one
      have q1 := (hI.nth 0 rfl).one
      have hL := hI.below
      go_wp2
      refine bodyPost_ret (v := .agg #[.slice xa us.length xc]) (by simp [results, Tryz.results38, go_sem, q1]) rfl ?_
      exact ⟨_, us, rfl, ⟨HU.out.trans HN.out.symm, HL.out⟩, (HG.out.aside (p := ⟨w.heap.size + 1, 0, none⟩) (by simp only; omega) (.slice xa us.length xc)).down (by omega), hL.setCell (by simp) _⟩
end Go.Proofs.YtjnloillcgeodaaGreat
/- Contracts of ChainStable, of program and model. Condition: sizes that memory holds. -/
namespace Go.Proofs.YtjnloillcgeodaaGreat
open Go.RowKit Go.Joins
attribute [local go_sem ↓] Go.wp_at_zero Go.wp_at_succ

theorem tot_ll {us vs : List V} (h : LL us vs) : tot us = tot vs := by
  unfold tot
  congr 1
  apply List.ext_getElem?
  intro i
  rw [List.getElem?_map, List.getElem?_map]
  cases hx : us[i]? with
  | none => rw [ll_none h hx]
  | some v =>
    obtain ⟨v', hv', hl⟩ := ll_at h hx
    rw [hv']
    simp [hl.2.2.2.1, hl.2.2.2.2.1]
theorem totN_like {n m : Nd} (h : Nd.like n m) : totN n = totN m := by
  unfold totN
  rw [tot_ll (us := n.ss) (vs := m.ss) ⟨h.1, h.2.1⟩, tot_ll (us := n.ws) (vs := m.ws) ⟨h.2.2.1, h.2.2.2⟩, h.1, h.2.2.1]
theorem totNs_nl {us ns : List Nd} (h : NL us ns) : totNs us = totNs ns := by
  unfold totNs
  congr 1
  apply List.ext_getElem?
  intro i
  rw [List.getElem?_map, List.getElem?_map]
  cases hx : us[i]? with
  | none => rw [nl_none h hx]
  | some v =>
    obtain ⟨v', hv', hl⟩ := nl_at h hx
    rw [hv']
    simp [totN_like hl]
theorem wtNs_tot (ns : List Nd) : wtNs ns ≤ 5 * (totNs ns : Int) := by
  induction ns with
  | nil => simp [wtNs, totNs]
  | cons n r ih =>
    have h1 := wts_tot n.ss
    have h2 := wts_tot n.ws
    unfold wtNs totNs at *
    simp only [List.map_cons, List.sum_cons, wtN, totN] at *
    omega
/-- Marks of a copy are few. -/
theorem wtNs_few {us ns : List Nd} (h : NL us ns) (hs : ns.length + totNs ns ≤ 1048576) : (1 : Int) + wtNs us ≤ 8388000 ∧ 0 ≤ wtNs us := by
  have h1 := wtNs_tot us
  rw [totNs_nl h] at h1
  exact ⟨by omega, wtNs_pos us⟩
/-- A copy of a chain is marked. -/
theorem markChain_copy (B U g c : Nat) (us ns : List Nd) (cur : Array Value) (w : World) (hR : NRow w B U g us cur) (h : NL us ns) (hm : SmN ns) (hs : ns.length + totNs ns ≤ 1048576) :
    Calls Tryz.prog 27 #[.agg #[.slice (some ⟨g, 0, none⟩) ns.length c], .int .i64 1] w fun e w' => e = .returned (.int .i64 (1 + wtNs us)) ∧ Turn (fun g => B ≤ g ∧ g < U) w w' :=
  (markChain_any B U _ c ns.length us 1 w (.inr ⟨g, cur, rfl, hR⟩) h.1 (smN_small (smN_like h hm)) (by omega) (by omega) (wtNs_few h hs).1).mono fun e w' ⟨h1, _, h3⟩ => ⟨h1, h3⟩
/-- What ChainStable answers. -/
def stableR (ns : List Nd) : List (Int × Int) := if chainB ns = true then (match ns[ns.length - 1]? with | some n => tagsR n.ss | none => []) else []
end Go.Proofs.YtjnloillcgeodaaGreat
/- Contracts of ChainJoin, of program and model. Condition: sizes that memory holds. -/
namespace Go.Proofs.YtjnloillcgeodaaGreat
open Go.RowKit Go.Joins
attribute [local go_sem ↓] Go.wp_at_zero Go.wp_at_succ

theorem ResS.typed2 {w : World} {B U : Nat} {A : Option Addr} {us : List V} (h : ResS w B U A us) {g : Nat} (hg : FootS A us g) : ∃ T cs, Blk w g T cs ∧ T ≠ 25 := by
  obtain ⟨h0, G, rfl, hf⟩ := hg
  rcases h with h | ⟨G', cur, e, hO⟩
  · exact absurd h h0
  · injection e with e
    injection e with e
    subst e
    rcases hf with rfl | ⟨i, v, hi, hn, ha⟩
    · exact ⟨_, _, hO.blk, by decide⟩
    · rcases hO.own i v hi with q | ⟨g', c', e1, q1, q2, q3, _⟩
      · exact absurd q hn
      · rw [e1] at ha
        injection ha with ha
        injection ha with ha
        subst ha
        exact ⟨_, _, q3, by decide⟩
/-- A store into a variable that is a chain. -/
theorem GRow.asideT {base : Nat} {wr : World} {x : Value} {us : List Nd} (h : GRow base wr x us) {p : Addr} {cs : Array Value} (hb : Blk wr p.block 25 cs) (u : Value) : GRow base (wr.setCell p u) x us := by
  have hz : (wr.setCell p u).heap.size = wr.heap.size := by simp [World.setCell]
  have ht : Turn (fun g => g = p.block) wr (wr.setCell p u) := (Turn.refl (fun g => g = p.block) wr).set (p := p) rfl u
  have hk : ∀ {B U : Nat} {A : Option Addr} {l : List V}, ResS wr B U A l → ResS (wr.setCell p u) B U A l := fun hr => hr.turnF ht (fun y hf e => by
    obtain ⟨T, cs', h3, h4⟩ := hr.typed2 hf
    subst e
    exact h4 (blk_one h3 hb))
  refine ⟨⟨h.row.1, ?_⟩, fun i v hi => ?_, fun i v hi => ?_, h.two, h.apart, by rw [hz]; exact h.lo, fun i v hi => (h.own i v hi).turnedT ht (fun g e => by subst e; exact ⟨_, cs, hb, by decide, by decide⟩)⟩
  · rcases h.row.2 with h' | ⟨g, cap, cr, h1, h2, h3, h4⟩
    · exact .inl h'
    · refine .inr ⟨g, cap, cr, h1, h2, ?_, h4⟩
      exact Blk.aside (show Blk wr g 37 cr from h3) (fun e => by subst e; exact absurd (blk_one (show Blk wr p.block 37 cr from h3) hb) (by decide)) u
  · rw [hz]
    exact hk (h.store i v hi)
  · rw [hz]
    exact hk (h.wait i v hi)
/-- A node that comes: what the last one has, and nothing waits. -/
def bare (n : Nd) : Nd := ⟨n.sa, n.sc, n.ss, none, 0, []⟩
/-- What ChainJoin answers. -/
def joinN (ns : List Nd) : List Nd := if chainB ns = true then (if ns.length = 4 then ns else ns ++ (match ns[ns.length - 1]? with | some n => [bare n] | none => [])) else []
def joinK (ns : List Nd) : Bool := chainB ns && decide (ns.length < 4)
/-- An answer that is a chain, and whether it was done. -/
def AnswerCB (w : World) (rs : List Nd) (b : Bool) (e : Ending) (w' : World) : Prop :=
  ∃ (A : Option Addr) (cap : Nat) (us : List Nd), e = .returned (.tuple #[.agg #[.slice A rs.length cap], .bool b]) ∧ NL us rs ∧ ResN w' w.heap.size w'.heap.size A us ∧ Below w.heap.size w w'
theorem answerCB_none {w w' : World} {rs : List Nd} {b : Bool} (hr : rs = [] ∧ b = false) (hb : Below w.heap.size w w') : AnswerCB w rs b (.returned (.tuple #[.agg #[.slice none 0 0], .bool false])) w' := by
  obtain ⟨rfl, rfl⟩ := hr
  exact ⟨none, 0, [], rfl, ⟨rfl, fun i x y hx => by simp at hx⟩, .inl rfl, hb⟩
theorem answerCB_row {w w' : World} {rs us : List Nd} {b : Bool} {A : Option Addr} {m cap : Nat} (h : GRow w.heap.size w' (.slice A m cap) us) (hl : NL us rs) (hb : Below w.heap.size w w') : AnswerCB w rs b (.returned (.tuple #[.agg #[.slice A m cap], .bool b])) w' := by
  obtain ⟨e, hR⟩ := h.res
  exact ⟨A, cap, us, by rw [e, hl.1], hl, hR, hb⟩
end Go.Proofs.YtjnloillcgeodaaGreat
/- Contract of the program's ChainJoin. Condition: sizes that memory holds. -/
namespace Go.Proofs.YtjnloillcgeodaaGreat
open Go.RowKit Go.Joins
attribute [local go_sem ↓] Go.wp_at_zero Go.wp_at_succ

end Go.Proofs.YtjnloillcgeodaaGreat
/- Contract of the model's ChainJoin. Condition: sizes that memory holds. -/
namespace Go.Proofs.YtjnloillcgeodaaGreat
open Go.RowKit Go.Joins
attribute [local go_sem ↓] Go.wp_at_zero Go.wp_at_succ

end Go.Proofs.YtjnloillcgeodaaGreat
/- Chains of valid nodes that a call answers: few marks; compared, marked, and the marks found again. -/
namespace Go.Proofs.YtjnloillcgeodaaGreat
open Go.RowKit Go.Joins

/-- At most four nodes, each valid by itself. -/
def FineN (rs : List Nd) : Prop := rs.length ≤ 4 ∧ ∀ (i : Nat) n, rs[i]? = some n → nodeB n = true
theorem FineN.like {us rs : List Nd} (h : NL us rs) (hr : FineN rs) : FineN us := ⟨by rw [h.1]; exact hr.1, fun i n hi => by
  obtain ⟨m, hm, hl⟩ := nl_at h hi
  rw [nodeB_like hl]
  exact hr.2 i m hm⟩
theorem node_ts {n : Nd} (h : nodeB n = true) : (n.ss.length = 4 ∧ ∀ v ∈ n.ss, v.ts.length ≤ 4) ∧ n.ws.length ≤ 6 ∧ ∀ v ∈ n.ws, v.ts.length ≤ 4 := by
  obtain ⟨h1, h2, h3⟩ := nodeB_parts h
  exact ⟨⟨storeB_four h1, (few_store h1).2⟩, h2, fun v hv => Nat.le_of_eq (pastB_len4 (verB_parts (h3 v hv)).2.2.2)⟩
theorem FineN.small {rs : List Nd} (h : FineN rs) : SmallN rs := fun n hn => by
  obtain ⟨i, hi⟩ := List.getElem?_of_mem hn
  obtain ⟨⟨h1, h2⟩, h3, h4⟩ := node_ts (h.2 i n hi)
  exact ⟨by omega, by omega, fun v hv => by have := h2 v hv; omega, fun v hv => by have := h4 v hv; omega⟩
theorem wtN_fine {n : Nd} (h : nodeB n = true) : wtN n ≤ 130 := by
  obtain ⟨⟨h1, h2⟩, h3, h4⟩ := node_ts h
  have := few_wts n.ss h2
  have := few_wts n.ws h4
  unfold wtN
  omega
theorem wtNs_fine : ∀ (rs : List Nd), (∀ n ∈ rs, nodeB n = true) → wtNs rs ≤ 130 * (rs.length : Int)
  | [], _ => by simp [wtNs]
  | n :: r, h => by
    have h1 := wtNs_fine r (fun x hx => h x (List.mem_cons_of_mem _ hx))
    have h2 := wtN_fine (h n (List.mem_cons_self ..))
    unfold wtNs at *
    simp at *
    omega
theorem FineN.wt {rs : List Nd} (h : FineN rs) : wtNs rs ≤ 520 := by
  have := wtNs_fine rs (fun n hn => by obtain ⟨i, hi⟩ := List.getElem?_of_mem hn; exact h.2 i n hi)
  have := h.1
  omega
theorem eqChain_fine (B U B' U' : Nat) (A A' : Option Addr) (c c' : Nat) (rs us us' : List Nd) (w : World) (hf : FineN rs) (h : NL us rs) (h' : NL us' rs) (hR : ResN w B U A us) (hR' : ResN w B' U' A' us') :
    Calls Tryz.prog 26 #[.agg #[.slice A rs.length c], .agg #[.slice A' rs.length c']] w fun e w' => e = .returned (.bool true) ∧ Below w.heap.size w w' :=
  eqChain_same B U B' U' A A' c c' rs.length us us' w (by have := hf.1; omega) h.1 h'.1 (nl_trans h (nl_symm h')).2 (hf.like h).small hR hR'
theorem markChain_fine (B U : Nat) (A : Option Addr) (c : Nat) (rs us : List Nd) (w : World) (hf : FineN rs) (h : NL us rs) (hR : ResN w B U A us) :
    Calls Tryz.prog 27 #[.agg #[.slice A rs.length c], .int .i64 1] w fun e w' => e = .returned (.int .i64 (1 + wtNs us)) ∧ ResN w' B U A (mkNs 1 us) ∧ Turn (fun g => B ≤ g ∧ g < U) w w' :=
  markChain_any B U A c rs.length us 1 w hR h.1 (hf.like h).small (by have := hf.1; omega) (by omega) (by have := (hf.like h).wt; omega)
theorem heldChain_fine (B U : Nat) (A : Option Addr) (c : Nat) (rs us : List Nd) (w : World) (hf : FineN rs) (h : NL us rs) (hR : ResN w B U A (mkNs 1 us)) :
    Calls Tryz.prog 28 #[.agg #[.slice A rs.length c], .int .i64 1] w fun e w' => e = .returned (.int .i64 (1 + wtNs us)) ∧ Below w.heap.size w w' :=
  heldChain_any B U A c rs.length us 1 w hR h.1 (hf.like h).small (by have := hf.1; omega) (by omega) (by have := (hf.like h).wt; omega)
end Go.Proofs.YtjnloillcgeodaaGreat
/- A version comes to a node: said plainly; and one node of a row of nodes changed in memory. No condition. -/
namespace Go.Proofs.YtjnloillcgeodaaGreat
open Go.RowKit Go.Joins

/-- A node to which a version comes, if that is later: it waits to be passed on, unless the node is the last one. -/
def addNd (n : Nd) (last : Bool) (v : V) : Nd := match stepL n.ss v with | some ss' => ⟨n.sa, n.sc, ss', n.wa, n.wc, if last = true then n.ws else n.ws ++ [v]⟩ | none => n
def addN (ns : List Nd) (k : Nat) (v : V) : List Nd := match ns[k]? with | some n => ns.set k (addNd n (decide (k + 1 = ns.length)) v) | none => ns
theorem nl_set {us ns : List Nd} {k : Nat} {n m : Nd} (h : NL us ns) (hl : Nd.like n m) : NL (us.set k n) (ns.set k m) := by
  refine ⟨by rw [List.length_set, List.length_set]; exact h.1, fun i x y hx hy => ?_⟩
  by_cases e : i = k
  · subst e
    have h1 : i < us.length := by have := (List.getElem?_eq_some_iff.1 hx).1; rw [List.length_set] at this; exact this
    have h2 : i < ns.length := by have := h.1; omega
    rw [List.getElem?_set_self h1] at hx
    rw [List.getElem?_set_self h2] at hy
    injection hx with hx
    injection hy with hy
    rw [← hx, ← hy]
    exact hl
  · rw [List.getElem?_set_ne (Ne.symm e)] at hx hy
    exact h.2 i x y hx hy
theorem CRow.tagFoot {base : Nat} {w : World} {A : Option Addr} {m c : Nat} {us : List V} (h : CRow base w (.slice A m c) us) {i : Nat} {v : V} (hi : us[i]? = some v) (hne : v.ts ≠ []) {g : Nat} (hg : v.a = some ⟨g, 0, none⟩) : FootS A us g := by
  have h0 : us ≠ [] := fun e => by rw [e] at hi; simp at hi
  rcases h.row.2 with ⟨_, e⟩ | ⟨G, cap, cr, e, _⟩
  · exact absurd (List.length_eq_zero_iff.1 e) h0
  · injection e with e _ _
    exact ⟨h0, G, e, .inr ⟨i, v, hi, hne, hg⟩⟩
/-- One node of a row of nodes is changed; what turns is its own, or the row's. -/
theorem GRow.set {P : Nat → Prop} {base : Nat} {wr w' : World} {x : Value} {us : List Nd} {k : Nat} {n n' : Nd} (h : GRow base wr x us) (hk : us[k]? = some n) (ht : Turn P wr w') (hrow : w'.ownsRow base 37 2 x us.length (flatN (us.set k n')))
    (hs : ResS w' base w'.heap.size n'.sa n'.ss) (hc : CRow base w' (.slice n'.wa n'.ws.length n'.wc) n'.ws) (h2 : ∀ g, FootS n'.sa n'.ss g → ¬ FootW n' g)
    (hP : ∀ g, P g → FootO n g ∨ x.ownBlock = some g) (hf : ∀ g, FootO n' g → FootO n g ∨ wr.heap.size ≤ g) : GRow base w' x (us.set k n') := by
  have hkl := (List.getElem?_eq_some_iff.1 hk).1
  have key : ∀ (i : Nat) y, (us.set k n')[i]? = some y → (i = k ∧ y = n') ∨ (i ≠ k ∧ us[i]? = some y) := by
    intro i y hy
    by_cases e : i = k
    · subst e
      rw [List.getElem?_set_self hkl] at hy
      injection hy with hy
      exact .inl ⟨rfl, hy.symm⟩
    · rw [List.getElem?_set_ne (fun e' => e e'.symm)] at hy
      exact .inr ⟨e, hy⟩
  have hno : ∀ (i : Nat) y, i ≠ k → us[i]? = some y → ∀ g, FootO y g → P g → x.ownBlock = some g := fun i y hne hy g hg hp => by
    rcases hP g hp with q | q
    · exact absurd q (h.apart i k y n hne hy hk g hg)
    · exact q
  have hkR : ∀ {B U : Nat} {A : Option Addr} {l : List V} {g : Nat}, ResS wr B U A l → FootS A l g → ¬ x.ownBlock = some g := fun hr hf e => by
    obtain ⟨cs, h1, _⟩ := h.typed _ e
    obtain ⟨T, cs', h3, h4, _⟩ := hr.typed hf
    exact h4 (blk_one h3 h1)
  refine ⟨by rw [List.length_set]; exact hrow, fun i y hy => ?_, fun i y hy => ?_, fun i y hy => ?_, fun i j y y' hne hy hy' => ?_, Nat.le_trans h.lo ht.size, fun i y hy => ?_⟩
  · rcases key i y hy with ⟨_, rfl⟩ | ⟨e, hq⟩
    · exact hs
    · exact ((h.store i y hq).turnF ht (fun g hg hp => hkR (h.store i y hq) hg (hno i y e hq g (.inl hg) hp))).wide ht.size
  · rcases key i y hy with ⟨_, rfl⟩ | ⟨e, hq⟩
    · obtain ⟨A, cap, e, hR⟩ := hc.resS
      injection e with e _ _
      rw [e]
      exact hR
    · exact ((h.wait i y hq).turnF ht (fun g hg hp => hkR (h.wait i y hq) hg (hno i y e hq g (.inr (.inl hg)) hp))).wide ht.size
  · rcases key i y hy with ⟨_, rfl⟩ | ⟨e, hq⟩
    · exact h2
    · exact h.two i y hq
  · intro g h3 h4
    rcases key i y hy with ⟨e1, rfl⟩ | ⟨e1, hq⟩ <;> rcases key j y' hy' with ⟨e2, rfl⟩ | ⟨e2, hq'⟩
    · omega
    · rcases hf g h3 with q | q
      · exact h.apart k j n y' (fun e => e2 e.symm) hk hq' g q h4
      · have := h.foot hq' h4; omega
    · rcases hf g h4 with q | q
      · exact h.apart k i n y (fun e => e1 e.symm) hk hq g q h3
      · have := h.foot hq h3; omega
    · exact h.apart i j y y' hne hq hq' g h3 h4
  · rcases key i y hy with ⟨_, rfl⟩ | ⟨e, hq⟩
    · exact hc
    · refine (h.own i y hq).turned ht (fun g hg hp => ?_) (fun l v hl g hg _ hne hp => ?_)
      · have e1 := hno i y e hq g (.inr (.inr hg)) hp
        obtain ⟨cs, b1, _⟩ := h.typed g e1
        obtain ⟨cs', b2, _⟩ := (h.own i y hq).typed g hg
        exact node_ne_ver (blk_one b1 b2)
      · have hft := (h.own i y hq).tagFoot hl hne hg
        exact hkR (h.wait i y hq) hft (hno i y e hq g (.inr (.inl hft)) hp)
end Go.Proofs.YtjnloillcgeodaaGreat
/- What ChainPut answers, said plainly; contracts of whether there is room, in the program and in the model. -/
namespace Go.Proofs.YtjnloillcgeodaaGreat
open Go.RowKit Go.Joins
attribute [local go_sem ↓] Go.wp_at_zero Go.wp_at_succ

/-- Whether there is room for one more at the head. -/
def roomB (ns : List Nd) : Bool := match ns[0]? with | some n => decide (n.ws.length < 6) | none => false
/-- What ChainPut answers. -/
def putN (ns : List Nd) (v : V) : List Nd := if chainB ns = true ∧ verV v = true then (if roomB ns = true then addN ns 0 v else ns) else []
def putK (ns : List Nd) (v : V) : Bool := chainB ns && verV v && roomB ns
end Go.Proofs.YtjnloillcgeodaaGreat
/- One node of a row of nodes: a version put into its store, a version more that waits. No condition. -/
namespace Go.Proofs.YtjnloillcgeodaaGreat
open Go.RowKit Go.Joins

theorem flatN_set2 : ∀ {us : List Nd} {k : Nat} {n n' : Nd} {u : Value}, us[k]? = some n → cellsN n' = (cellsN n).set 1 u → flatN (us.set k n') = (flatN us).set (k * 2 + 1) u
  | [], k, n, n', u, h, _ => by simp at h
  | x :: r, 0, n, n', u, h, hc => by
    simp at h
    subst h
    simp only [flatN, List.set_cons_zero, List.flatMap_cons, hc, Nat.zero_mul, Nat.zero_add]
    rw [List.set_append_left _ _ (by simp [cellsN])]
  | x :: r, k + 1, n, n', u, h, hc => by
    have ih := flatN_set2 (us := r) (k := k) (n := n) (n' := n') (u := u) (by simpa using h) hc
    have e : flatN (x :: r) = cellsN x ++ flatN r := by simp [flatN]
    have e' : flatN ((x :: r).set (k + 1) n') = cellsN x ++ flatN (r.set k n') := by simp [flatN]
    have l2 : (cellsN x).length = 2 := rfl
    rw [e, e', ih, List.set_append_right _ _ (by omega), l2]
    congr 2
    omega
end Go.Proofs.YtjnloillcgeodaaGreat
/- The model lets a later version into a row: which one stands there then. Condition: a row of four, a key from 0 to 3. -/
namespace Go.Proofs.YtjnloillcgeodaaGreat
open Go.RowKit Go.Joins
attribute [local go_sem ↓] Go.wp_at_zero Go.wp_at_succ

/-- What letting a later version in leaves: a copy of it in its place, the others as they were. -/
def PutL (w : World) (B G : Nat) (us : List V) (v : V) (kn : Nat) (x : Value) (e : Ending) (w' : World) : Prop :=
  ∃ (v' : V) (cur' : Array Value), e = .returned x ∧ V.like v' v ∧ Own1 w' w.heap.size w'.heap.size v' ∧ ORow w' B w'.heap.size G (us.set kn v') cur' ∧ Turn (fun g => g = G) w w'
end Go.Proofs.YtjnloillcgeodaaGreat
/- Contract of the model's l3Add: a version comes to a node of a chain that is the caller's own. Condition: at most four nodes, the node valid. -/
namespace Go.Proofs.YtjnloillcgeodaaGreat
open Go.RowKit Go.Joins
attribute [local go_sem ↓] Go.wp_at_zero Go.wp_at_succ

theorem Turn.mono {P Q : Nat → Prop} {w w' : World} (h : Turn P w w') (hq : ∀ g, P g → Q g) : Turn Q w w' := ⟨h.os, h.tape, h.output, h.size, fun k hk hn => h.block k hk (fun hp => hn (hq k hp))⟩
/-- Blocks that a version that comes may change: of versions or of nodes, from base on. -/
def TouchC (w : World) (base g : Nat) : Prop := base ≤ g ∧ ∃ cs, Blk w g 51 cs ∨ Blk w g 37 cs
/-- What l3Add leaves. -/
def AddedC (w : World) (base G xc : Nat) (us : List Nd) (k : Nat) (v : V) (e : Ending) (w' : World) : Prop :=
  ∃ us' : List Nd, e = .returned (.agg #[.slice (some ⟨G, 0, none⟩) us.length xc]) ∧ NL us' (addN us k v) ∧ GRow base w' (.slice (some ⟨G, 0, none⟩) us.length xc) us' ∧ Turn (TouchC w base) w w'
theorem nl_refl (us : List Nd) : NL us us := ⟨rfl, fun i x y hx hy => by rw [hx] at hy; injection hy with hy; subst hy; exact ⟨rfl, like_refl _, rfl, like_refl _⟩⟩
/-- A version with a key and causes as a valid one has; a node with room for such. -/
def shV (v : V) : Prop := (0 ≤ v.k ∧ v.k ≤ 3) ∧ v.ts.length = 4
def shN (n : Nd) : Prop := n.ss.length = 4 ∧ n.ws.length ≤ 6 ∧ ∀ v ∈ n.ws, shV v
end Go.Proofs.YtjnloillcgeodaaGreat
/- Contract of the program's apply where the version is not later: nothing changes. Condition: at most four nodes, the node valid. -/
namespace Go.Proofs.YtjnloillcgeodaaGreat
open Go.RowKit Go.Joins
attribute [local go_sem ↓] Go.wp_at_zero Go.wp_at_succ

/-- What apply leaves. -/
def AppliedC (w : World) (base G xc : Nat) (us : List Nd) (k : Nat) (v : V) (e : Ending) (w' : World) : Prop :=
  ∃ us' : List Nd, e = .returned (.tuple #[]) ∧ NL us' (addN us k v) ∧ GRow base w' (.slice (some ⟨G, 0, none⟩) us.length xc) us' ∧ Turn (TouchC w base) w w'
end Go.Proofs.YtjnloillcgeodaaGreat
/- A copy of a version put into a row: its causes are new. No condition. -/
namespace Go.Proofs.YtjnloillcgeodaaGreat
open Go.RowKit Go.Joins

end Go.Proofs.YtjnloillcgeodaaGreat
/- Contract of the program's apply where the version is later: it comes into the store and, unless the node is the last, waits there. Condition: at most four nodes, the node valid. -/
namespace Go.Proofs.YtjnloillcgeodaaGreat
open Go.RowKit Go.Joins
attribute [local go_sem ↓] Go.wp_at_zero Go.wp_at_succ

end Go.Proofs.YtjnloillcgeodaaGreat
/- Contract of the program's ChainPut. Condition: sizes that memory holds. -/
namespace Go.Proofs.YtjnloillcgeodaaGreat
open Go.RowKit Go.Joins
attribute [local go_sem ↓] Go.wp_at_zero Go.wp_at_succ

end Go.Proofs.YtjnloillcgeodaaGreat
/- Contract of the model's ChainPut. Condition: sizes that memory holds. -/
namespace Go.Proofs.YtjnloillcgeodaaGreat
open Go.RowKit Go.Joins
attribute [local go_sem ↓] Go.wp_at_zero Go.wp_at_succ

theorem ResN.set {w : World} {B U : Nat} {A : Option Addr} {us : List Nd} (h : ResN w B U A us) {p : Addr} (hp : p.block < B ∨ U ≤ p.block) (u : Value) : ResN (w.setCell p u) B U A us :=
  h.turn (P := fun g => g = p.block) ((Turn.refl (fun g => g = p.block) w).set (p := p) rfl u) (fun g h1 h2 e => by omega)
theorem ResN.swap {w : World} {B U : Nat} {A : Option Addr} {us : List Nd} {o o' : Obj} (h : ResN (w.alloc o) B U A us) (hU : U ≤ w.heap.size) : ResN (w.alloc o') B U A us := by
  have ht : Turn (fun g => g = w.heap.size) (w.alloc o) (w.alloc o') := ⟨rfl, rfl, rfl, by simp, fun k hk hn => by
    have hk' : k < w.heap.size := by simp at hk; omega
    rw [Below.heap_alloc w o' k hk', Below.heap_alloc w o k hk']⟩
  exact h.turn ht (fun g h1 h2 e => by omega)
theorem NRow.low {w : World} {B B' U G : Nat} {ns : List Nd} {cur : Array Value} (h : NRow w B U G ns cur) (hb : B' ≤ B) : NRow w B' U G ns cur :=
  ⟨h.blk, Nat.le_trans hb h.lo, h.hi, h.size, h.at', fun i n hi => (h.store i n hi).low hb, fun i n hi => (h.wait i n hi).low hb, h.two, h.apart⟩
theorem cloned_at {W w' : World} {ns : List Nd} {e : Ending} (h : ClonedC W ns e w') (hok : chainB ns = true) : ∃ (G xc : Nat) (us : List Nd), e = .returned (.agg #[.slice (some ⟨G, 0, none⟩) us.length xc]) ∧ NL us ns ∧ us.length ≤ 4 ∧ (∀ (i : Nat) n, us[i]? = some n → nodeB n = true) ∧ 1 ≤ us.length ∧ GRow W.heap.size w' (.slice (some ⟨G, 0, none⟩) us.length xc) us ∧ Below W.heap.size W w' := by
  obtain ⟨x, us, rfl, hul, hgr, hb⟩ := h
  obtain ⟨xa, xc, rfl⟩ := hgr.form
  have hcu : chainB us = true := (chainB_like hul).trans hok
  obtain ⟨⟨h1, h4⟩, hB, -⟩ := chainB_parts hcu
  obtain ⟨_, hR⟩ := hgr.res
  rcases hR with h0 | ⟨G, cur, rfl, hR⟩
  · rw [h0] at h1; simp at h1
  exact ⟨G, xc, us, rfl, hul, h4, hB, h1, hgr, hb⟩
end Go.Proofs.YtjnloillcgeodaaGreat
/- A slice put behind one that is the call's own: it may be empty. No condition. -/
namespace Go.Proofs.YtjnloillcgeodaaGreat
open Go.RowKit Go.Joins
attribute [local go_sem ↓] Go.wp_at_zero Go.wp_at_succ

section
variable {P : Program} (w : World)
theorem run_append_more (t ty : TypeId) (base : Nat) (e : TypeId) (i : TypeInfo) (z : Value) (size bytes : Nat) (ht : P.underlying t = some (.slice e)) (hi : P.info? e = some i) (hz : i.zero = some z)
    (hsize : i.size = size) (hby : i.bytes = bytes) (hzs : z.cells.size = size) (hsz : 0 < size)
    (g0 n c0 : Nat) (xs : List Value) (hown : w.ownsRow base e size (.slice (some ⟨g0, 0, none⟩) n c0) n xs)
    (ax : Option Addr) (m c : Nat) (news : List Value) (hl : news.length = m * size) (hax : m ≠ 0 → ∃ ad, ax = some ad ∧ ∀ j u, news[j]? = some u → w.cell? (ad.add j) = some u) (h1 : ∀ u ∈ news, u.oneCell' = true)
    (h63 : n + m ≤ maxLen) (hbytes : (n + m) * bytes ≤ 140737488355328) (hbase : base ≤ w.heap.size) (H : Nat) (hH : w.heap.size = H) :
    ∃ g cap w', (Builtin.append_ #[t, t] ty #[.slice (some ⟨g0, 0, none⟩) n c0, .slice ax m c]).run P w = .ok (.slice (some ⟨g, 0, none⟩) (n + m) cap) w' ∧
      w'.ownsRow base e size (.slice (some ⟨g, 0, none⟩) (n + m) cap) (n + m) (xs ++ news) ∧ w.grownBy w' (some g0) ∧ (g = g0 ∨ g = H) := by
  by_cases h0 : m = 0
  · subst h0
    have hn : news = [] := List.length_eq_zero_iff.1 (by omega)
    subst hn
    have hc : n ≤ c0 := by
      rcases hown.2 with ⟨q, _⟩ | ⟨g, cap, cr, q, _, _, h3, _⟩
      · cases q
      · injection q with _ _ q
        omega
    refine ⟨g0, c0, w, ?_, by simpa using hown, ⟨rfl, rfl, rfl, Nat.le_refl _, fun _ _ _ => rfl⟩, .inl rfl⟩
    cases ax <;> simp [Builtin.append_, run_underlying ht, sizeOf, typeInfo, hi, Builtin.lenOf, Builtin.firstCells, storeCells, loadCells, loadCellsFrom, hc]
  · obtain ⟨ad, rfl, hnews⟩ := hax h0
    obtain ⟨g, cap, w', hr, h2, h3, h4, _⟩ := run_append_lies (P := P) w t ty base e i z size bytes ht hi hz hsize hby hzs hsz _ n xs hown ad m c news hl hnews h1 (by omega) h63 hbytes hbase H hH
    refine ⟨g, cap, w', hr, h2, h3, ?_⟩
    rcases h4 with h4 | h4
    · simp only [Value.ownBlock] at h4
      injection h4 with h4
      exact .inl h4.symm
    · exact .inr h4
theorem wp_append_more {o : Oper} {a : Act} {K : Act → World → Prop} {Q : Exit → Act → World → Prop} (s x : Operand) (t : TypeId)
    (ho : o.op = .call { callee := .builtin .append, args := #[s, x], argTypes := #[t, t] })
    (base : Nat) (e : TypeId) (i : TypeInfo) (z : Value) (size bytes : Nat) (ht : P.underlying t = some (.slice e)) (hi : P.info? e = some i) (hz : i.zero = some z)
    (hsize : i.size = size) (hby : i.bytes = bytes) (hzs : z.cells.size = size) (hsz : 0 < size)
    (g0 n c0 : Nat) (xs : List Value) (hs : a.eval s = .slice (some ⟨g0, 0, none⟩) n c0) (hown : w.ownsRow base e size (.slice (some ⟨g0, 0, none⟩) n c0) n xs)
    (ax : Option Addr) (m c : Nat) (news : List Value) (hx : a.eval x = .slice ax m c) (hl : news.length = m * size) (hax : m ≠ 0 → ∃ ad, ax = some ad ∧ ∀ j u, news[j]? = some u → w.cell? (ad.add j) = some u) (h1 : ∀ u ∈ news, u.oneCell' = true)
    (h63 : n + m ≤ maxLen) (hbytes : (n + m) * bytes ≤ 140737488355328) (hbase : base ≤ w.heap.size) (H : Nat) (hH : w.heap.size = H)
    (h : ∀ g cap w', w'.ownsRow base e size (.slice (some ⟨g, 0, none⟩) (n + m) cap) (n + m) (xs ++ news) → w.grownBy w' (some g0) → (g = g0 ∨ g = H) → K (a.put o.dst (.slice (some ⟨g, 0, none⟩) (n + m) cap)) w') : o.wp P a w K Q := by
  obtain ⟨g, cap, w', hr, h2, h3, h4⟩ := run_append_more (P := P) w t o.type base e i z size bytes ht hi hz hsize hby hzs hsz g0 n c0 xs hown ax m c news hl hax h1 h63 hbytes hbase H hH
  unfold Oper.wp execOp
  simp only [ho, resolve, invoke, builtin, Sem.run_bind, Sem.run_pure, Result.andThen_ok, List.map_toArray, List.map_cons, List.map_nil, hs, hx, hr]
  exact h g cap w' h2 h3 h4
theorem wpList_append_more {ops : Array Oper} {rest : List Oper} {o : Oper} {a : Act} {Q : Exit → Act → World → Prop} (hgd : o.guard = none) (s x : Operand) (t : TypeId)
    (ho : o.op = .call { callee := .builtin .append, args := #[s, x], argTypes := #[t, t] })
    (base : Nat) (e : TypeId) (i : TypeInfo) (z : Value) (size bytes : Nat) (ht : P.underlying t = some (.slice e)) (hi : P.info? e = some i) (hz : i.zero = some z)
    (hsize : i.size = size) (hby : i.bytes = bytes) (hzs : z.cells.size = size) (hsz : 0 < size)
    (g0 n c0 : Nat) (xs : List Value) (hs : a.eval s = .slice (some ⟨g0, 0, none⟩) n c0) (hown : w.ownsRow base e size (.slice (some ⟨g0, 0, none⟩) n c0) n xs)
    (ax : Option Addr) (m c : Nat) (news : List Value) (hx : a.eval x = .slice ax m c) (hl : news.length = m * size) (hax : m ≠ 0 → ∃ ad, ax = some ad ∧ ∀ j u, news[j]? = some u → w.cell? (ad.add j) = some u) (h1 : ∀ u ∈ news, u.oneCell' = true)
    (h63 : n + m ≤ maxLen) (hbytes : (n + m) * bytes ≤ 140737488355328) (hbase : base ≤ w.heap.size) (H : Nat) (hH : w.heap.size = H)
    (h : ∀ g cap w', w'.ownsRow base e size (.slice (some ⟨g, 0, none⟩) (n + m) cap) (n + m) (xs ++ news) → w.grownBy w' (some g0) → (g = g0 ∨ g = H) → wpList P ops Q rest (a.put o.dst (.slice (some ⟨g, 0, none⟩) (n + m) cap)) w') : wpList P ops Q (o :: rest) a w :=
  wpList_plain hgd fun _ hK => wp_append_more w s x t ho base e i z size bytes ht hi hz hsize hby hzs hsz g0 n c0 xs hs hown ax m c news hx hl hax h1 h63 hbytes hbase H hH fun g cap w' h2 h3 h4 => hK _ _ (h g cap w' h2 h3 h4)
theorem step_append_more {ops : Array Oper} {o : Oper} {a : Act} {K : Act → World → Prop} {Q : Exit → Act → World → Prop} {E : Prop} (hgd : o.guard = none) (s x : Operand) (t : TypeId)
    (ho : o.op = .call { callee := .builtin .append, args := #[s, x], argTypes := #[t, t] })
    (base : Nat) (e : TypeId) (i : TypeInfo) (z : Value) (size bytes : Nat) (ht : P.underlying t = some (.slice e)) (hi : P.info? e = some i) (hz : i.zero = some z)
    (hsize : i.size = size) (hby : i.bytes = bytes) (hzs : z.cells.size = size) (hsz : 0 < size)
    (g0 n c0 : Nat) (xs : List Value) (hs : a.eval s = .slice (some ⟨g0, 0, none⟩) n c0) (hown : w.ownsRow base e size (.slice (some ⟨g0, 0, none⟩) n c0) n xs)
    (ax : Option Addr) (m c : Nat) (news : List Value) (hx : a.eval x = .slice ax m c) (hl : news.length = m * size) (hax : m ≠ 0 → ∃ ad, ax = some ad ∧ ∀ j u, news[j]? = some u → w.cell? (ad.add j) = some u) (h1 : ∀ u ∈ news, u.oneCell' = true)
    (h63 : n + m ≤ maxLen) (hbytes : (n + m) * bytes ≤ 140737488355328) (hbase : base ≤ w.heap.size) (H : Nat) (hH : w.heap.size = H)
    (h : ∀ g cap w', w'.ownsRow base e size (.slice (some ⟨g, 0, none⟩) (n + m) cap) (n + m) (xs ++ news) → w.grownBy w' (some g0) → (g = g0 ∨ g = H) → K (a.put o.dst (.slice (some ⟨g, 0, none⟩) (n + m) cap)) w') :
    if Region.wanted o (yielded ops a.tmps) = true then Oper.wp P o a w K Q else E := by
  have hw : Region.wanted o (yielded ops a.tmps) = true := by simp [Region.wanted, hgd]
  rw [if_pos hw]
  exact wp_append_more w s x t ho base e i z size bytes ht hi hz hsize hby hzs hsz g0 n c0 xs hs hown ax m c news hx hl hax h1 h63 hbytes hbase H hH h
end
end Go.Proofs.YtjnloillcgeodaaGreat
