/- Contract of a copy of a chain, in the model. Condition: sizes that memory holds. -/
import Derived.Test.YtjnloillcgeodaaJChainClone
import Derived.Test.YtjnloillcgeodaaJChainSpec3
import Derived.Test.YtjnloillcgeodaaJChainCopy
import Derived.Test.YtjnloillcgeodaaJStoreNew0
namespace Go.Proofs.Ytjnloillcgeodaa
open Go.RowKit Go.Joins
attribute [local go_sem ↓] Go.wp_at_zero Go.wp_at_succ

set_option maxRecDepth 100000 in
set_option maxHeartbeats 8000000 in
theorem l3Copy_any (A : Option Addr) (c : Nat) (ns : List Nd) (w : World) (hn : ns.length ≤ 1048576) (hm : SmN ns) (hC : CgA w A ns) :
    Calls Try.prog 36 #[.agg #[.slice A ns.length c]] w (ClonedC w ns) := by
  obtain ⟨i0, hi0, hz0, hz1, hz2⟩ := info_parts node_info
  have I0 := hide hi0
  have I1 := hide hz0
  have I2 := hide hz1
  have I3 := hide hz2
  clear hi0 hz0 hz1 hz2
  obtain ⟨j0, hj0, hy0, hy1, hy2⟩ := info_parts ver_info
  have J0 := hide hj0
  have J1 := hide hy0
  have J2 := hide hy1
  have J3 := hide hy2
  clear hj0 hy0 hy1 hy2
  have HM := hide hm
  have HC := hide hC
  clear hm hC
  generalize hnn : ns.length = n at *
  have HN := hide hnn
  clear hnn
  have S0 := ((Inv.start w).box 25 #[.slice A n c]).box 25 #[.slice none 0 0]
  have V0 := Blk.made ((w.alloc (.cells #[.slice A n c] 25)).alloc (.cells #[.slice none 0 0] 25)) 25 #[.slice none 0 0]
  have S1 := S0.alloc (.cells #[.slice none 0 0] 25)
  simp only [World.size_alloc] at S1 V0
  have HC0 := hide (GRow.start (w.heap.size + 1 + 1 + 1) (((w.alloc (.cells #[.slice A n c] 25)).alloc (.cells #[.slice none 0 0] 25)).alloc (.cells #[.slice none 0 0] 25)) (by simp))
  clear S0
  go_enter Try.func36, Try.ntmps36
  go_wp2
  go_loopw [4] (fun i wr => ∃ (k : Nat) (x : Value) (us : List Nd), k ≤ n ∧ i = .int .i64 (k : Int) ∧ Blk wr (w.heap.size + 1 + 1) 25 #[x] ∧ Hid (us.length = k) ∧ Hid (∀ (i : Nat) v v', us[i]? = some v → ns[i]? = some v' → Nd.like v v') ∧ Hid (GRow (w.heap.size + 1 + 1 + 1) wr x us) ∧ Inv w (w.heap.size + 1 + 1) [(w.heap.size + 1, 25, #[.slice none 0 0]), (w.heap.size, 25, #[.slice A n c])] wr) (fun i _ => n - (intOf i).toNat)
  case atStart => exact ⟨0, _, [], Nat.zero_le _, rfl, V0, rfl, fun i v v' hi => by simp at hi, HC0.out, S1⟩
  case round =>
    rename World => wo
    obtain ⟨k, x, us, hk, rfl, hV, HU, HL, HG, hI⟩ := hrel
    clear S1 V0 HC0
    have c0 := (hI.nth 1 rfl).one.1
    by_cases hlt : k < n
    · rcases HC.out with h0 | ⟨G, cur, rfl, hCG⟩
      · have := HN.out; rw [h0] at this; simp at this; omega
      have hkl : k < ns.length := by have := HN.out; omega
      have HX := hide (List.getElem?_eq_getElem hkl)
      generalize ns[k] = nd at HX
      have HMM := hide (HM.out k nd HX.out)
      have HCr := hCG.on hI.below
      have n0 : wo.cell? ⟨G, k * 2, none⟩ = some (.slice nd.sa nd.ss.length nd.sc) := (HCr.blk.at _).trans (HCr.at' k nd HX.out).1
      have HN1 := hide (show ∀ W, Below wo.heap.size wo W → W.cell? ⟨G, k * 2 + 1, none⟩ = some (.slice nd.wa nd.ws.length nd.wc) from fun W hW => ((HCr.on hW).blk.at _).trans (HCr.at' k nd HX.out).2)
      have HVG := hide (HCr.store k nd HX.out)
      have HWG := hide (HCr.wait k nd HX.out)
      have i1 : (0 : Int) ≤ (k : Int) := by omega
      have i2 : (k : Int) < (n : Int) := by omega
      obtain ⟨xa, xc, rfl⟩ := HG.out.form
      obtain ⟨sa, sc, ss, wa, wc, ws⟩ := nd
      simp only at n0 HN1 HVG HWG HMM
      have CT := hide (l2CopyStore_any sa sc ss wo HMM.out.1.1 (fun v hv => (HMM.out.2.1 v hv).1) HVG.out)
      have HI := hide hI
      have HVB := hide hV
      have hgl := hCG.blk.inside
      clear HCr hCG hI hV
      go_wp2_with fail
      with_reducible refine CT.out.mono ?_
      rintro e w1 ⟨x1, us1, rfl, hul, hli, hcr, hb1⟩
      obtain ⟨A1, cap1, rfl, hR1⟩ := hcr.resS
      have HL1 : Hid (LL us1 ss) := ⟨hul, hli⟩
      have HR1 := hide hR1
      have z1 := hb1.size
      have HB1 := hide hb1
      have zr := HI.out.room
      have zb := HI.out.base
      clear hR1 hcr hul hli CT n0 c0 hb1
      have N0 := Blk.made w1 45 #[.slice A1 us1.length cap1, .slice none 0 0]
      have BA := hide (below_alloc1 w1 (.cells #[.slice A1 us1.length cap1, .slice none 0 0] 45))
      have HC1 := hide (CRow.start (w1.heap.size + 1) (w1.alloc (.cells #[.slice A1 us1.length cap1, .slice none 0 0] 45)) (by simp))
      have HVS : Hid (∀ v ∈ ws, v.ts.length ≤ 1048576) := fun v hv => (HMM.out.2.2 v hv).1
      have hws := HMM.out.1.2
      have HC0 : Hid (∀ W, Below w1.heap.size w1 W → W.cell? ⟨w.heap.size, 0, none⟩ = some (.slice (some ⟨G, 0, none⟩) n c)) := fun W hW => ((((HI.out.on HB1.out).nth 1 rfl).on hW).one.1)
      have HN2 : Hid (∀ W, Below w1.heap.size w1 W → W.cell? ⟨G, k * 2 + 1, none⟩ = some (.slice wa ws.length wc)) := fun W hW => HN1.out W (HB1.out.trans (hW.mono z1))
      generalize hnw : ws.length = nw at *
      have HNW := hide hnw
      clear hnw
      go_wp2
      go_loopw [6] (fun i wi => ∃ (q : Nat) (y : Value) (vs : List V), q ≤ nw ∧ i = .int .i64 (q : Int) ∧ Blk wi w1.heap.size 45 #[.slice A1 us1.length cap1, y] ∧ Hid (vs.length = q) ∧ Hid (Like vs ws) ∧ Hid (CRow (w1.heap.size + 1) wi y vs) ∧ Below w1.heap.size w1 wi) (fun i _ => nw - (intOf i).toNat)
      case atStart => exact ⟨0, _, [], Nat.zero_le _, rfl, N0, rfl, fun i v v' hi => by simp at hi, HC1.out, BA.out⟩
      case round =>
        obtain ⟨q, y, vs, hq, rfl, hN, HV', HLv, HCv, hBw⟩ := hrel
        clear N0 HC1
        have c1 := HC0.out _ hBw
        have n1 := HN2.out _ hBw
        by_cases hltq : q < nw
        · rcases HWG.out with h0 | ⟨b, off, rfl, hb, hx⟩
          · have := HNW.out; subst h0; simp at this; omega
          have hql : q < ws.length := by have := HNW.out; omega
          obtain ⟨hS, hT⟩ := hx q _ (List.getElem?_eq_getElem hql)
          have HY := hide (List.getElem?_eq_getElem hql)
          generalize ws[q] = v at hS hT HY
          have HBv := hide (HVS.out v (List.mem_of_getElem? HY.out))
          have HBO : Hid (∀ W, Below w1.heap.size w1 W → Below wo.heap.size wo W) := fun W hW => HB1.out.trans (hW.mono z1)
          have Q := hide (show ∀ W, Below w1.heap.size w1 W → Six W b (off + q * 6) v from fun W hW => hS.keep hb fun _ hp => (HBO.out W hW).cell hp)
          have HT := hide (show ∀ W, Below w1.heap.size w1 W → Tg W W.heap.size v.a v.ts from fun W hW => (hT.on (HBO.out W hW)).up (HBO.out W hW).size)
          have jh : ∀ {W : World}, Below w1.heap.size w1 W → W.cell? ⟨w.heap.size, 0, none⟩ = some (.slice (some ⟨G, 0, none⟩) n c) ∧ W.cell? ⟨G, k * 2 + 1, none⟩ = some (.slice (some ⟨b, off, none⟩) nw wc) ∧ Six W b (off + q * 6) v ∧ Below w1.heap.size w1 W := fun hW => ⟨HC0.out _ hW, HN2.out _ hW, Q.out _ hW, hW⟩
          have i3 : (0 : Int) ≤ (q : Int) := by omega
          have i4 : (q : Int) < (nw : Int) := by omega
          obtain ⟨ya, yn, yc, rfl⟩ := HCv.out.form
          have HVT := hide (HCv.out.typed)
          have hlo := HCv.out.lo
          have hN2' : Hid (Blk wr w1.heap.size 45 #[.slice A1 us1.length cap1, .slice ya yn yc]) := hN
          have V1 := hN.drew
          have q1 : wr.drew.cell? ⟨w1.heap.size, 1, none⟩ = some (.slice ya yn yc) := V1.at 1
          have C1 := hide (HCv.out.on (Below.refl _ _).drew)
          have zq := hBw.size
          clear hS hT hx
          go_wp2_with fail
          clear c1 n1
          refine wp_region_noPanic ?_
          refine wp_region_held_drew (S := (fun w' => w'.cell? ⟨w.heap.size, 0, none⟩ = some (.slice (some ⟨G, 0, none⟩) n c) ∧ w'.cell? ⟨G, k * 2 + 1, none⟩ = some (.slice (some ⟨b, off, none⟩) nw wc) ∧ Six w' b (off + q * 6) v ∧ Below w1.heap.size w1 w')) (by kernel_rfl) (by exact jh hBw.drew) (fun hHeld => ?_)
          refine take_run 0 (some 34) (v := ?_) rfl rfl (by kernel_rfl) (by kernel_rfl) (by kernel_rfl) (fun _ _ _ h => h) (by rfl) ?_ hHeld ?_
          rotate_left
          · ((intro w hSw); (try dsimp only at hSw); go_simp <;> with_reducible rfl)
          simp only [Act.put, List.setIfInBounds_toArray, List.set_cons_zero, List.set_cons_succ]
          refine take_run 2 (some 36) (v := ?_) rfl rfl (by kernel_rfl) (by kernel_rfl) (by kernel_rfl) (fun _ _ _ h => h) (by rfl) ?_ hHeld ?_
          rotate_left
          · ((intro w hSw); (try dsimp only at hSw); go_simp <;> with_reducible rfl)
          simp only [Act.put, List.setIfInBounds_toArray, List.set_cons_zero, List.set_cons_succ]
          refine take_run 3 (some 37) (v := ?_) rfl rfl (by kernel_rfl) (by kernel_rfl) (by kernel_rfl) (fun _ _ _ h => h) (by rfl) ?_ hHeld ?_
          rotate_left
          · ((intro w hSw); (try dsimp only at hSw); go_simp <;> with_reducible rfl)
          simp only [Act.put, List.setIfInBounds_toArray, List.set_cons_zero, List.set_cons_succ]
          refine take_run 4 (some 38) (v := ?_) rfl rfl (by kernel_rfl) (by kernel_rfl) (by kernel_rfl) (fun _ _ _ h => h) (by rfl) ?_ hHeld ?_
          rotate_left
          · ((intro w hSw); (try dsimp only at hSw); go_simp <;> with_reducible rfl)
          simp only [Act.put, List.setIfInBounds_toArray, List.set_cons_zero, List.set_cons_succ]
          refine take_run 5 (some 39) (v := ?_) rfl rfl (by kernel_rfl) (by kernel_rfl) (by kernel_rfl) (fun _ _ _ h => h) (by rfl) ?_ hHeld ?_
          rotate_left
          · ((intro w hSw); (try dsimp only at hSw); go_simp <;> with_reducible rfl)
          simp only [Act.put, List.setIfInBounds_toArray, List.set_cons_zero, List.set_cons_succ]
          refine take_run 6 (some 40) (v := ?_) rfl rfl (by kernel_rfl) (by kernel_rfl) (by kernel_rfl) (fun _ _ _ h => h) (by rfl) ?_ hHeld ?_
          rotate_left
          · ((intro w hSw); (try dsimp only at hSw); go_simp <;> with_reducible rfl)
          simp only [Act.put, List.setIfInBounds_toArray, List.set_cons_zero, List.set_cons_succ]
          refine take_run 7 (some 41) (v := ?_) rfl rfl (by kernel_rfl) (by kernel_rfl) (by kernel_rfl) (fun _ _ _ h => h) (by rfl) ?_ hHeld ?_
          rotate_left
          · ((intro w hSw); (try dsimp only at hSw); go_simp <;> with_reducible rfl)
          simp only [Act.put, List.setIfInBounds_toArray, List.set_cons_zero, List.set_cons_succ]
          refine take_run 8 (some 42) (v := ?_) rfl rfl (by kernel_rfl) (by kernel_rfl) (by kernel_rfl) (fun _ _ _ h => h) (by rfl) ?_ hHeld ?_
          rotate_left
          · ((intro w hSw); (try dsimp only at hSw); go_simp <;> with_reducible rfl)
          simp only [Act.put, List.setIfInBounds_toArray, List.set_cons_zero, List.set_cons_succ]
          refine take_run 9 (some 43) (v := ?_) rfl rfl (by kernel_rfl) (by kernel_rfl) (by kernel_rfl) (fun _ _ _ h => h) (by rfl) ?_ hHeld ?_
          rotate_left
          · ((intro w hSw); (try dsimp only at hSw); go_simp <;> with_reducible rfl)
          simp only [Act.put, List.setIfInBounds_toArray, List.set_cons_zero, List.set_cons_succ]
          refine take_run 10 (some 44) (v := ?_) rfl rfl (by kernel_rfl) (by kernel_rfl) (by kernel_rfl) (fun _ _ _ h => h) (by rfl) ?_ hHeld ?_
          rotate_left
          · ((intro w hSw); (try dsimp only at hSw); go_simp <;> with_reducible rfl)
          simp only [Act.put, List.setIfInBounds_toArray, List.set_cons_zero, List.set_cons_succ]
          refine wpAnyH_ready (rs := [1, 11]) (by kernel_rfl) (by simp) ?_
          refine AllReadyH.cons rfl (fun K hK => ?_) (AllReadyH.cons rfl (fun K hK => ?_) AllReadyH.nil)
          · skip
            go_simp
            refine hK.out _ _ (by exact hHeld) (fun hHeld => ?_)
            clear hK K
            refine take_one 11 (by kernel_rfl) rfl (fun K hK => ?_)
            go_simp
            (refine (l2Copy_any v _ HBv.out (HT.out _ hHeld.2.2.2)).mono ?_; rintro e w5 ⟨v', rfl, hlike, hown, hb5⟩; have C2 := hide (C1.out.on hb5); have V2 := V1.on hb5; have HLI := hide hlike; have HOW := hide hown; have z5 : wr.heap.size ≤ w5.heap.size := (by have := hb5.size; simpa using this); have HR := hide (show w5.ownsRow (w1.heap.size + 1) 32 6 (.slice ya yn yc) q (flat6 vs) by have := C2.out.row; rw [HV'.out] at this; exact this); have HB5 := hide hb5; have q2 : w5.cell? ⟨w1.heap.size, 1, none⟩ = some (.slice ya yn yc) := V2.at 1; have q4 : (w5.alloc (.cells (verC v'.k v'.t v'.u v'.a v'.ts.length v'.c v'.s v'.g) 32)).cell? ⟨w1.heap.size, 1, none⟩ = some (.slice ya yn yc) := (V2.more _).at 1)
            try go_wp2_with fail
            refine hK.out _ _ (by exact jh (hHeld.2.2.2.trans (HB5.out.mono hHeld.2.2.2.size))) (fun hHeld => ?_)
            clear hK K
            refine take_one 12 (by kernel_rfl) rfl (fun K hK => ?_)
            go_simp
            refine hK.out _ _ (by exact jh (hHeld.2.2.2.alloc hHeld.2.2.2.size _)) (fun hHeld => ?_)
            clear hK K
            refine take_one 13 (by kernel_rfl) rfl (fun K hK => ?_)
            (refine step_append_lies _ (by rfl) _ _ _ (by rfl) (w1.heap.size + 1) 32 j0 _ 6 72 Try.underlying41 J0.out J1.out J2.out J3.out rfl (by omega) (.slice ya yn yc) q (flat6 vs) (by rfl) (HR.out.alloc _) ⟨w5.heap.size, 0, none⟩ 1 1 (cells6 v') (by rfl) (by rfl) (World.news_of_block (cs := verC v'.k v'.t v'.u v'.a v'.ts.length v'.c v'.s v'.g) (t := 32) (fr := (0, 0)) (heap_alloc_new w5 _)) (by simp [cells6, Value.oneCell']) (by omega) (by unfold maxLen; omega) (by omega) (by simp; omega) _ rfl ?_; intro g cap w6 hown2 hgrow hat hlt2; have V3 := (V2.more (.cells (verC v'.k v'.t v'.u v'.a v'.ts.length v'.c v'.s v'.g) 32)).kept hgrow (by intro e; have hq := HVT.out _ e; obtain ⟨_, _, h1, _⟩ := hq; omega); have q3 : w6.cell? ⟨w1.heap.size, 1, none⟩ = some (.slice ya yn yc) := V3.at 1; have f3 := V3.loose 1; have OW := hide hown2; have GW := hide hgrow; clear hown2)
            simp only [List.getElem_toArray, List.getElem_cons_zero, List.getElem_cons_succ, Act.put, List.setIfInBounds_toArray, List.set_cons_zero, List.set_cons_succ]
            refine hK.out _ _ (by exact jh (hHeld.2.2.2.grown hgrow hHeld.2.2.2.size (fun g' e => by have hq := HVT.out _ e; obtain ⟨_, _, h1, _⟩ := hq; omega))) (fun hHeld => ?_)
            clear hK K
            refine take_run 14 (some 48) (v := ?_) rfl rfl (by kernel_rfl) (by kernel_rfl) (by kernel_rfl) (fun _ _ _ h => h) (by rfl) ?_ hHeld ?_
            rotate_left
            · ((intro w hSw); (try dsimp only at hSw); go_simp <;> with_reducible rfl)
            simp only [Act.put, List.setIfInBounds_toArray, List.set_cons_zero, List.set_cons_succ]
            refine take_one 15 (by kernel_rfl) rfl (fun K hK => ?_)
            go_simp
            refine hK.out _ _ (by exact jh (hHeld.2.2.2.setCell (Nat.le_refl _) _)) (fun hHeld => ?_)
            clear hK K
            refine wpAnyH_done (by kernel_rfl) ?_ _
            refine NoPanic.normal ?_
            have I9 := hHeld.2.2.2
            have C9 := HCv.out.push (w1 := w5.alloc (.cells (verC v'.k v'.t v'.u v'.a v'.ts.length v'.c v'.s v'.g) 32)) (B := wr.heap.size) (v := v') (g := g) (cap := cap) (w2 := w6) (((Below.refl _ _).drew.trans (HB5.out.mono (Nat.le_refl _))).trans ((below_alloc1 w5 _).mono z5)) (Nat.le_refl _) ((HOW.out.on (below_alloc1 w5 _)).wide (by simp)) (by rw [HV'.out]; exact OW.out) GW.out
            rw [HV'.out] at C9
            have C10 := hide (C9.aside (p := ⟨w1.heap.size, 1, none⟩) V3 node_ne_tag (by simp only; omega) (.slice (some ⟨g, 0, none⟩) (q + 1) cap))
            have V9 := V3.put 1 (.slice (some ⟨g, 0, none⟩) (q + 1) cap)
            have HL9 := hide (like_step HLv.out HV'.out HY.out HLI.out)
            have HU9 : Hid ((vs ++ [v']).length = q + 1) := (by unfold Hid; rw [List.length_append, HV'.out]; rfl)
            clear hHeld V3 q3 q1 q2 q4 V1 V2 C9 C1 C2 HCv
            go_wp2
            exact ⟨⟨q + 1, _, _, by omega, by go_num, V9, HU9, HL9, C10, I9⟩, by simp [intOf]; omega⟩
          · skip
            go_simp
            (refine (l2Copy_any v _ HBv.out (HT.out _ hHeld.2.2.2)).mono ?_; rintro e w5 ⟨v', rfl, hlike, hown, hb5⟩; have C2 := hide (C1.out.on hb5); have V2 := V1.on hb5; have HLI := hide hlike; have HOW := hide hown; have z5 : wr.heap.size ≤ w5.heap.size := (by have := hb5.size; simpa using this); have HR := hide (show w5.ownsRow (w1.heap.size + 1) 32 6 (.slice ya yn yc) q (flat6 vs) by have := C2.out.row; rw [HV'.out] at this; exact this); have HB5 := hide hb5; have q2 : w5.cell? ⟨w1.heap.size, 1, none⟩ = some (.slice ya yn yc) := V2.at 1; have q4 : (w5.alloc (.cells (verC v'.k v'.t v'.u v'.a v'.ts.length v'.c v'.s v'.g) 32)).cell? ⟨w1.heap.size, 1, none⟩ = some (.slice ya yn yc) := (V2.more _).at 1)
            try go_wp2_with fail
            refine hK.out _ _ (by exact jh (hHeld.2.2.2.trans (HB5.out.mono hHeld.2.2.2.size))) (fun hHeld => ?_)
            clear hK K
            refine wpAnyH_ready (rs := [1, 12]) (by kernel_rfl) (by simp) ?_
            refine AllReadyH.cons rfl (fun K hK => ?_) (AllReadyH.cons rfl (fun K hK => ?_) AllReadyH.nil)
            · skip
              go_simp
              refine hK.out _ _ (by exact hHeld) (fun hHeld => ?_)
              clear hK K
              refine take_one 12 (by kernel_rfl) rfl (fun K hK => ?_)
              go_simp
              refine hK.out _ _ (by exact jh (hHeld.2.2.2.alloc hHeld.2.2.2.size _)) (fun hHeld => ?_)
              clear hK K
              refine take_one 13 (by kernel_rfl) rfl (fun K hK => ?_)
              (refine step_append_lies _ (by rfl) _ _ _ (by rfl) (w1.heap.size + 1) 32 j0 _ 6 72 Try.underlying41 J0.out J1.out J2.out J3.out rfl (by omega) (.slice ya yn yc) q (flat6 vs) (by rfl) (HR.out.alloc _) ⟨w5.heap.size, 0, none⟩ 1 1 (cells6 v') (by rfl) (by rfl) (World.news_of_block (cs := verC v'.k v'.t v'.u v'.a v'.ts.length v'.c v'.s v'.g) (t := 32) (fr := (0, 0)) (heap_alloc_new w5 _)) (by simp [cells6, Value.oneCell']) (by omega) (by unfold maxLen; omega) (by omega) (by simp; omega) _ rfl ?_; intro g cap w6 hown2 hgrow hat hlt2; have V3 := (V2.more (.cells (verC v'.k v'.t v'.u v'.a v'.ts.length v'.c v'.s v'.g) 32)).kept hgrow (by intro e; have hq := HVT.out _ e; obtain ⟨_, _, h1, _⟩ := hq; omega); have q3 : w6.cell? ⟨w1.heap.size, 1, none⟩ = some (.slice ya yn yc) := V3.at 1; have f3 := V3.loose 1; have OW := hide hown2; have GW := hide hgrow; clear hown2)
              simp only [List.getElem_toArray, List.getElem_cons_zero, List.getElem_cons_succ, Act.put, List.setIfInBounds_toArray, List.set_cons_zero, List.set_cons_succ]
              refine hK.out _ _ (by exact jh (hHeld.2.2.2.grown hgrow hHeld.2.2.2.size (fun g' e => by have hq := HVT.out _ e; obtain ⟨_, _, h1, _⟩ := hq; omega))) (fun hHeld => ?_)
              clear hK K
              refine take_run 14 (some 48) (v := ?_) rfl rfl (by kernel_rfl) (by kernel_rfl) (by kernel_rfl) (fun _ _ _ h => h) (by rfl) ?_ hHeld ?_
              rotate_left
              · ((intro w hSw); (try dsimp only at hSw); go_simp <;> with_reducible rfl)
              simp only [Act.put, List.setIfInBounds_toArray, List.set_cons_zero, List.set_cons_succ]
              refine take_one 15 (by kernel_rfl) rfl (fun K hK => ?_)
              go_simp
              refine hK.out _ _ (by exact jh (hHeld.2.2.2.setCell (Nat.le_refl _) _)) (fun hHeld => ?_)
              clear hK K
              refine wpAnyH_done (by kernel_rfl) ?_ _
              refine NoPanic.normal ?_
              have I9 := hHeld.2.2.2
              have C9 := HCv.out.push (w1 := w5.alloc (.cells (verC v'.k v'.t v'.u v'.a v'.ts.length v'.c v'.s v'.g) 32)) (B := wr.heap.size) (v := v') (g := g) (cap := cap) (w2 := w6) (((Below.refl _ _).drew.trans (HB5.out.mono (Nat.le_refl _))).trans ((below_alloc1 w5 _).mono z5)) (Nat.le_refl _) ((HOW.out.on (below_alloc1 w5 _)).wide (by simp)) (by rw [HV'.out]; exact OW.out) GW.out
              rw [HV'.out] at C9
              have C10 := hide (C9.aside (p := ⟨w1.heap.size, 1, none⟩) V3 node_ne_tag (by simp only; omega) (.slice (some ⟨g, 0, none⟩) (q + 1) cap))
              have V9 := V3.put 1 (.slice (some ⟨g, 0, none⟩) (q + 1) cap)
              have HL9 := hide (like_step HLv.out HV'.out HY.out HLI.out)
              have HU9 : Hid ((vs ++ [v']).length = q + 1) := (by unfold Hid; rw [List.length_append, HV'.out]; rfl)
              clear hHeld V3 q3 q1 q2 q4 V1 V2 C9 C1 C2 HCv
              go_wp2
              exact ⟨⟨q + 1, _, _, by omega, by go_num, V9, HU9, HL9, C10, I9⟩, by simp [intOf]; omega⟩
            · skip
              go_simp
              refine hK.out _ _ (by exact jh (hHeld.2.2.2.alloc hHeld.2.2.2.size _)) (fun hHeld => ?_)
              clear hK K
              refine take_one 1 (by kernel_rfl) rfl (fun K hK => ?_)
              go_simp
              refine hK.out _ _ (by exact hHeld) (fun hHeld => ?_)
              clear hK K
              refine take_one 13 (by kernel_rfl) rfl (fun K hK => ?_)
              (refine step_append_lies _ (by rfl) _ _ _ (by rfl) (w1.heap.size + 1) 32 j0 _ 6 72 Try.underlying41 J0.out J1.out J2.out J3.out rfl (by omega) (.slice ya yn yc) q (flat6 vs) (by rfl) (HR.out.alloc _) ⟨w5.heap.size, 0, none⟩ 1 1 (cells6 v') (by rfl) (by rfl) (World.news_of_block (cs := verC v'.k v'.t v'.u v'.a v'.ts.length v'.c v'.s v'.g) (t := 32) (fr := (0, 0)) (heap_alloc_new w5 _)) (by simp [cells6, Value.oneCell']) (by omega) (by unfold maxLen; omega) (by omega) (by simp; omega) _ rfl ?_; intro g cap w6 hown2 hgrow hat hlt2; have V3 := (V2.more (.cells (verC v'.k v'.t v'.u v'.a v'.ts.length v'.c v'.s v'.g) 32)).kept hgrow (by intro e; have hq := HVT.out _ e; obtain ⟨_, _, h1, _⟩ := hq; omega); have q3 : w6.cell? ⟨w1.heap.size, 1, none⟩ = some (.slice ya yn yc) := V3.at 1; have f3 := V3.loose 1; have OW := hide hown2; have GW := hide hgrow; clear hown2)
              simp only [List.getElem_toArray, List.getElem_cons_zero, List.getElem_cons_succ, Act.put, List.setIfInBounds_toArray, List.set_cons_zero, List.set_cons_succ]
              refine hK.out _ _ (by exact jh (hHeld.2.2.2.grown hgrow hHeld.2.2.2.size (fun g' e => by have hq := HVT.out _ e; obtain ⟨_, _, h1, _⟩ := hq; omega))) (fun hHeld => ?_)
              clear hK K
              refine take_run 14 (some 48) (v := ?_) rfl rfl (by kernel_rfl) (by kernel_rfl) (by kernel_rfl) (fun _ _ _ h => h) (by rfl) ?_ hHeld ?_
              rotate_left
              · ((intro w hSw); (try dsimp only at hSw); go_simp <;> with_reducible rfl)
              simp only [Act.put, List.setIfInBounds_toArray, List.set_cons_zero, List.set_cons_succ]
              refine take_one 15 (by kernel_rfl) rfl (fun K hK => ?_)
              go_simp
              refine hK.out _ _ (by exact jh (hHeld.2.2.2.setCell (Nat.le_refl _) _)) (fun hHeld => ?_)
              clear hK K
              refine wpAnyH_done (by kernel_rfl) ?_ _
              refine NoPanic.normal ?_
              have I9 := hHeld.2.2.2
              have C9 := HCv.out.push (w1 := w5.alloc (.cells (verC v'.k v'.t v'.u v'.a v'.ts.length v'.c v'.s v'.g) 32)) (B := wr.heap.size) (v := v') (g := g) (cap := cap) (w2 := w6) (((Below.refl _ _).drew.trans (HB5.out.mono (Nat.le_refl _))).trans ((below_alloc1 w5 _).mono z5)) (Nat.le_refl _) ((HOW.out.on (below_alloc1 w5 _)).wide (by simp)) (by rw [HV'.out]; exact OW.out) GW.out
              rw [HV'.out] at C9
              have C10 := hide (C9.aside (p := ⟨w1.heap.size, 1, none⟩) V3 node_ne_tag (by simp only; omega) (.slice (some ⟨g, 0, none⟩) (q + 1) cap))
              have V9 := V3.put 1 (.slice (some ⟨g, 0, none⟩) (q + 1) cap)
              have HL9 := hide (like_step HLv.out HV'.out HY.out HLI.out)
              have HU9 : Hid ((vs ++ [v']).length = q + 1) := (by unfold Hid; rw [List.length_append, HV'.out]; rfl)
              clear hHeld V3 q3 q1 q2 q4 V1 V2 C9 C1 C2 HCv
              go_wp2
              exact ⟨⟨q + 1, _, _, by omega, by go_num, V9, HU9, HL9, C10, I9⟩, by simp [intOf]; omega⟩
        · have hqn : q = nw := by omega
          subst hqn
          clear hltq
          obtain ⟨ya, yc, hy, hRy⟩ := HCv.out.resS
          obtain ⟨ya', yn', yc', hy'⟩ := HCv.out.form
          subst hy
          have HLV : Hid (LL vs ws) := ⟨HV'.out.trans HNW.out.symm, HLv.out⟩
          have HRY := hide hRy
          have V1 := (HVB.out.on (HB1.out.trans (hBw.mono z1)))
          have p1 := V1.one.1
          have p2 := hN.two.1
          have p3 := hN.two.2.1
          have GB := hide (HB1.out.trans (hBw.mono z1))
          have zq := hBw.size
          have hvl := HV'.out
          have HGT := hide (HG.out.typed)
          have hlo := HG.out.lo
          have HR := hide (show wr.ownsRow (w.heap.size + 1 + 1 + 1) 45 2 (.slice xa us.length xc) k (flatN us) by have := (HG.out.on GB.out).row; rw [HU.out] at this ⊢; exact this)
          have r1 := hide (HR1.out.on hBw)
          have HVV := hide V1
          have HIW := hide (HI.out.on GB.out)
          have HCY := hide HCv.out
          clear hN hRy hy' V1 HCv HLv hvl
          go_wp2_with (at_builtin; (refine wpList_append_lies _ rfl (.tmp 50) (.tmp 52) 23 rfl (w.heap.size + 1 + 1 + 1) 45 i0 _ 2 48 Try.underlying23 I0.out I1.out I2.out I3.out rfl (by omega) (.slice xa us.length xc) k (flatN us) rfl (HR.out.alloc _) ⟨wr.heap.size, 0, none⟩ 1 1 (cellsN ⟨A1, cap1, us1, ya, yc, vs⟩) rfl rfl (World.news_of_block (cs := #[.slice A1 us1.length cap1, .slice ya vs.length yc]) (by simpa using heap_alloc_new wr (.cells #[.slice A1 us1.length cap1, .slice ya vs.length yc] 45))) (by simp [cellsN, Value.oneCell']) (by omega) (by unfold maxLen; omega) (by omega) (by simp; omega) _ rfl ?_; intro g2 cap2 w2 hown2 hgrow hat hlt2; have V3 := (HVV.out.more (.cells #[.slice A1 us1.length cap1, .slice ya vs.length yc] 45)).kept hgrow (by intro e; have hq := HGT.out _ e; obtain ⟨_, _, h1, _⟩ := hq; omega); have q3 := V3.one; have HV3 := hide V3; have OW := hide hown2; have GW := hide hgrow; clear hown2 hgrow hat V3))
          have C9 := HG.out.push (w1 := wr.alloc (.cells #[.slice A1 us1.length cap1, .slice ya vs.length yc] 45)) (v := ⟨A1, cap1, us1, ya, yc, vs⟩) (g := g2) (cap := cap2) (w2 := w2) (GB.out.trans ((below_alloc1 wr _).mono GB.out.size)) (((r1.out.wide zq).on (below_alloc1 wr _)).wide (by simp)) (((HRY.out.low (by omega)).on (below_alloc1 wr _)).wide (by simp)) (fun g h1 h2 => h2.elim (fun h2 => by have := r1.out.foot h1; have := HRY.out.foot h2; omega) (fun h2 => by have := r1.out.foot h1; obtain ⟨_, _, h3, _⟩ := HCY.out.typed g h2; omega)) ((HCY.out.down (by omega)).on (below_alloc1 wr _)) (by rw [HU.out]; exact OW.out) GW.out
          rw [HU.out] at C9
          have C10 := C9.aside (p := ⟨w.heap.size + 1 + 1, 0, none⟩) (by simp only; omega) (.slice (some ⟨g2, 0, none⟩) (k + 1) cap2)
          have V9 := HV3.out.put 0 (.slice (some ⟨g2, 0, none⟩) (k + 1) cap2)
          have HL9 := nl_snoc (v := ⟨A1, cap1, us1, ya, yc, vs⟩) HL.out HU.out HX.out ⟨HL1.out.1, HL1.out.2, HLV.out.1, HLV.out.2⟩
          have HU9 : (us ++ [(⟨A1, cap1, us1, ya, yc, vs⟩ : Nd)]).length = k + 1 := by rw [List.length_append, HU.out]; rfl
          have I9 := ((HIW.out.alloc (.cells #[.slice A1 us1.length cap1, .slice ya vs.length yc] 45)).grow GW.out (fun g' e => by have hq := HGT.out _ e; obtain ⟨_, _, h1, _⟩ := hq; omega)).set (p := ⟨w.heap.size + 1 + 1, 0, none⟩) (by simp) (by simp; omega) (.slice (some ⟨g2, 0, none⟩) (k + 1) cap2)
          exact ⟨⟨k + 1, _, _, by omega, by go_num, V9, HU9, HL9, C10, I9⟩, by simp [intOf]; omega⟩
    · have hkn : k = n := by omega
      subst hkn
      clear hlt
      obtain ⟨xa, xc, rfl⟩ := HG.out.form
      have q0 := hV.one
      have q1 := (hI.nth 0 rfl).one
      have hL := hI.below
      go_wp2
      refine bodyPost_ret (v := .agg #[.slice xa us.length xc]) (by simp [results, Try.results36, go_sem, q1]) rfl ?_
      exact ⟨_, us, rfl, ⟨HU.out.trans HN.out.symm, HL.out⟩, (HG.out.aside (p := ⟨w.heap.size + 1, 0, none⟩) (by simp only; omega) (.slice xa us.length xc)).down (by omega), hL.setCell (by simp) _⟩
end Go.Proofs.Ytjnloillcgeodaa
/- Contracts of ChainStable, of program and model. Condition: sizes that memory holds. -/
namespace Go.Proofs.Ytjnloillcgeodaa
open Go.RowKit Go.Joins
attribute [local go_sem ↓] Go.wp_at_zero Go.wp_at_succ

theorem tot_ll {us vs : List V} (h : LL us vs) : tot us = tot vs := by
  unfold tot
  congr 1
  apply List.ext_getElem?
  intro i
  rw [List.getElem?_map, List.getElem?_map]
  cases hx : us[i]? with
  | none => rw [ll_none h hx]
  | some v =>
    obtain ⟨v', hv', hl⟩ := ll_at h hx
    rw [hv']
    simp [hl.2.2.2.1, hl.2.2.2.2.1]
theorem totN_like {n m : Nd} (h : Nd.like n m) : totN n = totN m := by
  unfold totN
  rw [tot_ll (us := n.ss) (vs := m.ss) ⟨h.1, h.2.1⟩, tot_ll (us := n.ws) (vs := m.ws) ⟨h.2.2.1, h.2.2.2⟩, h.1, h.2.2.1]
theorem totNs_nl {us ns : List Nd} (h : NL us ns) : totNs us = totNs ns := by
  unfold totNs
  congr 1
  apply List.ext_getElem?
  intro i
  rw [List.getElem?_map, List.getElem?_map]
  cases hx : us[i]? with
  | none => rw [nl_none h hx]
  | some v =>
    obtain ⟨v', hv', hl⟩ := nl_at h hx
    rw [hv']
    simp [totN_like hl]
theorem wtNs_tot (ns : List Nd) : wtNs ns ≤ 5 * (totNs ns : Int) := by
  induction ns with
  | nil => simp [wtNs, totNs]
  | cons n r ih =>
    have h1 := wts_tot n.ss
    have h2 := wts_tot n.ws
    unfold wtNs totNs at *
    simp only [List.map_cons, List.sum_cons, wtN, totN] at *
    omega
/-- Marks of a copy are few. -/
theorem wtNs_few {us ns : List Nd} (h : NL us ns) (hs : ns.length + totNs ns ≤ 1048576) : (1 : Int) + wtNs us ≤ 8388000 ∧ 0 ≤ wtNs us := by
  have h1 := wtNs_tot us
  rw [totNs_nl h] at h1
  exact ⟨by omega, wtNs_pos us⟩
/-- A copy of a chain is marked. -/
theorem markChain_copy (B U g c : Nat) (us ns : List Nd) (cur : Array Value) (w : World) (hR : NRow w B U g us cur) (h : NL us ns) (hm : SmN ns) (hs : ns.length + totNs ns ≤ 1048576) :
    Calls Try.prog 24 #[.agg #[.slice (some ⟨g, 0, none⟩) ns.length c], .int .i64 1] w fun e w' => e = .returned (.int .i64 (1 + wtNs us)) ∧ Turn (fun g => B ≤ g ∧ g < U) w w' :=
  (markChain_any B U _ c ns.length us 1 w (.inr ⟨g, cur, rfl, hR⟩) h.1 (smN_small (smN_like h hm)) (by omega) (by omega) (wtNs_few h hs).1).mono fun e w' ⟨h1, _, h3⟩ => ⟨h1, h3⟩
/-- What ChainStable answers. -/
def stableR (ns : List Nd) : List (Int × Int) := if chainB ns = true then (match ns[ns.length - 1]? with | some n => tagsR n.ss | none => []) else []
theorem stableR_no {ns : List Nd} (h : chainB ns = false) : stableR ns = [] := by unfold stableR; rw [h]; rfl
theorem stableR_yes {ns : List Nd} {p : Nat} {n : Nd} (h : chainB ns = true) (hp : ns.length = p + 1) (hn : ns[p]? = some n) : stableR ns = tagsR n.ss := by
  unfold stableR
  rw [h, if_pos rfl, hp, Nat.add_sub_cancel, hn]
theorem stableR_len (ns : List Nd) : (stableR ns).length ≤ 4 := by
  unfold stableR
  split
  · split
    · exact tagsR_len _
    · simp
  · simp
theorem stableR_like {ns us : List Nd} (h : NL ns us) : stableR ns = stableR us := by
  unfold stableR
  rw [chainB_like h, h.1]
  split
  · cases hx : ns[us.length - 1]? with
    | none => rw [nl_none h hx]
    | some n =>
      obtain ⟨n', hx', hl⟩ := nl_at h hx
      rw [hx']
      exact tagsR_like hl.1 hl.2.1
  · rfl
set_option maxHeartbeats 1000000 in
theorem tail_any (G c p : Nat) (ns : List Nd) (cur : Array Value) (nd : Nd) (w : World) (hp : p + 1 ≤ 1048576) (hC : Cg w G ns cur) (hx : ns[p]? = some nd) :
    Calls Try.prog 57 #[.agg #[.slice (some ⟨G, 0, none⟩) (p + 1) c]] w fun e w' => e = .returned (.agg #[.slice nd.sa nd.ss.length nd.sc, .slice nd.wa nd.ws.length nd.wc]) ∧ Below w.heap.size w w' := by
  have S0 := ((Inv.start w).box 25 #[.slice (some ⟨G, 0, none⟩) (p + 1) c]).box 45 #[.slice none 0 0, .slice none 0 0]
  simp only [World.size_alloc] at S0
  have HC := hC.on S0.below
  have n0 := (HC.blk.at (p * 2)).trans (HC.at' p nd hx).1
  have n1 := (HC.blk.at (p * 2 + 1)).trans (HC.at' p nd hx).2
  have e1 : ((p + 1 : Nat) : Int) - 1 = (p : Int) := by omega
  have i1 : (0 : Int) ≤ (p : Int) := by omega
  have i2 : (p : Int) < ((p + 1 : Nat) : Int) := by omega
  obtain ⟨sa, sc, ss, wa, wc, ws⟩ := nd
  simp only at n0 n1 ⊢
  have c0 := (S0.nth 1 rfl).one.1
  have HS := hide (((Inv.start w).box 25 #[.slice (some ⟨G, 0, none⟩) (p + 1) c]).box 45 #[.slice sa ss.length sc, .slice wa ws.length wc]).below
  clear hC HC hx S0
  go_enter Try.func57, Try.ntmps57
  go_wp2
  refine bodyPost_ret (v := .agg #[.slice sa ss.length sc, .slice wa ws.length wc]) (by simp [results, Try.results57, go_sem]) rfl ?_
  exact ⟨rfl, HS.out⟩
theorem field_store (a b : Value) (W : World) : (Instr.field 45 (.agg #[a, b]) 0).run Try.prog W = .ok (.agg #[a]) W := by kernel_rfl
set_option maxRecDepth 100000 in
set_option maxHeartbeats 2000000 in
theorem implChainStable_any (A : Option Addr) (c : Nat) (ns : List Nd) (w : World) (hn : ns.length ≤ 1048576) (hm : SmN ns) (hC : CgA w A ns) :
    Calls Try.prog 20 #[.agg #[.slice A ns.length c]] w (Answer w (stableR ns)) := by
  have S0 := ((Inv.start w).box 25 #[.slice A ns.length c]).box 30 #[.slice none 0 0]
  simp only [World.size_alloc] at S0
  have C0 := hide (implChainOk_any A c ns ((w.alloc (.cells #[.slice A ns.length c] 25)).alloc (.cells #[.slice none 0 0] 30)) hn hm (hC.on S0.below))
  have k0 := (S0.nth 1 rfl).one.1
  have HM := hide hm
  have HC := hide hC
  clear hm hC
  cases ho : chainB ns
  · have HE := hide (stableR_no ho)
    rw [ho] at C0
    clear ho
    go_enter Try.func20, Try.ntmps20
    go_wp2_with fail
    with_reducible refine C0.out.mono ?_
    rintro e w1 ⟨rfl, hb1⟩
    have S1 := S0.on hb1
    have q1 := (S1.nth 0 rfl).one
    clear S0 C0 k0
    go_wp2
    refine bodyPost_ret (v := .agg #[.slice none 0 0]) (by simp [results, Try.results20, go_sem, q1]) rfl ?_
    exact answer_empty HE.out (S1.below.setCell (by simp) _)
  · obtain ⟨⟨h1, h4⟩, hB, _⟩ := chainB_parts ho
    obtain ⟨p, hp⟩ : ∃ p, ns.length = p + 1 := ⟨ns.length - 1, by omega⟩
    obtain ⟨nd, hnd⟩ : ∃ nd, ns[p]? = some nd := ⟨_, List.getElem?_eq_getElem (by omega)⟩
    have HE := hide (stableR_yes ho hp hnd)
    have HND := hide hnd
    rcases HC.out with h0 | ⟨G, cur, rfl, hG⟩
    · rw [h0] at h1; simp at h1
    have HG := hide hG
    have hp4 : p + 1 ≤ 4 := by omega
    rw [ho] at C0
    rw [hp] at C0 S0 k0 ⊢
    have HMN := hide (HM.out p nd hnd)
    clear ho h1 h4 hB hp hnd hG hn HM HC
    go_enter Try.func20, Try.ntmps20
    go_wp2_with fail
    with_reducible refine C0.out.mono ?_
    rintro e w1 ⟨rfl, hb1⟩
    have S1 := S0.on hb1
    have k1 := (S1.nth 1 rfl).one.1
    clear S0 C0 k0
    go_wp2_with fail
    refine (tail_any G c p ns cur nd w1 (by omega) (HG.out.on S1.below) HND.out).mono ?_
    rintro e w2 ⟨rfl, hb2⟩
    have S2 := S1.on hb2
    have HV2 := hide (HG.out.on S2.below |>.store p nd HND.out)
    have zr := S2.room
    clear S1 k1
    obtain ⟨sa, sc, ss, wa, wc, ws⟩ := nd
    simp only at HV2 HE HMN
    have hfd := field_store (.slice sa ss.length sc) (.slice wa ws.length wc)
    go_wp2_with fail
    refine (implStoreTags_any sa sc ss w2 HMN.out.1.1 HMN.out.2.1 HV2.out).mono ?_
    rintro e w3 ⟨A3, cap3, rfl, R3, hb3⟩
    have S3 := S2.on hb3
    have q3 := (S3.nth 0 rfl).one
    have HR3 := hide R3
    clear S2 R3
    generalize tagsR ss = rs at HR3 HE ⊢
    go_wp2
    refine bodyPost_ret (v := .agg #[.slice A3 rs.length cap3]) (by simp [results, Try.results20, go_sem, q3]) rfl ?_
    rw [HE.out]
    refine ⟨A3, cap3, rfl, ?_, S3.below.setCell (by simp) _⟩
    have Z : (w3.setCell ⟨w.heap.size + 1, 0, none⟩ (.slice A3 rs.length cap3)).heap.size = w3.heap.size := by simp [World.setCell]
    rw [Z]
    rcases HR3.out with h | ⟨g, T, cu, rfl, hB, hU, hb, hs, hc⟩
    · exact .inl h
    · exact .inr ⟨g, T, cu, rfl, by omega, hU, hb.aside (by simp; omega) _, hs, hc⟩
end Go.Proofs.Ytjnloillcgeodaa
/- Contracts of ChainJoin, of program and model. Condition: sizes that memory holds. -/
namespace Go.Proofs.Ytjnloillcgeodaa
open Go.RowKit Go.Joins
attribute [local go_sem ↓] Go.wp_at_zero Go.wp_at_succ

theorem ResS.typed2 {w : World} {B U : Nat} {A : Option Addr} {us : List V} (h : ResS w B U A us) {g : Nat} (hg : FootS A us g) : ∃ T cs, Blk w g T cs ∧ T ≠ 25 := by
  obtain ⟨h0, G, rfl, hf⟩ := hg
  rcases h with h | ⟨G', cur, e, hO⟩
  · exact absurd h h0
  · injection e with e
    injection e with e
    subst e
    rcases hf with rfl | ⟨i, v, hi, hn, ha⟩
    · exact ⟨_, _, hO.blk, by decide⟩
    · rcases hO.own i v hi with q | ⟨g', c', e1, q1, q2, q3, _⟩
      · exact absurd q hn
      · rw [e1] at ha
        injection ha with ha
        injection ha with ha
        subst ha
        exact ⟨_, _, q3, by decide⟩
/-- A store into a variable that is a chain. -/
theorem GRow.asideT {base : Nat} {wr : World} {x : Value} {us : List Nd} (h : GRow base wr x us) {p : Addr} {cs : Array Value} (hb : Blk wr p.block 25 cs) (u : Value) : GRow base (wr.setCell p u) x us := by
  have hz : (wr.setCell p u).heap.size = wr.heap.size := by simp [World.setCell]
  have ht : Turn (fun g => g = p.block) wr (wr.setCell p u) := (Turn.refl (fun g => g = p.block) wr).set (p := p) rfl u
  have hk : ∀ {B U : Nat} {A : Option Addr} {l : List V}, ResS wr B U A l → ResS (wr.setCell p u) B U A l := fun hr => hr.turnF ht (fun y hf e => by
    obtain ⟨T, cs', h3, h4⟩ := hr.typed2 hf
    subst e
    exact h4 (blk_one h3 hb))
  refine ⟨⟨h.row.1, ?_⟩, fun i v hi => ?_, fun i v hi => ?_, h.two, h.apart, by rw [hz]; exact h.lo, fun i v hi => (h.own i v hi).turnedT ht (fun g e => by subst e; exact ⟨_, cs, hb, by decide, by decide⟩)⟩
  · rcases h.row.2 with h' | ⟨g, cap, cr, h1, h2, h3, h4⟩
    · exact .inl h'
    · refine .inr ⟨g, cap, cr, h1, h2, ?_, h4⟩
      exact Blk.aside (show Blk wr g 45 cr from h3) (fun e => by subst e; exact absurd (blk_one (show Blk wr p.block 45 cr from h3) hb) (by decide)) u
  · rw [hz]
    exact hk (h.store i v hi)
  · rw [hz]
    exact hk (h.wait i v hi)
/-- A node that comes: what the last one has, and nothing waits. -/
def bare (n : Nd) : Nd := ⟨n.sa, n.sc, n.ss, none, 0, []⟩
/-- What ChainJoin answers. -/
def joinN (ns : List Nd) : List Nd := if chainB ns = true then (if ns.length = 4 then ns else ns ++ (match ns[ns.length - 1]? with | some n => [bare n] | none => [])) else []
def joinK (ns : List Nd) : Bool := chainB ns && decide (ns.length < 4)
theorem joinN_no {ns : List Nd} (h : chainB ns = false) : joinN ns = [] ∧ joinK ns = false := by unfold joinN joinK; rw [h]; exact ⟨rfl, rfl⟩
theorem joinN_full {ns : List Nd} (h : chainB ns = true) (h4 : ns.length = 4) : joinN ns = ns ∧ joinK ns = false := by unfold joinN joinK; rw [h, h4]; exact ⟨rfl, rfl⟩
theorem joinN_yes {ns : List Nd} {p : Nat} {n : Nd} (h : chainB ns = true) (hp : ns.length = p + 1) (h4 : p + 1 < 4) (hn : ns[p]? = some n) : joinN ns = ns ++ [bare n] ∧ joinK ns = true := by
  unfold joinN joinK
  rw [h, if_pos rfl, if_neg (by omega), hp, Nat.add_sub_cancel, hn, decide_eq_true h4]
  exact ⟨rfl, rfl⟩
theorem nl_append {us ns : List Nd} {v n : Nd} (h : NL us ns) (hl : Nd.like v n) : NL (us ++ [v]) (ns ++ [n]) := by
  refine ⟨by simp [h.1], fun i x y hx hy => ?_⟩
  rcases snoc_get rfl i x hx with ⟨e1, rfl⟩ | ⟨e1, hq⟩ <;> rcases snoc_get rfl i y hy with ⟨e2, rfl⟩ | ⟨e2, hq'⟩
  · exact hl
  · have := h.1; omega
  · have := h.1; omega
  · exact h.2 i x y hq hq'
theorem bare_like {n m : Nd} (h : Nd.like n m) : Nd.like (bare n) (bare m) := ⟨h.1, h.2.1, rfl, like_refl _⟩
theorem joinN_like {us ns : List Nd} (h : NL us ns) : NL (joinN us) (joinN ns) ∧ joinK us = joinK ns := by
  refine ⟨?_, by unfold joinK; rw [chainB_like h, h.1]⟩
  cases hc : chainB ns with
  | false => rw [(joinN_no hc).1, (joinN_no ((chainB_like h).trans hc)).1]; exact ⟨rfl, fun i x y hx => by simp at hx⟩
  | true =>
    have hc' := (chainB_like h).trans hc
    by_cases h4 : ns.length = 4
    · rw [(joinN_full hc h4).1, (joinN_full hc' (h.1.trans h4)).1]
      exact h
    · obtain ⟨⟨h1, h5⟩, _⟩ := chainB_parts hc
      obtain ⟨p, hp⟩ : ∃ p, ns.length = p + 1 := ⟨ns.length - 1, by omega⟩
      obtain ⟨n, hn⟩ : ∃ n, us[p]? = some n := ⟨_, List.getElem?_eq_getElem (by have := h.1; omega)⟩
      obtain ⟨m, hm, hl⟩ := nl_at h hn
      rw [(joinN_yes hc hp (by omega) hm).1, (joinN_yes hc' (h.1.trans hp) (by omega) hn).1]
      exact nl_append h (bare_like hl)
/-- An answer that is a chain, and whether it was done. -/
def AnswerCB (w : World) (rs : List Nd) (b : Bool) (e : Ending) (w' : World) : Prop :=
  ∃ (A : Option Addr) (cap : Nat) (us : List Nd), e = .returned (.tuple #[.agg #[.slice A rs.length cap], .bool b]) ∧ NL us rs ∧ ResN w' w.heap.size w'.heap.size A us ∧ Below w.heap.size w w'
theorem answerCB_none {w w' : World} {rs : List Nd} {b : Bool} (hr : rs = [] ∧ b = false) (hb : Below w.heap.size w w') : AnswerCB w rs b (.returned (.tuple #[.agg #[.slice none 0 0], .bool false])) w' := by
  obtain ⟨rfl, rfl⟩ := hr
  exact ⟨none, 0, [], rfl, ⟨rfl, fun i x y hx => by simp at hx⟩, .inl rfl, hb⟩
theorem answerCB_row {w w' : World} {rs us : List Nd} {b : Bool} {A : Option Addr} {m cap : Nat} (h : GRow w.heap.size w' (.slice A m cap) us) (hl : NL us rs) (hb : Below w.heap.size w w') : AnswerCB w rs b (.returned (.tuple #[.agg #[.slice A m cap], .bool b])) w' := by
  obtain ⟨e, hR⟩ := h.res
  exact ⟨A, cap, us, by rw [e, hl.1], hl, hR, hb⟩
end Go.Proofs.Ytjnloillcgeodaa
/- Contract of the program's ChainJoin. Condition: sizes that memory holds. -/
namespace Go.Proofs.Ytjnloillcgeodaa
open Go.RowKit Go.Joins
attribute [local go_sem ↓] Go.wp_at_zero Go.wp_at_succ

end Go.Proofs.Ytjnloillcgeodaa
