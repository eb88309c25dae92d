/- Contract of PlaceFall, in the model. Condition: sizes that memory holds. -/
import Derived.Test.YtnaggcdhimcilaaGreatJNoteQ
import Derived.Test.YtnaggcdhimcilaaGreatJFallF
import Derived.Test.YtnaggcdhimcilaaGreatJSortRow
import Derived.Test.YtnaggcdhimcilaaGreatJPlaceSpec3
import Derived.Test.YtnaggcdhimcilaaGreatJNoteStep
import Derived.Test.YtnaggcdhimcilaaGreatJStorePure
namespace Go.Proofs.YtnaggcdhimcilaaGreat
open Go.RowKit Go.Joins
attribute [local go_sem ↓] Go.wp_at_zero Go.wp_at_succ

set_option maxRecDepth 100000 in
set_option maxHeartbeats 2000000 in
theorem l4CanFall_any (p : Pl) (k : Int) (w : World) (hn : p.ns.length ≤ 1048576) :
    Calls Tryz.prog 42 #[.agg (plCells p), .int .i64 k] w fun e w' => e = .returned (.bool (!p.fell && fallB p.ns k)) ∧ Below w.heap.size w w' := by
  have S0 := (Inv.start w).box 36 (plCells p)
  simp only [World.size_alloc] at S0
  have HE : Hid (fallB p.ns k = (decide (2 ≤ p.ns.length) && decide (0 ≤ k ∧ k < (p.ns.length : Int)))) := rfl
  obtain ⟨me, ck, ca, cc, ns, la, lc, log, ga, gc, gs, fell⟩ := p
  simp only at HE hn
  rw [HE.out]
  clear HE
  have q0 := (S0.nth 0 rfl).six
  have hL := S0.below
  have CI := hide (l1In_any k 0 ((ns.length : Int) - 1) (w.alloc (.cells (plAt me ck ca ns.length cc la log.length lc ga gs.length gc fell) 36)))
  have HD : Hid (decide ((0 : Int) ≤ k ∧ k ≤ (ns.length : Int) - 1) = decide (0 ≤ k ∧ k < (ns.length : Int))) := by unfold Hid; congr 1; exact propext ⟨fun h => by omega, fun h => by omega⟩
  rw [HD.out] at CI
  generalize decide (0 ≤ k ∧ k < (ns.length : Int)) = x at CI ⊢
  clear S0 HD
  cases fell
  · by_cases h2 : 2 ≤ ns.length
    · have h2' : (ns.length : Int) > 1 := by omega
      rw [decide_eq_true h2]
      clear h2
      go_enter Tryz.func42, Tryz.ntmps42
      go_wp2_with fail
      with_reducible refine CI.out.mono ?_
      rintro e w1 ⟨rfl, rfl⟩
      clear CI
      go_wp2
      go_ret
      exact ⟨by simp, hL⟩
    · have h2' : ¬ ((ns.length : Int) > 1) := by omega
      rw [decide_eq_false h2]
      clear h2 CI
      go_enter Tryz.func42, Tryz.ntmps42
      go_wp2
      go_ret
      exact ⟨by simp, hL⟩
  · clear CI
    go_enter Tryz.func42, Tryz.ntmps42
    go_wp2
    go_ret
    exact ⟨by simp, hL⟩
set_option maxRecDepth 100000 in
set_option maxHeartbeats 4000000 in
theorem specPlaceFall_any (p : Pl) (k : Int) (w : World) (hm : SmP p) (hC : Cp w p) :
    Calls Tryz.prog 13 #[.agg (plCells p), .int .i64 k] w (AnswerPB w (fallP p k) (fallPK p k)) := by
  have HOK : Hid (∀ W, Below w.heap.size w W → Calls Tryz.prog 20 #[.agg (plCells p)] W fun e w' => e = .returned (.bool (plB p)) ∧ Below W.heap.size W w') := fun W hW => l4Ok_any p W hm (hC.on hW)
  have HCP : Hid (∀ W, Below w.heap.size w W → Calls Tryz.prog 21 #[.agg (plCells p)] W (OwnedP W p)) := fun W hW => l4Copy_any p W hm (hC.on hW)
  have HNO : Hid (plB p = false → fallP p k = noP ∧ fallPK p k = false) := fun h => fallP_no h
  have HCB : Hid (plB p = true → FineN p.ns ∧ 0 < p.ns.length ∧ p.log.length ≤ 60) := fun h => ⟨(plB_fine h).1.1, by have := (chainB_parts (plB_parts h).2.1).1.1; omega, (plB_fine h).2⟩
  have HCN : Hid (plB p = true → ∀ W, Below w.heap.size w W → Calls Tryz.prog 42 #[.agg (plCells p), .int .i64 k] W fun e w' => e = .returned (.bool (!p.fell && fallB p.ns k)) ∧ Below W.heap.size W w') := fun h W hW => l4CanFall_any p k W (by have := (chainB_parts (plB_parts h).2.1).1.2; omega)
  have HFU : Hid (plB p = true → (!p.fell && fallB p.ns k) = false → ∀ q, LP q p → LP q (fallP p k) ∧ fallPK p k = false) := fun h hc q hq => by
    cases hf : p.fell with
    | true =>
      rw [(fallP_fell (k := k) h hf).1, (fallP_fell (k := k) h hf).2]
      exact ⟨hq, rfl⟩
    | false =>
      rw [hf] at hc
      have e := fallN_not (k := k) (plB_parts h).2.1 hc
      have e2 := fallP_not (p := p) (k := k) h hf e.2
      rw [e2.1, e2.2, e.1]
      exact ⟨hq, rfl⟩
  have HYE : Hid (plB p = true → ∀ kn : Nat, k = (kn : Int) → p.fell = false → fallB p.ns kn = true → (fallP p k = noteP (fellP (chP p (fallG p.ns kn)) true) ∧ fallPK p k = true) ∧ FineN (fallG p.ns kn)) := fun h kn hk hf hc => by
    subst hk
    have e := fallN_yes (k := (kn : Int)) (plB_parts h).2.1 hc
    have e2 := fallP_yes (p := p) (k := (kn : Int)) h hf e.2
    have e3 := fallN_fine p.ns (kn : Int)
    rw [e.1, Int.toNat_natCast] at e3
    rw [e2.1, e2.2, e.1, Int.toNat_natCast]
    exact ⟨⟨rfl, rfl⟩, e3⟩
  clear hm hC
  generalize hrp : fallP p k = rp at HNO HFU HYE ⊢
  generalize hrb : fallPK p k = rb at HNO HFU HYE ⊢
  generalize plB p = ok at *
  clear hrp hrb
  obtain ⟨me, ck, ca, cc, ns, la, lc, log, ga, gc, gs, fell⟩ := p
  simp only at HCB HCN HFU HYE
  change Calls _ _ #[.agg (plAt me ck ca ns.length cc la log.length lc ga gs.length gc fell), _] _ _
  have S0 := ((Inv.start w).box 36 (plAt me ck ca ns.length cc la log.length lc ga gs.length gc fell)).box 36 (plAt 0 0 none 0 0 none 0 0 none 0 0 false)
  simp only [World.size_alloc] at S0
  have q0 := (S0.nth 1 rfl).six
  go_enter Tryz.func13, Tryz.ntmps13
  go_wp2_with fail
  generalize hW0 : (w.alloc (.cells (plAt me ck ca ns.length cc la log.length lc ga gs.length gc fell) 36)).alloc (.cells (plAt 0 0 none 0 0 none 0 0 none 0 0 false) 36) = W0 at S0 q0 ⊢
  have zW0 : W0.heap.size = w.heap.size + 2 := by rw [← hW0]; simp
  clear hW0
  with_reducible refine (HOK.out _ S0.below).mono ?_
  rintro e w1 ⟨rfl, hb1⟩
  have S1 := S0.on hb1
  have q1 := (S1.nth 1 rfl).six
  have p1 := (S1.nth 0 rfl).six
  have z1 := hb1.size
  clear S0 q0 hb1
  cases ok
  · have HX := hide (HNO.out rfl)
    have HL := hide S1.below
    clear S1 q1
    go_wp2
    refine bodyPost_ret (v := .tuple #[.agg (plAt 0 0 none 0 0 none 0 0 none 0 0 false), .bool false]) (by simp [results, Tryz.results13, go_sem, p1]) rfl ?_
    rw [HX.out.1, HX.out.2]
    exact ⟨noP, rfl, lp_refl _, noP_res _ _ _, below_set6 HL.out (by omega) _ _ _ _ _ _⟩
  · clear p1
    go_wp2_with fail
    with_reducible refine (HCP.out _ S1.below).mono ?_
    rintro e w2 ⟨q, M1, M2, rfl, hq, ho, hb2⟩
    have z2 := hb2.size
    have HQ := hide hq
    have HO := hide ho.q
    have S2 := S1.on hb2
    have HN := hide hq.2.2.1
    have HLL := hide hq.2.2.2.1.1
    have HLN := hide hq.2.2.1.1
    obtain ⟨hfn, hpos, hl60⟩ := HCB.out trivial
    have HFN := hide hfn
    have hn4 := hfn.1
    have S3 := S2.alloc (.cells (plCells q) 36)
    have V3 := Blk.made w2 36 (plCells q)
    have HO3 := hide (HO.out.on (below_alloc1 w2 (.cells (plCells q) 36)))
    have hz3 : (w2.alloc (.cells (plCells q) 36)).heap.size = w2.heap.size + 1 := by simp
    clear hq ho hb2 S1 q1 hfn HCB HCP HOK
    obtain ⟨me2, ck2, ca2, cc2, us, la2, lc2, log2, ga2, gc2, gs2, fell2⟩ := q
    simp only at HN HLL HLN
    have r3 := (S3.nth 1 rfl).six
    have HCA := hide (HCN.out trivial _ S3.below)
    go_wp2_with fail
    with_reducible refine HCA.out.mono ?_
    rintro e w3 ⟨rfl, hb3⟩
    have S4 := S3.on hb3
    have V4 := V3.on hb3
    have HO4 := hide (HO3.out.on hb3)
    have z3 := hb3.size
    rw [hz3] at z3
    have p4 := (S4.nth 0 rfl).six
    have v4 := V4.six
    clear S3 V3 HO3 HCA hb3 r3 HCN
    cases hcan : (!fell && fallB ns k)
    · have HX := hide (HFU.out trivial hcan _ HQ.out)
      have HL9 := hide S4.below
      clear hcan S2 S4 V4 HFU HYE HNO
      go_wp2
      refine bodyPost_ret (v := .tuple #[.agg (plAt me2 ck2 ca2 us.length cc2 la2 log2.length lc2 ga2 gs2.length gc2 fell2), .bool false]) (by simp [results, Tryz.results13, go_sem, p4]) rfl ?_
      rw [HX.out.2]
      refine ⟨⟨me2, ck2, ca2, cc2, us, la2, lc2, log2, ga2, gc2, gs2, fell2⟩, rfl, HX.out.1, ?_, below_set6 HL9.out (by omega) _ _ _ _ _ _⟩
      exact (HO4.out.turned (turn_w6 _ (w.heap.size + 1) _ _ _ _ _ _) (fun g hf e => by have := HO4.out.foot hf; omega)).pres.wide (by omega) (Nat.le_refl _)
    · obtain ⟨hff, hcb⟩ : fell = false ∧ fallB ns k = true := by
        rw [Bool.and_eq_true] at hcan
        exact ⟨by simpa using hcan.1, hcan.2⟩
      have hbb := hcb
      unfold fallB at hbb
      rw [Bool.and_eq_true, decide_eq_true_eq, decide_eq_true_eq] at hbb
      obtain ⟨h2n, hk0, hkl⟩ := hbb
      obtain ⟨kn, rfl⟩ : ∃ kn : Nat, k = (kn : Int) := ⟨k.toNat, by omega⟩
      obtain ⟨hx, hfg⟩ := HYE.out trivial kn rfl hff hcb
      have HX := hide hx
      have HFG := hide hfg
      have HGL := hide (fallG_len (us := ns) (k := kn) (by omega))
      have H2N := hide h2n
      obtain ⟨G1, hca2⟩ : ∃ G1, ca2 = some ⟨G1, 0, none⟩ := by
        rcases HO.out.chain.res.2.cg with h0 | ⟨G', cur', e, h⟩
        · have := HLN.out
          simp only at h0
          rw [h0] at this
          simp at this
          omega
        · exact ⟨G', e⟩
      subst hca2
      have hfu := HFN.out.like HN.out
      have CP := hide (l3FallF_any w1.heap.size G1 cc2 kn us w3 HO4.out.chain (by have := HLN.out; omega) (by have := HLN.out; omega) hfu.1 (fun i n hi => ⟨storeB_four (nodeB_parts (hfu.2 i n hi)).1, fun v hv => by have := (few_store (nodeB_parts (hfu.2 i n hi)).1).2 v hv; omega⟩))
      clear hcan hcb S2 HFU HYE HNO hk0 hfu hff h2n hkl hx hfg
      go_wp2_with fail
      with_reducible refine CP.out.mono ?_
      rintro e w5 ⟨G2, cap2, us', rfl, hul, hg5, hb5, hF5⟩
      have HUL := hide hul
      have HO5 := hide (HO4.out.swap (P := fun _ => False) (A := some ⟨G2, 0, none⟩) (cap := cap2) (us := us') hg5 (.below hb5) (fun y e => e.elim) hF5)
      have HFQ := hide (OwnQ.swapFoot (q := ⟨me2, ck2, some ⟨G1, 0, none⟩, cc2, us, la2, lc2, log2, ga2, gc2, gs2, fell2⟩) (A := some ⟨G2, 0, none⟩) (cap := cap2) (us := us') hF5)
      have S5 := S4.on hb5
      have V5 := V4.on hb5
      have z5 := hb5.size
      have v5 := V5.six
      have hfeet : Hid (∀ y, FootQ ⟨me2, ck2, some ⟨G2, 0, none⟩, cap2, us', la2, lc2, log2, ga2, gc2, gs2, true⟩ y → w1.heap.size ≤ y ∧ y ≠ w2.heap.size) := fun y hy => by
        rcases HFQ.out y hy with h | h
        · have := HO.out.foot h; omega
        · omega
      have HO6 := hide (((HO5.out.fellQ true).turned ((Turn.refl (fun y => y = w2.heap.size) w5).set (p := ⟨w2.heap.size, 2, none⟩) rfl (.slice (some ⟨G2, 0, none⟩) us'.length cap2)) (fun y hf e => (hfeet.out y hf).2 e)).turned ((Turn.refl (fun y => y = w2.heap.size) _).set (p := ⟨w2.heap.size, 5, none⟩) rfl (.bool true)) (fun y hf e => (hfeet.out y hf).2 e))
      have S6 := (S5.set (p := ⟨w2.heap.size, 2, none⟩) (by simp only; omega) (by simp only; omega) (.slice (some ⟨G2, 0, none⟩) us'.length cap2)).set (p := ⟨w2.heap.size, 5, none⟩) (by simp only; omega) (by simp only; omega) (.bool true)
      have V6 := (V5.put 2 (.slice (some ⟨G2, 0, none⟩) us'.length cap2)).put 5 (.bool true)
      simp only [List.setIfInBounds_toArray, List.set_cons_zero, List.set_cons_succ] at V6
      have hlg : log2.length ≤ 60 := by rw [HLL.out]; exact hl60
      have hu1 : 1 ≤ us'.length := by
        have a := HUL.out.1
        have b := (fallG_like HN.out kn).1
        have c := HGL.out
        have d := H2N.out
        omega
      have CN := hide (l4Note_any w1.heap.size ⟨me2, ck2, some ⟨G2, 0, none⟩, cap2, us', la2, lc2, log2, ga2, gc2, gs2, true⟩ _ HO6.out (HFG.out.like (nl_trans HUL.out (fallG_like HN.out kn))) hu1 hlg)
      simp only [plCells] at CN
      have q6 := V6.six
      have z6 : ((w5.setCell ⟨w2.heap.size, 2, none⟩ (.slice (some ⟨G2, 0, none⟩) us'.length cap2)).setCell ⟨w2.heap.size, 5, none⟩ (.bool true)).heap.size = w5.heap.size := by simp [World.setCell]
      clear S4 S5 V4 V5 CP hul hg5 hb5 hF5 v4 p4 HO4
      go_wp2_with fail
      with_reducible refine CN.out.mono ?_
      rintro e w7 ⟨q7, rfl, hq7, ho7, hT7⟩
      have hPv : ∀ y, FootV la2 lc2 log2 y → w1.heap.size ≤ y := fun y h => (HO.out.foot (.inr (.inl h))).1
      have S7 := S6.turned hT7 (fun y h => by have := hPv y h; omega) (fun x hx h => by
        have := hPv _ h
        simp only [List.mem_cons, List.not_mem_nil, or_false] at hx
        rcases hx with rfl | rfl <;> simp only at this <;> omega)
      have p7 := (S7.nth 0 rfl).six
      have HQ7 := hide hq7
      have HO7 := hide ho7
      have HL7 := hide S7.below
      clear S6 V6 q6 v5 S7 CN hq7 ho7 hT7
      obtain ⟨me7, ck7, ca7, cc7, ns7, la7, lc7, log7, ga7, gc7, gs7, fell7⟩ := q7
      go_wp2
      refine bodyPost_ret (v := .tuple #[.agg (plAt me7 ck7 ca7 ns7.length cc7 la7 log7.length lc7 ga7 gs7.length gc7 fell7), .bool true]) (by simp [results, Tryz.results13, go_sem, p7]) rfl ?_
      rw [HX.out.1, HX.out.2]
      refine ⟨⟨me7, ck7, ca7, cc7, ns7, la7, lc7, log7, ga7, gc7, gs7, fell7⟩, rfl, lp_trans HQ7.out (noteP_like ⟨HQ.out.1, HQ.out.2.1, nl_trans HUL.out (fallG_like HN.out kn), HQ.out.2.2.2.1, HQ.out.2.2.2.2.1, rfl⟩), ?_, below_set6 HL7.out (by omega) _ _ _ _ _ _⟩
      exact (HO7.out.turned (turn_w6 _ (w.heap.size + 1) _ _ _ _ _ _) (fun g hf e => by have := (HO7.out.foot hf).1; omega)).pres.wide (by omega) (Nat.le_refl _)
end Go.Proofs.YtnaggcdhimcilaaGreat
/- What the exact laws over a place share: marks of a copy are few; an answer for a place that says the same. No condition. -/
namespace Go.Proofs.YtnaggcdhimcilaaGreat
open Go.RowKit Go.Joins

theorem totL_lls {us ls : List Lg} (h : LLs us ls) : totL us = totL ls := by
  unfold totL
  congr 1
  apply List.ext_getElem?
  intro i
  rw [List.getElem?_map, List.getElem?_map]
  cases hx : us[i]? with
  | none =>
    have : ls[i]? = none := by
      rw [List.getElem?_eq_none_iff] at hx ⊢
      rw [← h.1]
      exact hx
    rw [this]
  | some v =>
    obtain ⟨v', hv', hl⟩ := lls_at h hx
    rw [hv']
    simp [totG, tot_ll hl, hl.1]
theorem wtL_tot (ls : List Lg) : wtL ls ≤ 5 * (totL ls : Int) := by
  induction ls with
  | nil => simp [wtL, totL]
  | cons n r ih =>
    have h1 := wts_tot n.vs
    unfold wtL totL at *
    simp only [List.map_cons, List.sum_cons, totG] at *
    omega
theorem wtP_few {q p : Pl} (h : LP q p) (hs : totP p ≤ 1048576) : (1 : Int) + wtP q ≤ 8388000 ∧ 0 ≤ wtP q := by
  obtain ⟨-, -, h3, h4, h5, -⟩ := h
  have a := wtNs_tot q.ns
  have b := wts_tot q.log
  have c := wtL_tot q.gs
  rw [totNs_nl h3] at a
  rw [tot_ll h4, h4.1] at b
  rw [totL_lls h5] at c
  have a' := wtNs_pos q.ns
  have b' := wts_pos q.log
  have c' := wtL_pos q.gs
  unfold totP totC totLg totGt at hs
  unfold wtP
  omega
theorem answerPB_like {w w' : World} {r r' : Pl} {b b' : Bool} {e : Ending} (h : AnswerPB w r b e w') (hl : LP r r' ∧ b = b') : AnswerPB w r' b' e w' := by
  obtain ⟨q, he, h1, h2, h3⟩ := h
  exact ⟨q, by rw [he, hl.2], lp_trans h1 hl.1, h2, h3⟩
end Go.Proofs.YtnaggcdhimcilaaGreat
