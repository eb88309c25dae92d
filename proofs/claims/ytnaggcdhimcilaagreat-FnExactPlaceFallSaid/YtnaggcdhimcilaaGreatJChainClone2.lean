/- Contract of a copy of a chain, in the program. Condition: sizes that memory holds. -/
import Derived.Test.YtnaggcdhimcilaaGreatJChainRow
namespace Go.Proofs.YtnaggcdhimcilaaGreat
open Go.RowKit Go.Joins
attribute [local go_sem ↓] Go.wp_at_zero Go.wp_at_succ

/-- What a copy of a chain is. -/
def ClonedC (w : World) (ns : List Nd) (e : Ending) (w' : World) : Prop :=
  ∃ (x : Value) (us : List Nd), e = .returned (.agg #[x]) ∧ NL us ns ∧ GRow w.heap.size w' x us ∧ Below w.heap.size w w'
theorem nl_snoc {us : List Nd} {ns : List Nd} {k : Nat} {v y : Nd} (h : ∀ (i : Nat) v v', us[i]? = some v → ns[i]? = some v' → Nd.like v v') (hk : us.length = k) (hy : ns[k]? = some y) (hl : Nd.like v y) : ∀ (i : Nat) x x', (us ++ [v])[i]? = some x → ns[i]? = some x' → Nd.like x x' := fun i x x' hx hx' => by
  rcases snoc_get hk i x hx with ⟨rfl, rfl⟩ | ⟨_, hq⟩
  · rw [hy] at hx'
    injection hx' with hx'
    subst hx'
    exact hl
  · exact h i x x' hq hx'
set_option maxRecDepth 100000 in
set_option maxHeartbeats 8000000 in
theorem chainClone_any (A : Option Addr) (c : Nat) (ns : List Nd) (w : World) (hn : ns.length ≤ 1048576) (hm : SmN ns) (hC : CgA w A ns) :
    Calls Tryz.prog 66 #[.agg #[.slice A ns.length c]] w (ClonedC w ns) := by
  obtain ⟨i0, hi0, hz0, hz1, hz2⟩ := info_parts node_info
  have I0 := hide hi0
  have I1 := hide hz0
  have I2 := hide hz1
  have I3 := hide hz2
  clear hi0 hz0 hz1 hz2
  have HM := hide hm
  have HC := hide hC
  clear hm hC
  generalize hnn : ns.length = n at *
  have HN := hide hnn
  clear hnn
  have S0 := ((Inv.start w).box 32 #[.slice A n c]).box 32 #[.slice none 0 0]
  have V0 := Blk.made ((w.alloc (.cells #[.slice A n c] 32)).alloc (.cells #[.slice none 0 0] 32)) 32 #[.slice none 0 0]
  have S1 := S0.alloc (.cells #[.slice none 0 0] 32)
  simp only [World.size_alloc] at S1 V0
  have HC0 := hide (GRow.start (w.heap.size + 1 + 1 + 1) (((w.alloc (.cells #[.slice A n c] 32)).alloc (.cells #[.slice none 0 0] 32)).alloc (.cells #[.slice none 0 0] 32)) (by simp))
  clear S0
  go_enter Tryz.func66, Tryz.ntmps66
  go_wp2
  go_loopw [9] (fun i wr => ∃ (k : Nat) (x : Value) (us : List Nd), k ≤ n ∧ i = .int .i64 (k : Int) ∧ Blk wr (w.heap.size + 1 + 1) 32 #[x] ∧ Hid (us.length = k) ∧ Hid (∀ (i : Nat) v v', us[i]? = some v → ns[i]? = some v' → Nd.like v v') ∧ Hid (GRow (w.heap.size + 1 + 1 + 1) wr x us) ∧ Inv w (w.heap.size + 1 + 1) [(w.heap.size + 1, 32, #[.slice none 0 0]), (w.heap.size, 32, #[.slice A n c])] wr) (fun i _ => n - (intOf i).toNat)
  case atStart => exact ⟨0, _, [], Nat.zero_le _, rfl, V0, rfl, fun i v v' hi => by simp at hi, HC0.out, S1⟩
  case round =>
    obtain ⟨k, x, us, hk, rfl, hV, HU, HL, HG, hI⟩ := hrel
    clear S1 V0 HC0
    by_cases hlt : k < n
    · rcases HC.out with h0 | ⟨G, cur, rfl, hCG⟩
      · have := HN.out; rw [h0] at this; simp at this; omega
      have hkl : k < ns.length := by have := HN.out; omega
      have HX := hide (List.getElem?_eq_getElem hkl)
      generalize ns[k] = nd at HX
      have HMM := hide (HM.out k nd HX.out)
      have HCr := hCG.on hI.below
      have n0 : wr.cell? ⟨G, k * 2, none⟩ = some (.slice nd.sa nd.ss.length nd.sc) := (HCr.blk.at _).trans (HCr.at' k nd HX.out).1
      have n1 : wr.cell? ⟨G, k * 2 + 1, none⟩ = some (.slice nd.wa nd.ws.length nd.wc) := (HCr.blk.at _).trans (HCr.at' k nd HX.out).2
      have HCL : Hid (∀ W, Below w.heap.size w W → Calls Tryz.prog 89 #[.agg #[.slice nd.sa nd.ss.length nd.sc, .slice nd.wa nd.ws.length nd.wc]] W (ClonedNd W nd)) := fun W hW => nodeClone_any nd W HMM.out.1 HMM.out.2.1 HMM.out.2.2 ((hCG.on hW).store k nd HX.out) ((hCG.on hW).wait k nd HX.out)
      have i1 : (0 : Int) ≤ (k : Int) := by omega
      have i2 : (k : Int) < (n : Int) := by omega
      obtain ⟨xa, xc, rfl⟩ := HG.out.form
      have BA := below_alloc1 wr (.cells #[.slice nd.sa nd.ss.length nd.sc, .slice nd.wa nd.ws.length nd.wc] 90)
      have HV := hide (HG.out.typed)
      have hlo := HG.out.lo
      have V1 := (hV.on BA).drew
      have q1 := V1.one.1
      have C1 := hide ((HG.out.on BA).on (Below.refl _ _).drew)
      have N1 := (Blk.made wr 90 #[.slice nd.sa nd.ss.length nd.sc, .slice nd.wa nd.ws.length nd.wc]).drew
      have m0 := N1.two.1
      have m1 := N1.two.2.1
      have J1 := (hI.alloc (.cells #[.slice nd.sa nd.ss.length nd.sc, .slice nd.wa nd.ws.length nd.wc] 90)).drew
      have zA : wr.heap.size < (wr.alloc (.cells #[.slice nd.sa nd.ss.length nd.sc, .slice nd.wa nd.ws.length nd.wc] 90)).heap.size := by simp
      have HBA := hide BA
      obtain ⟨sa, sc, ss, wa, wc, ws⟩ := nd
      simp only at n0 n1 HCL V1 q1 C1 m0 m1 J1 zA HBA HMM
      clear HCr hCG N1 BA
      go_wp2_with fail
      generalize wr.alloc (.cells #[.slice sa ss.length sc, .slice wa ws.length wc] 90) = W0 at V1 q1 C1 m0 m1 J1 zA HBA ⊢
      refine wp_region_noPanic ?_
      refine wp_region_held_drew (S := (fun w' => Inv w (w.heap.size + 1 + 1) [(w.heap.size + 1, 32, #[.slice none 0 0]), (w.heap.size, 32, #[.slice (some ⟨G, 0, none⟩) n c])] w')) (by kernel_rfl) (by exact J1) (fun hHeld => ?_)
      refine mvR 0 (some 13) hHeld ?_
      refine wpAnyH_ready (rs := [1, 2]) (by kernel_rfl) (by simp) ?_
      refine AllReadyH.cons rfl (fun K hK => ?_) (AllReadyH.cons rfl (fun K hK => ?_) AllReadyH.nil)
      · skip
        go_simp
        refine hK.out _ _ (by exact hHeld) (fun hHeld => ?_)
        clear hK K
        refine take_one 2 (by kernel_rfl) rfl (fun K hK => ?_)
        go_simp
        refine hK.out _ _ (by exact hHeld) (fun hHeld => ?_)
        clear hK K
        refine take_one 3 (by kernel_rfl) rfl (fun K hK => ?_)
        go_simp
        ((with_reducible refine (HCL.out _ hHeld.below).mono ?_); rintro e w1 ⟨v', rfl, hlike, hs1, hw1, h21, hc1, hb1⟩; have HC1 := hide hc1; have C2 := hide (C1.out.on hb1); have V2 := V1.on hb1; have HLI := hide hlike; have HS1 := hide hs1; have HW1 := hide hw1; have H21 := hide h21; have z1 : W0.heap.size ≤ w1.heap.size := (by have := hb1.size; simpa using this); have HR := hide (show w1.ownsRow (w.heap.size + 1 + 1 + 1) 90 2 (.slice xa us.length xc) k (flatN us) by have := C2.out.row; rw [HU.out] at this ⊢; exact this); have HB1 := hide hb1; have q2 := V2.one.1; have q4 := (V2.more (.cells #[.slice v'.sa v'.ss.length v'.sc, .slice v'.wa v'.ws.length v'.wc] 90)).one.1; clear hlike hs1 hw1 h21 hc1)
        try go_wp2_with fail
        refine hK.out _ _ (by exact hHeld.on HB1.out) (fun hHeld => ?_)
        clear hK K
        refine take_one 4 (by kernel_rfl) rfl (fun K hK => ?_)
        go_simp
        refine hK.out _ _ (by exact hHeld.alloc _) (fun hHeld => ?_)
        clear hK K
        refine take_one 5 (by kernel_rfl) rfl (fun K hK => ?_)
        (refine step_append_lies _ (by rfl) _ _ _ (by rfl) (w.heap.size + 1 + 1 + 1) 90 i0 _ 2 48 Tryz.underlying30 I0.out I1.out I2.out I3.out rfl (by omega) (.slice xa us.length xc) k (flatN us) (by rfl) (HR.out.alloc _) ⟨w1.heap.size, 0, none⟩ 1 1 (cellsN v') (by rfl) (by rfl) (World.news_of_block (cs := #[.slice v'.sa v'.ss.length v'.sc, .slice v'.wa v'.ws.length v'.wc]) (t := 90) (fr := (0, 0)) (heap_alloc_new w1 _)) (by simp [cellsN, Value.oneCell']) (by omega) (by unfold maxLen; omega) (by omega) (by simp; omega) _ rfl ?_; intro g cap w2 hown2 hgrow hat hlt2; have V3 := (V2.more (.cells #[.slice v'.sa v'.ss.length v'.sc, .slice v'.wa v'.ws.length v'.wc] 90)).kept hgrow (by intro e; have hq := HV.out _ e; obtain ⟨_, _, h1, _⟩ := hq; omega); have q3 := V3.one; have OW := hide hown2; have GW := hide hgrow; clear hown2)
        simp only [List.getElem_toArray, List.getElem_cons_zero, List.getElem_cons_succ, Act.put, List.setIfInBounds_toArray, List.set_cons_zero, List.set_cons_succ]
        refine hK.out _ _ (by exact Inv.grow hHeld hgrow (fun g' e => by have hq := HV.out _ e; obtain ⟨_, _, h1, _⟩ := hq; omega)) (fun hHeld => ?_)
        clear hK K
        refine mvR 6 (some 19) hHeld ?_
        refine take_one 7 (by kernel_rfl) rfl (fun K hK => ?_)
        go_simp
        refine hK.out _ _ (by exact hHeld.set (by simp) (by simp <;> omega) _) (fun hHeld => ?_)
        clear hK K
        refine wpAnyH_done (by kernel_rfl) ?_ _
        refine NoPanic.normal ?_
        have I9 := hHeld
        have C9 := C1.out.push (w1 := w1.alloc (.cells #[.slice v'.sa v'.ss.length v'.sc, .slice v'.wa v'.ws.length v'.wc] 90)) (v := v') (g := g) (cap := cap) (w2 := w2) (HB1.out.trans ((below_alloc1 w1 _).mono HB1.out.size)) ((HS1.out.on (below_alloc1 w1 _)).wide (by simp)) ((HW1.out.on (below_alloc1 w1 _)).wide (by simp)) H21.out (HC1.out.on (below_alloc1 w1 _)) (by rw [HU.out]; exact OW.out) GW.out
        rw [HU.out] at C9
        have C10 := hide (C9.aside (p := ⟨w.heap.size + 1 + 1, 0, none⟩) (by simp only; omega) (.slice (some ⟨g, 0, none⟩) (k + 1) cap))
        have V9 := V3.put 0 (.slice (some ⟨g, 0, none⟩) (k + 1) cap)
        have HL9 := hide (nl_snoc HL.out HU.out HX.out HLI.out)
        have HU9 : Hid ((us ++ [v']).length = k + 1) := (by unfold Hid; rw [List.length_append, HU.out]; rfl)
        clear hHeld V3 q3 q1 q2 q4 V1 V2 C9 C1 C2 HG m0 m1 n0 n1
        go_wp2
        exact ⟨⟨k + 1, _, _, by omega, by go_num, V9, HU9, HL9, C10, I9⟩, by simp [intOf]; omega⟩
      · skip
        go_simp
        refine hK.out _ _ (by exact hHeld) (fun hHeld => ?_)
        clear hK K
        refine wpAnyH_ready (rs := [1, 3]) (by kernel_rfl) (by simp) ?_
        refine AllReadyH.cons rfl (fun K hK => ?_) (AllReadyH.cons rfl (fun K hK => ?_) AllReadyH.nil)
        · skip
          go_simp
          refine hK.out _ _ (by exact hHeld) (fun hHeld => ?_)
          clear hK K
          refine take_one 3 (by kernel_rfl) rfl (fun K hK => ?_)
          go_simp
          ((with_reducible refine (HCL.out _ hHeld.below).mono ?_); rintro e w1 ⟨v', rfl, hlike, hs1, hw1, h21, hc1, hb1⟩; have HC1 := hide hc1; have C2 := hide (C1.out.on hb1); have V2 := V1.on hb1; have HLI := hide hlike; have HS1 := hide hs1; have HW1 := hide hw1; have H21 := hide h21; have z1 : W0.heap.size ≤ w1.heap.size := (by have := hb1.size; simpa using this); have HR := hide (show w1.ownsRow (w.heap.size + 1 + 1 + 1) 90 2 (.slice xa us.length xc) k (flatN us) by have := C2.out.row; rw [HU.out] at this ⊢; exact this); have HB1 := hide hb1; have q2 := V2.one.1; have q4 := (V2.more (.cells #[.slice v'.sa v'.ss.length v'.sc, .slice v'.wa v'.ws.length v'.wc] 90)).one.1; clear hlike hs1 hw1 h21 hc1)
          try go_wp2_with fail
          refine hK.out _ _ (by exact hHeld.on HB1.out) (fun hHeld => ?_)
          clear hK K
          refine take_one 4 (by kernel_rfl) rfl (fun K hK => ?_)
          go_simp
          refine hK.out _ _ (by exact hHeld.alloc _) (fun hHeld => ?_)
          clear hK K
          refine take_one 5 (by kernel_rfl) rfl (fun K hK => ?_)
          (refine step_append_lies _ (by rfl) _ _ _ (by rfl) (w.heap.size + 1 + 1 + 1) 90 i0 _ 2 48 Tryz.underlying30 I0.out I1.out I2.out I3.out rfl (by omega) (.slice xa us.length xc) k (flatN us) (by rfl) (HR.out.alloc _) ⟨w1.heap.size, 0, none⟩ 1 1 (cellsN v') (by rfl) (by rfl) (World.news_of_block (cs := #[.slice v'.sa v'.ss.length v'.sc, .slice v'.wa v'.ws.length v'.wc]) (t := 90) (fr := (0, 0)) (heap_alloc_new w1 _)) (by simp [cellsN, Value.oneCell']) (by omega) (by unfold maxLen; omega) (by omega) (by simp; omega) _ rfl ?_; intro g cap w2 hown2 hgrow hat hlt2; have V3 := (V2.more (.cells #[.slice v'.sa v'.ss.length v'.sc, .slice v'.wa v'.ws.length v'.wc] 90)).kept hgrow (by intro e; have hq := HV.out _ e; obtain ⟨_, _, h1, _⟩ := hq; omega); have q3 := V3.one; have OW := hide hown2; have GW := hide hgrow; clear hown2)
          simp only [List.getElem_toArray, List.getElem_cons_zero, List.getElem_cons_succ, Act.put, List.setIfInBounds_toArray, List.set_cons_zero, List.set_cons_succ]
          refine hK.out _ _ (by exact Inv.grow hHeld hgrow (fun g' e => by have hq := HV.out _ e; obtain ⟨_, _, h1, _⟩ := hq; omega)) (fun hHeld => ?_)
          clear hK K
          refine mvR 6 (some 19) hHeld ?_
          refine take_one 7 (by kernel_rfl) rfl (fun K hK => ?_)
          go_simp
          refine hK.out _ _ (by exact hHeld.set (by simp) (by simp <;> omega) _) (fun hHeld => ?_)
          clear hK K
          refine wpAnyH_done (by kernel_rfl) ?_ _
          refine NoPanic.normal ?_
          have I9 := hHeld
          have C9 := C1.out.push (w1 := w1.alloc (.cells #[.slice v'.sa v'.ss.length v'.sc, .slice v'.wa v'.ws.length v'.wc] 90)) (v := v') (g := g) (cap := cap) (w2 := w2) (HB1.out.trans ((below_alloc1 w1 _).mono HB1.out.size)) ((HS1.out.on (below_alloc1 w1 _)).wide (by simp)) ((HW1.out.on (below_alloc1 w1 _)).wide (by simp)) H21.out (HC1.out.on (below_alloc1 w1 _)) (by rw [HU.out]; exact OW.out) GW.out
          rw [HU.out] at C9
          have C10 := hide (C9.aside (p := ⟨w.heap.size + 1 + 1, 0, none⟩) (by simp only; omega) (.slice (some ⟨g, 0, none⟩) (k + 1) cap))
          have V9 := V3.put 0 (.slice (some ⟨g, 0, none⟩) (k + 1) cap)
          have HL9 := hide (nl_snoc HL.out HU.out HX.out HLI.out)
          have HU9 : Hid ((us ++ [v']).length = k + 1) := (by unfold Hid; rw [List.length_append, HU.out]; rfl)
          clear hHeld V3 q3 q1 q2 q4 V1 V2 C9 C1 C2 HG m0 m1 n0 n1
          go_wp2
          exact ⟨⟨k + 1, _, _, by omega, by go_num, V9, HU9, HL9, C10, I9⟩, by simp [intOf]; omega⟩
        · skip
          go_simp
          ((with_reducible refine (HCL.out _ hHeld.below).mono ?_); rintro e w1 ⟨v', rfl, hlike, hs1, hw1, h21, hc1, hb1⟩; have HC1 := hide hc1; have C2 := hide (C1.out.on hb1); have V2 := V1.on hb1; have HLI := hide hlike; have HS1 := hide hs1; have HW1 := hide hw1; have H21 := hide h21; have z1 : W0.heap.size ≤ w1.heap.size := (by have := hb1.size; simpa using this); have HR := hide (show w1.ownsRow (w.heap.size + 1 + 1 + 1) 90 2 (.slice xa us.length xc) k (flatN us) by have := C2.out.row; rw [HU.out] at this ⊢; exact this); have HB1 := hide hb1; have q2 := V2.one.1; have q4 := (V2.more (.cells #[.slice v'.sa v'.ss.length v'.sc, .slice v'.wa v'.ws.length v'.wc] 90)).one.1; clear hlike hs1 hw1 h21 hc1)
          try go_wp2_with fail
          refine hK.out _ _ (by exact hHeld.on HB1.out) (fun hHeld => ?_)
          clear hK K
          refine wpAnyH_ready (rs := [1, 4]) (by kernel_rfl) (by simp) ?_
          refine AllReadyH.cons rfl (fun K hK => ?_) (AllReadyH.cons rfl (fun K hK => ?_) AllReadyH.nil)
          · skip
            go_simp
            refine hK.out _ _ (by exact hHeld) (fun hHeld => ?_)
            clear hK K
            refine take_one 4 (by kernel_rfl) rfl (fun K hK => ?_)
            go_simp
            refine hK.out _ _ (by exact hHeld.alloc _) (fun hHeld => ?_)
            clear hK K
            refine take_one 5 (by kernel_rfl) rfl (fun K hK => ?_)
            (refine step_append_lies _ (by rfl) _ _ _ (by rfl) (w.heap.size + 1 + 1 + 1) 90 i0 _ 2 48 Tryz.underlying30 I0.out I1.out I2.out I3.out rfl (by omega) (.slice xa us.length xc) k (flatN us) (by rfl) (HR.out.alloc _) ⟨w1.heap.size, 0, none⟩ 1 1 (cellsN v') (by rfl) (by rfl) (World.news_of_block (cs := #[.slice v'.sa v'.ss.length v'.sc, .slice v'.wa v'.ws.length v'.wc]) (t := 90) (fr := (0, 0)) (heap_alloc_new w1 _)) (by simp [cellsN, Value.oneCell']) (by omega) (by unfold maxLen; omega) (by omega) (by simp; omega) _ rfl ?_; intro g cap w2 hown2 hgrow hat hlt2; have V3 := (V2.more (.cells #[.slice v'.sa v'.ss.length v'.sc, .slice v'.wa v'.ws.length v'.wc] 90)).kept hgrow (by intro e; have hq := HV.out _ e; obtain ⟨_, _, h1, _⟩ := hq; omega); have q3 := V3.one; have OW := hide hown2; have GW := hide hgrow; clear hown2)
            simp only [List.getElem_toArray, List.getElem_cons_zero, List.getElem_cons_succ, Act.put, List.setIfInBounds_toArray, List.set_cons_zero, List.set_cons_succ]
            refine hK.out _ _ (by exact Inv.grow hHeld hgrow (fun g' e => by have hq := HV.out _ e; obtain ⟨_, _, h1, _⟩ := hq; omega)) (fun hHeld => ?_)
            clear hK K
            refine mvR 6 (some 19) hHeld ?_
            refine take_one 7 (by kernel_rfl) rfl (fun K hK => ?_)
            go_simp
            refine hK.out _ _ (by exact hHeld.set (by simp) (by simp <;> omega) _) (fun hHeld => ?_)
            clear hK K
            refine wpAnyH_done (by kernel_rfl) ?_ _
            refine NoPanic.normal ?_
            have I9 := hHeld
            have C9 := C1.out.push (w1 := w1.alloc (.cells #[.slice v'.sa v'.ss.length v'.sc, .slice v'.wa v'.ws.length v'.wc] 90)) (v := v') (g := g) (cap := cap) (w2 := w2) (HB1.out.trans ((below_alloc1 w1 _).mono HB1.out.size)) ((HS1.out.on (below_alloc1 w1 _)).wide (by simp)) ((HW1.out.on (below_alloc1 w1 _)).wide (by simp)) H21.out (HC1.out.on (below_alloc1 w1 _)) (by rw [HU.out]; exact OW.out) GW.out
            rw [HU.out] at C9
            have C10 := hide (C9.aside (p := ⟨w.heap.size + 1 + 1, 0, none⟩) (by simp only; omega) (.slice (some ⟨g, 0, none⟩) (k + 1) cap))
            have V9 := V3.put 0 (.slice (some ⟨g, 0, none⟩) (k + 1) cap)
            have HL9 := hide (nl_snoc HL.out HU.out HX.out HLI.out)
            have HU9 : Hid ((us ++ [v']).length = k + 1) := (by unfold Hid; rw [List.length_append, HU.out]; rfl)
            clear hHeld V3 q3 q1 q2 q4 V1 V2 C9 C1 C2 HG m0 m1 n0 n1
            go_wp2
            exact ⟨⟨k + 1, _, _, by omega, by go_num, V9, HU9, HL9, C10, I9⟩, by simp [intOf]; omega⟩
          · skip
            go_simp
            refine hK.out _ _ (by exact hHeld.alloc _) (fun hHeld => ?_)
            clear hK K
            refine take_one 1 (by kernel_rfl) rfl (fun K hK => ?_)
            go_simp
            refine hK.out _ _ (by exact hHeld) (fun hHeld => ?_)
            clear hK K
            refine take_one 5 (by kernel_rfl) rfl (fun K hK => ?_)
            (refine step_append_lies _ (by rfl) _ _ _ (by rfl) (w.heap.size + 1 + 1 + 1) 90 i0 _ 2 48 Tryz.underlying30 I0.out I1.out I2.out I3.out rfl (by omega) (.slice xa us.length xc) k (flatN us) (by rfl) (HR.out.alloc _) ⟨w1.heap.size, 0, none⟩ 1 1 (cellsN v') (by rfl) (by rfl) (World.news_of_block (cs := #[.slice v'.sa v'.ss.length v'.sc, .slice v'.wa v'.ws.length v'.wc]) (t := 90) (fr := (0, 0)) (heap_alloc_new w1 _)) (by simp [cellsN, Value.oneCell']) (by omega) (by unfold maxLen; omega) (by omega) (by simp; omega) _ rfl ?_; intro g cap w2 hown2 hgrow hat hlt2; have V3 := (V2.more (.cells #[.slice v'.sa v'.ss.length v'.sc, .slice v'.wa v'.ws.length v'.wc] 90)).kept hgrow (by intro e; have hq := HV.out _ e; obtain ⟨_, _, h1, _⟩ := hq; omega); have q3 := V3.one; have OW := hide hown2; have GW := hide hgrow; clear hown2)
            simp only [List.getElem_toArray, List.getElem_cons_zero, List.getElem_cons_succ, Act.put, List.setIfInBounds_toArray, List.set_cons_zero, List.set_cons_succ]
            refine hK.out _ _ (by exact Inv.grow hHeld hgrow (fun g' e => by have hq := HV.out _ e; obtain ⟨_, _, h1, _⟩ := hq; omega)) (fun hHeld => ?_)
            clear hK K
            refine mvR 6 (some 19) hHeld ?_
            refine take_one 7 (by kernel_rfl) rfl (fun K hK => ?_)
            go_simp
            refine hK.out _ _ (by exact hHeld.set (by simp) (by simp <;> omega) _) (fun hHeld => ?_)
            clear hK K
            refine wpAnyH_done (by kernel_rfl) ?_ _
            refine NoPanic.normal ?_
            have I9 := hHeld
            have C9 := C1.out.push (w1 := w1.alloc (.cells #[.slice v'.sa v'.ss.length v'.sc, .slice v'.wa v'.ws.length v'.wc] 90)) (v := v') (g := g) (cap := cap) (w2 := w2) (HB1.out.trans ((below_alloc1 w1 _).mono HB1.out.size)) ((HS1.out.on (below_alloc1 w1 _)).wide (by simp)) ((HW1.out.on (below_alloc1 w1 _)).wide (by simp)) H21.out (HC1.out.on (below_alloc1 w1 _)) (by rw [HU.out]; exact OW.out) GW.out
            rw [HU.out] at C9
            have C10 := hide (C9.aside (p := ⟨w.heap.size + 1 + 1, 0, none⟩) (by simp only; omega) (.slice (some ⟨g, 0, none⟩) (k + 1) cap))
            have V9 := V3.put 0 (.slice (some ⟨g, 0, none⟩) (k + 1) cap)
            have HL9 := hide (nl_snoc HL.out HU.out HX.out HLI.out)
            have HU9 : Hid ((us ++ [v']).length = k + 1) := (by unfold Hid; rw [List.length_append, HU.out]; rfl)
            clear hHeld V3 q3 q1 q2 q4 V1 V2 C9 C1 C2 HG m0 m1 n0 n1
            go_wp2
            exact ⟨⟨k + 1, _, _, by omega, by go_num, V9, HU9, HL9, C10, I9⟩, by simp [intOf]; omega⟩
    · have hkn : k = n := by omega
      subst hkn
      clear hlt
      obtain ⟨xa, xc, rfl⟩ := HG.out.form
      have q0 := hV.one
      have q1 := (hI.nth 0 rfl).one
      have hL := hI.below
      go_wp2
      refine bodyPost_ret (v := .agg #[.slice xa us.length xc]) (by simp [results, Tryz.results66, go_sem, q1]) rfl ?_
      exact ⟨_, us, rfl, ⟨HU.out.trans HN.out.symm, HL.out⟩, (HG.out.aside (p := ⟨w.heap.size + 1, 0, none⟩) (by simp only; omega) (.slice xa us.length xc)).down (by omega), hL.setCell (by simp) _⟩
end Go.Proofs.YtnaggcdhimcilaaGreat
/- Contract of a copy of a chain, in the model. Condition: sizes that memory holds. -/
namespace Go.Proofs.YtnaggcdhimcilaaGreat
open Go.RowKit Go.Joins
attribute [local go_sem ↓] Go.wp_at_zero Go.wp_at_succ

set_option maxRecDepth 100000 in
set_option maxHeartbeats 8000000 in
theorem l3Copy_any (A : Option Addr) (c : Nat) (ns : List Nd) (w : World) (hn : ns.length ≤ 1048576) (hm : SmN ns) (hC : CgA w A ns) :
    Calls Tryz.prog 57 #[.agg #[.slice A ns.length c]] w (ClonedC w ns) := by
  obtain ⟨i0, hi0, hz0, hz1, hz2⟩ := info_parts node_info
  have I0 := hide hi0
  have I1 := hide hz0
  have I2 := hide hz1
  have I3 := hide hz2
  clear hi0 hz0 hz1 hz2
  obtain ⟨j0, hj0, hy0, hy1, hy2⟩ := info_parts ver_info
  have J0 := hide hj0
  have J1 := hide hy0
  have J2 := hide hy1
  have J3 := hide hy2
  clear hj0 hy0 hy1 hy2
  have HM := hide hm
  have HC := hide hC
  clear hm hC
  generalize hnn : ns.length = n at *
  have HN := hide hnn
  clear hnn
  have S0 := ((Inv.start w).box 32 #[.slice A n c]).box 32 #[.slice none 0 0]
  have V0 := Blk.made ((w.alloc (.cells #[.slice A n c] 32)).alloc (.cells #[.slice none 0 0] 32)) 32 #[.slice none 0 0]
  have S1 := S0.alloc (.cells #[.slice none 0 0] 32)
  simp only [World.size_alloc] at S1 V0
  have HC0 := hide (GRow.start (w.heap.size + 1 + 1 + 1) (((w.alloc (.cells #[.slice A n c] 32)).alloc (.cells #[.slice none 0 0] 32)).alloc (.cells #[.slice none 0 0] 32)) (by simp))
  clear S0
  go_enter Tryz.func57, Tryz.ntmps57
  go_wp2
  go_loopw [4] (fun i wr => ∃ (k : Nat) (x : Value) (us : List Nd), k ≤ n ∧ i = .int .i64 (k : Int) ∧ Blk wr (w.heap.size + 1 + 1) 32 #[x] ∧ Hid (us.length = k) ∧ Hid (∀ (i : Nat) v v', us[i]? = some v → ns[i]? = some v' → Nd.like v v') ∧ Hid (GRow (w.heap.size + 1 + 1 + 1) wr x us) ∧ Inv w (w.heap.size + 1 + 1) [(w.heap.size + 1, 32, #[.slice none 0 0]), (w.heap.size, 32, #[.slice A n c])] wr) (fun i _ => n - (intOf i).toNat)
  case atStart => exact ⟨0, _, [], Nat.zero_le _, rfl, V0, rfl, fun i v v' hi => by simp at hi, HC0.out, S1⟩
  case round =>
    rename World => wo
    obtain ⟨k, x, us, hk, rfl, hV, HU, HL, HG, hI⟩ := hrel
    clear S1 V0 HC0
    have c0 := (hI.nth 1 rfl).one.1
    by_cases hlt : k < n
    · rcases HC.out with h0 | ⟨G, cur, rfl, hCG⟩
      · have := HN.out; rw [h0] at this; simp at this; omega
      have hkl : k < ns.length := by have := HN.out; omega
      have HX := hide (List.getElem?_eq_getElem hkl)
      generalize ns[k] = nd at HX
      have HMM := hide (HM.out k nd HX.out)
      have HCr := hCG.on hI.below
      have n0 : wo.cell? ⟨G, k * 2, none⟩ = some (.slice nd.sa nd.ss.length nd.sc) := (HCr.blk.at _).trans (HCr.at' k nd HX.out).1
      have HN1 := hide (show ∀ W, Below wo.heap.size wo W → W.cell? ⟨G, k * 2 + 1, none⟩ = some (.slice nd.wa nd.ws.length nd.wc) from fun W hW => ((HCr.on hW).blk.at _).trans (HCr.at' k nd HX.out).2)
      have HVG := hide (HCr.store k nd HX.out)
      have HWG := hide (HCr.wait k nd HX.out)
      have i1 : (0 : Int) ≤ (k : Int) := by omega
      have i2 : (k : Int) < (n : Int) := by omega
      obtain ⟨xa, xc, rfl⟩ := HG.out.form
      obtain ⟨sa, sc, ss, wa, wc, ws⟩ := nd
      simp only at n0 HN1 HVG HWG HMM
      have CT := hide (l2CopyStore_any sa sc ss wo HMM.out.1.1 (fun v hv => (HMM.out.2.1 v hv).1) HVG.out)
      have HI := hide hI
      have HVB := hide hV
      have hgl := hCG.blk.inside
      clear HCr hCG hI hV
      go_wp2_with fail
      with_reducible refine CT.out.mono ?_
      rintro e w1 ⟨x1, us1, rfl, hul, hli, hcr, hb1⟩
      obtain ⟨A1, cap1, rfl, hR1⟩ := hcr.resS
      have HL1 : Hid (LL us1 ss) := ⟨hul, hli⟩
      have HR1 := hide hR1
      have z1 := hb1.size
      have HB1 := hide hb1
      have zr := HI.out.room
      have zb := HI.out.base
      clear hR1 hcr hul hli CT n0 c0 hb1
      have N0 := Blk.made w1 90 #[.slice A1 us1.length cap1, .slice none 0 0]
      have BA := hide (below_alloc1 w1 (.cells #[.slice A1 us1.length cap1, .slice none 0 0] 90))
      have HC1 := hide (CRow.start (w1.heap.size + 1) (w1.alloc (.cells #[.slice A1 us1.length cap1, .slice none 0 0] 90)) (by simp))
      have HVS : Hid (∀ v ∈ ws, v.ts.length ≤ 1048576) := fun v hv => (HMM.out.2.2 v hv).1
      have hws := HMM.out.1.2
      have HC0 : Hid (∀ W, Below w1.heap.size w1 W → W.cell? ⟨w.heap.size, 0, none⟩ = some (.slice (some ⟨G, 0, none⟩) n c)) := fun W hW => ((((HI.out.on HB1.out).nth 1 rfl).on hW).one.1)
      have HN2 : Hid (∀ W, Below w1.heap.size w1 W → W.cell? ⟨G, k * 2 + 1, none⟩ = some (.slice wa ws.length wc)) := fun W hW => HN1.out W (HB1.out.trans (hW.mono z1))
      generalize hnw : ws.length = nw at *
      have HNW := hide hnw
      clear hnw
      go_wp2
      go_loopw [6] (fun i wi => ∃ (q : Nat) (y : Value) (vs : List V), q ≤ nw ∧ i = .int .i64 (q : Int) ∧ Blk wi w1.heap.size 90 #[.slice A1 us1.length cap1, y] ∧ Hid (vs.length = q) ∧ Hid (Like vs ws) ∧ Hid (CRow (w1.heap.size + 1) wi y vs) ∧ Below w1.heap.size w1 wi) (fun i _ => nw - (intOf i).toNat)
      case atStart => exact ⟨0, _, [], Nat.zero_le _, rfl, N0, rfl, fun i v v' hi => by simp at hi, HC1.out, BA.out⟩
      case round =>
        obtain ⟨q, y, vs, hq, rfl, hN, HV', HLv, HCv, hBw⟩ := hrel
        clear N0 HC1
        have c1 := HC0.out _ hBw
        have n1 := HN2.out _ hBw
        by_cases hltq : q < nw
        · rcases HWG.out with h0 | ⟨b, off, rfl, hb, hx⟩
          · have := HNW.out; subst h0; simp at this; omega
          have hql : q < ws.length := by have := HNW.out; omega
          obtain ⟨hS, hT⟩ := hx q _ (List.getElem?_eq_getElem hql)
          have HY := hide (List.getElem?_eq_getElem hql)
          generalize ws[q] = v at hS hT HY
          have HBv := hide (HVS.out v (List.mem_of_getElem? HY.out))
          have HBO : Hid (∀ W, Below w1.heap.size w1 W → Below wo.heap.size wo W) := fun W hW => HB1.out.trans (hW.mono z1)
          have Q := hide (show ∀ W, Below w1.heap.size w1 W → Six W b (off + q * 6) v from fun W hW => hS.keep hb fun _ hp => (HBO.out W hW).cell hp)
          have HT := hide (show ∀ W, Below w1.heap.size w1 W → Tg W W.heap.size v.a v.ts from fun W hW => (hT.on (HBO.out W hW)).up (HBO.out W hW).size)
          have jh : ∀ {W : World}, Below w1.heap.size w1 W → W.cell? ⟨w.heap.size, 0, none⟩ = some (.slice (some ⟨G, 0, none⟩) n c) ∧ W.cell? ⟨G, k * 2 + 1, none⟩ = some (.slice (some ⟨b, off, none⟩) nw wc) ∧ Six W b (off + q * 6) v ∧ Below w1.heap.size w1 W := fun hW => ⟨HC0.out _ hW, HN2.out _ hW, Q.out _ hW, hW⟩
          have i3 : (0 : Int) ≤ (q : Int) := by omega
          have i4 : (q : Int) < (nw : Int) := by omega
          obtain ⟨ya, yn, yc, rfl⟩ := HCv.out.form
          have HVT := hide (HCv.out.typed)
          have hlo := HCv.out.lo
          have hN2' : Hid (Blk wr w1.heap.size 90 #[.slice A1 us1.length cap1, .slice ya yn yc]) := hN
          have V1 := hN.drew
          have q1 : wr.drew.cell? ⟨w1.heap.size, 1, none⟩ = some (.slice ya yn yc) := V1.at 1
          have C1 := hide (HCv.out.on (Below.refl _ _).drew)
          have zq := hBw.size
          clear hS hT hx
          go_wp2_with fail
          clear c1 n1
          refine wp_region_noPanic ?_
          refine wp_region_held_drew (S := (fun w' => w'.cell? ⟨w.heap.size, 0, none⟩ = some (.slice (some ⟨G, 0, none⟩) n c) ∧ w'.cell? ⟨G, k * 2 + 1, none⟩ = some (.slice (some ⟨b, off, none⟩) nw wc) ∧ Six w' b (off + q * 6) v ∧ Below w1.heap.size w1 w')) (by kernel_rfl) (by exact jh hBw.drew) (fun hHeld => ?_)
          refine mvR 0 (some 34) hHeld ?_
          refine mvR 2 (some 36) hHeld ?_
          refine mvR 3 (some 37) hHeld ?_
          refine mvR 4 (some 38) hHeld ?_
          refine mvR 5 (some 39) hHeld ?_
          refine mvR 6 (some 40) hHeld ?_
          refine mvR 7 (some 41) hHeld ?_
          refine mvR 8 (some 42) hHeld ?_
          refine mvR 9 (some 43) hHeld ?_
          refine mvR 10 (some 44) hHeld ?_
          refine wpAnyH_ready (rs := [1, 11]) (by kernel_rfl) (by simp) ?_
          refine AllReadyH.cons rfl (fun K hK => ?_) (AllReadyH.cons rfl (fun K hK => ?_) AllReadyH.nil)
          · skip
            go_simp
            refine hK.out _ _ (by exact hHeld) (fun hHeld => ?_)
            clear hK K
            refine take_one 11 (by kernel_rfl) rfl (fun K hK => ?_)
            go_simp
            (refine (l2Copy_any v _ HBv.out (HT.out _ hHeld.2.2.2)).mono ?_; rintro e w5 ⟨v', rfl, hlike, hown, hb5⟩; have C2 := hide (C1.out.on hb5); have V2 := V1.on hb5; have HLI := hide hlike; have HOW := hide hown; have z5 : wr.heap.size ≤ w5.heap.size := (by have := hb5.size; simpa using this); have HR := hide (show w5.ownsRow (w1.heap.size + 1) 96 6 (.slice ya yn yc) q (flat6 vs) by have := C2.out.row; rw [HV'.out] at this; exact this); have HB5 := hide hb5; have q2 : w5.cell? ⟨w1.heap.size, 1, none⟩ = some (.slice ya yn yc) := V2.at 1; have q4 : (w5.alloc (.cells (verC v'.k v'.t v'.u v'.a v'.ts.length v'.c v'.s v'.g) 96)).cell? ⟨w1.heap.size, 1, none⟩ = some (.slice ya yn yc) := (V2.more _).at 1)
            try go_wp2_with fail
            refine hK.out _ _ (by exact jh (hHeld.2.2.2.trans (HB5.out.mono hHeld.2.2.2.size))) (fun hHeld => ?_)
            clear hK K
            refine take_one 12 (by kernel_rfl) rfl (fun K hK => ?_)
            go_simp
            refine hK.out _ _ (by exact jh (hHeld.2.2.2.alloc hHeld.2.2.2.size _)) (fun hHeld => ?_)
            clear hK K
            refine take_one 13 (by kernel_rfl) rfl (fun K hK => ?_)
            (refine step_append_lies _ (by rfl) _ _ _ (by rfl) (w1.heap.size + 1) 96 j0 _ 6 72 Tryz.underlying33 J0.out J1.out J2.out J3.out rfl (by omega) (.slice ya yn yc) q (flat6 vs) (by rfl) (HR.out.alloc _) ⟨w5.heap.size, 0, none⟩ 1 1 (cells6 v') (by rfl) (by rfl) (World.news_of_block (cs := verC v'.k v'.t v'.u v'.a v'.ts.length v'.c v'.s v'.g) (t := 96) (fr := (0, 0)) (heap_alloc_new w5 _)) (by simp [cells6, Value.oneCell']) (by omega) (by unfold maxLen; omega) (by omega) (by simp; omega) _ rfl ?_; intro g cap w6 hown2 hgrow hat hlt2; have V3 := (V2.more (.cells (verC v'.k v'.t v'.u v'.a v'.ts.length v'.c v'.s v'.g) 96)).kept hgrow (by intro e; have hq := HVT.out _ e; obtain ⟨_, _, h1, _⟩ := hq; omega); have q3 : w6.cell? ⟨w1.heap.size, 1, none⟩ = some (.slice ya yn yc) := V3.at 1; have f3 := V3.loose 1; have OW := hide hown2; have GW := hide hgrow; clear hown2)
            simp only [List.getElem_toArray, List.getElem_cons_zero, List.getElem_cons_succ, Act.put, List.setIfInBounds_toArray, List.set_cons_zero, List.set_cons_succ]
            refine hK.out _ _ (by exact jh (hHeld.2.2.2.grown hgrow hHeld.2.2.2.size (fun g' e => by have hq := HVT.out _ e; obtain ⟨_, _, h1, _⟩ := hq; omega))) (fun hHeld => ?_)
            clear hK K
            refine mvR 14 (some 48) hHeld ?_
            refine take_one 15 (by kernel_rfl) rfl (fun K hK => ?_)
            go_simp
            refine hK.out _ _ (by exact jh (hHeld.2.2.2.setCell (Nat.le_refl _) _)) (fun hHeld => ?_)
            clear hK K
            refine wpAnyH_done (by kernel_rfl) ?_ _
            refine NoPanic.normal ?_
            have I9 := hHeld.2.2.2
            have C9 := HCv.out.push (w1 := w5.alloc (.cells (verC v'.k v'.t v'.u v'.a v'.ts.length v'.c v'.s v'.g) 96)) (B := wr.heap.size) (v := v') (g := g) (cap := cap) (w2 := w6) (((Below.refl _ _).drew.trans (HB5.out.mono (Nat.le_refl _))).trans ((below_alloc1 w5 _).mono z5)) (Nat.le_refl _) ((HOW.out.on (below_alloc1 w5 _)).wide (by simp)) (by rw [HV'.out]; exact OW.out) GW.out
            rw [HV'.out] at C9
            have C10 := hide (C9.aside (p := ⟨w1.heap.size, 1, none⟩) V3 node_ne_tag (by simp only; omega) (.slice (some ⟨g, 0, none⟩) (q + 1) cap))
            have V9 := V3.put 1 (.slice (some ⟨g, 0, none⟩) (q + 1) cap)
            have HL9 := hide (like_step HLv.out HV'.out HY.out HLI.out)
            have HU9 : Hid ((vs ++ [v']).length = q + 1) := (by unfold Hid; rw [List.length_append, HV'.out]; rfl)
            clear hHeld V3 q3 q1 q2 q4 V1 V2 C9 C1 C2 HCv
            go_wp2
            exact ⟨⟨q + 1, _, _, by omega, by go_num, V9, HU9, HL9, C10, I9⟩, by simp [intOf]; omega⟩
          · skip
            go_simp
            (refine (l2Copy_any v _ HBv.out (HT.out _ hHeld.2.2.2)).mono ?_; rintro e w5 ⟨v', rfl, hlike, hown, hb5⟩; have C2 := hide (C1.out.on hb5); have V2 := V1.on hb5; have HLI := hide hlike; have HOW := hide hown; have z5 : wr.heap.size ≤ w5.heap.size := (by have := hb5.size; simpa using this); have HR := hide (show w5.ownsRow (w1.heap.size + 1) 96 6 (.slice ya yn yc) q (flat6 vs) by have := C2.out.row; rw [HV'.out] at this; exact this); have HB5 := hide hb5; have q2 : w5.cell? ⟨w1.heap.size, 1, none⟩ = some (.slice ya yn yc) := V2.at 1; have q4 : (w5.alloc (.cells (verC v'.k v'.t v'.u v'.a v'.ts.length v'.c v'.s v'.g) 96)).cell? ⟨w1.heap.size, 1, none⟩ = some (.slice ya yn yc) := (V2.more _).at 1)
            try go_wp2_with fail
            refine hK.out _ _ (by exact jh (hHeld.2.2.2.trans (HB5.out.mono hHeld.2.2.2.size))) (fun hHeld => ?_)
            clear hK K
            refine wpAnyH_ready (rs := [1, 12]) (by kernel_rfl) (by simp) ?_
            refine AllReadyH.cons rfl (fun K hK => ?_) (AllReadyH.cons rfl (fun K hK => ?_) AllReadyH.nil)
            · skip
              go_simp
              refine hK.out _ _ (by exact hHeld) (fun hHeld => ?_)
              clear hK K
              refine take_one 12 (by kernel_rfl) rfl (fun K hK => ?_)
              go_simp
              refine hK.out _ _ (by exact jh (hHeld.2.2.2.alloc hHeld.2.2.2.size _)) (fun hHeld => ?_)
              clear hK K
              refine take_one 13 (by kernel_rfl) rfl (fun K hK => ?_)
              (refine step_append_lies _ (by rfl) _ _ _ (by rfl) (w1.heap.size + 1) 96 j0 _ 6 72 Tryz.underlying33 J0.out J1.out J2.out J3.out rfl (by omega) (.slice ya yn yc) q (flat6 vs) (by rfl) (HR.out.alloc _) ⟨w5.heap.size, 0, none⟩ 1 1 (cells6 v') (by rfl) (by rfl) (World.news_of_block (cs := verC v'.k v'.t v'.u v'.a v'.ts.length v'.c v'.s v'.g) (t := 96) (fr := (0, 0)) (heap_alloc_new w5 _)) (by simp [cells6, Value.oneCell']) (by omega) (by unfold maxLen; omega) (by omega) (by simp; omega) _ rfl ?_; intro g cap w6 hown2 hgrow hat hlt2; have V3 := (V2.more (.cells (verC v'.k v'.t v'.u v'.a v'.ts.length v'.c v'.s v'.g) 96)).kept hgrow (by intro e; have hq := HVT.out _ e; obtain ⟨_, _, h1, _⟩ := hq; omega); have q3 : w6.cell? ⟨w1.heap.size, 1, none⟩ = some (.slice ya yn yc) := V3.at 1; have f3 := V3.loose 1; have OW := hide hown2; have GW := hide hgrow; clear hown2)
              simp only [List.getElem_toArray, List.getElem_cons_zero, List.getElem_cons_succ, Act.put, List.setIfInBounds_toArray, List.set_cons_zero, List.set_cons_succ]
              refine hK.out _ _ (by exact jh (hHeld.2.2.2.grown hgrow hHeld.2.2.2.size (fun g' e => by have hq := HVT.out _ e; obtain ⟨_, _, h1, _⟩ := hq; omega))) (fun hHeld => ?_)
              clear hK K
              refine mvR 14 (some 48) hHeld ?_
              refine take_one 15 (by kernel_rfl) rfl (fun K hK => ?_)
              go_simp
              refine hK.out _ _ (by exact jh (hHeld.2.2.2.setCell (Nat.le_refl _) _)) (fun hHeld => ?_)
              clear hK K
              refine wpAnyH_done (by kernel_rfl) ?_ _
              refine NoPanic.normal ?_
              have I9 := hHeld.2.2.2
              have C9 := HCv.out.push (w1 := w5.alloc (.cells (verC v'.k v'.t v'.u v'.a v'.ts.length v'.c v'.s v'.g) 96)) (B := wr.heap.size) (v := v') (g := g) (cap := cap) (w2 := w6) (((Below.refl _ _).drew.trans (HB5.out.mono (Nat.le_refl _))).trans ((below_alloc1 w5 _).mono z5)) (Nat.le_refl _) ((HOW.out.on (below_alloc1 w5 _)).wide (by simp)) (by rw [HV'.out]; exact OW.out) GW.out
              rw [HV'.out] at C9
              have C10 := hide (C9.aside (p := ⟨w1.heap.size, 1, none⟩) V3 node_ne_tag (by simp only; omega) (.slice (some ⟨g, 0, none⟩) (q + 1) cap))
              have V9 := V3.put 1 (.slice (some ⟨g, 0, none⟩) (q + 1) cap)
              have HL9 := hide (like_step HLv.out HV'.out HY.out HLI.out)
              have HU9 : Hid ((vs ++ [v']).length = q + 1) := (by unfold Hid; rw [List.length_append, HV'.out]; rfl)
              clear hHeld V3 q3 q1 q2 q4 V1 V2 C9 C1 C2 HCv
              go_wp2
              exact ⟨⟨q + 1, _, _, by omega, by go_num, V9, HU9, HL9, C10, I9⟩, by simp [intOf]; omega⟩
            · skip
              go_simp
              refine hK.out _ _ (by exact jh (hHeld.2.2.2.alloc hHeld.2.2.2.size _)) (fun hHeld => ?_)
              clear hK K
              refine take_one 1 (by kernel_rfl) rfl (fun K hK => ?_)
              go_simp
              refine hK.out _ _ (by exact hHeld) (fun hHeld => ?_)
              clear hK K
              refine take_one 13 (by kernel_rfl) rfl (fun K hK => ?_)
              (refine step_append_lies _ (by rfl) _ _ _ (by rfl) (w1.heap.size + 1) 96 j0 _ 6 72 Tryz.underlying33 J0.out J1.out J2.out J3.out rfl (by omega) (.slice ya yn yc) q (flat6 vs) (by rfl) (HR.out.alloc _) ⟨w5.heap.size, 0, none⟩ 1 1 (cells6 v') (by rfl) (by rfl) (World.news_of_block (cs := verC v'.k v'.t v'.u v'.a v'.ts.length v'.c v'.s v'.g) (t := 96) (fr := (0, 0)) (heap_alloc_new w5 _)) (by simp [cells6, Value.oneCell']) (by omega) (by unfold maxLen; omega) (by omega) (by simp; omega) _ rfl ?_; intro g cap w6 hown2 hgrow hat hlt2; have V3 := (V2.more (.cells (verC v'.k v'.t v'.u v'.a v'.ts.length v'.c v'.s v'.g) 96)).kept hgrow (by intro e; have hq := HVT.out _ e; obtain ⟨_, _, h1, _⟩ := hq; omega); have q3 : w6.cell? ⟨w1.heap.size, 1, none⟩ = some (.slice ya yn yc) := V3.at 1; have f3 := V3.loose 1; have OW := hide hown2; have GW := hide hgrow; clear hown2)
              simp only [List.getElem_toArray, List.getElem_cons_zero, List.getElem_cons_succ, Act.put, List.setIfInBounds_toArray, List.set_cons_zero, List.set_cons_succ]
              refine hK.out _ _ (by exact jh (hHeld.2.2.2.grown hgrow hHeld.2.2.2.size (fun g' e => by have hq := HVT.out _ e; obtain ⟨_, _, h1, _⟩ := hq; omega))) (fun hHeld => ?_)
              clear hK K
              refine mvR 14 (some 48) hHeld ?_
              refine take_one 15 (by kernel_rfl) rfl (fun K hK => ?_)
              go_simp
              refine hK.out _ _ (by exact jh (hHeld.2.2.2.setCell (Nat.le_refl _) _)) (fun hHeld => ?_)
              clear hK K
              refine wpAnyH_done (by kernel_rfl) ?_ _
              refine NoPanic.normal ?_
              have I9 := hHeld.2.2.2
              have C9 := HCv.out.push (w1 := w5.alloc (.cells (verC v'.k v'.t v'.u v'.a v'.ts.length v'.c v'.s v'.g) 96)) (B := wr.heap.size) (v := v') (g := g) (cap := cap) (w2 := w6) (((Below.refl _ _).drew.trans (HB5.out.mono (Nat.le_refl _))).trans ((below_alloc1 w5 _).mono z5)) (Nat.le_refl _) ((HOW.out.on (below_alloc1 w5 _)).wide (by simp)) (by rw [HV'.out]; exact OW.out) GW.out
              rw [HV'.out] at C9
              have C10 := hide (C9.aside (p := ⟨w1.heap.size, 1, none⟩) V3 node_ne_tag (by simp only; omega) (.slice (some ⟨g, 0, none⟩) (q + 1) cap))
              have V9 := V3.put 1 (.slice (some ⟨g, 0, none⟩) (q + 1) cap)
              have HL9 := hide (like_step HLv.out HV'.out HY.out HLI.out)
              have HU9 : Hid ((vs ++ [v']).length = q + 1) := (by unfold Hid; rw [List.length_append, HV'.out]; rfl)
              clear hHeld V3 q3 q1 q2 q4 V1 V2 C9 C1 C2 HCv
              go_wp2
              exact ⟨⟨q + 1, _, _, by omega, by go_num, V9, HU9, HL9, C10, I9⟩, by simp [intOf]; omega⟩
        · have hqn : q = nw := by omega
          subst hqn
          clear hltq
          obtain ⟨ya, yc, hy, hRy⟩ := HCv.out.resS
          obtain ⟨ya', yn', yc', hy'⟩ := HCv.out.form
          subst hy
          have HLV : Hid (LL vs ws) := ⟨HV'.out.trans HNW.out.symm, HLv.out⟩
          have HRY := hide hRy
          have V1 := (HVB.out.on (HB1.out.trans (hBw.mono z1)))
          have p1 := V1.one.1
          have p2 := hN.two.1
          have p3 := hN.two.2.1
          have GB := hide (HB1.out.trans (hBw.mono z1))
          have zq := hBw.size
          have hvl := HV'.out
          have HGT := hide (HG.out.typed)
          have hlo := HG.out.lo
          have HR := hide (show wr.ownsRow (w.heap.size + 1 + 1 + 1) 90 2 (.slice xa us.length xc) k (flatN us) by have := (HG.out.on GB.out).row; rw [HU.out] at this ⊢; exact this)
          have r1 := hide (HR1.out.on hBw)
          have HVV := hide V1
          have HIW := hide (HI.out.on GB.out)
          have HCY := hide HCv.out
          clear hN hRy hy' V1 HCv HLv hvl
          go_wp2_with (at_builtin; (refine wpList_append_lies _ rfl (.tmp 50) (.tmp 52) 30 rfl (w.heap.size + 1 + 1 + 1) 90 i0 _ 2 48 Tryz.underlying30 I0.out I1.out I2.out I3.out rfl (by omega) (.slice xa us.length xc) k (flatN us) rfl (HR.out.alloc _) ⟨wr.heap.size, 0, none⟩ 1 1 (cellsN ⟨A1, cap1, us1, ya, yc, vs⟩) rfl rfl (World.news_of_block (cs := #[.slice A1 us1.length cap1, .slice ya vs.length yc]) (by simpa using heap_alloc_new wr (.cells #[.slice A1 us1.length cap1, .slice ya vs.length yc] 90))) (by simp [cellsN, Value.oneCell']) (by omega) (by unfold maxLen; omega) (by omega) (by simp; omega) _ rfl ?_; intro g2 cap2 w2 hown2 hgrow hat hlt2; have V3 := (HVV.out.more (.cells #[.slice A1 us1.length cap1, .slice ya vs.length yc] 90)).kept hgrow (by intro e; have hq := HGT.out _ e; obtain ⟨_, _, h1, _⟩ := hq; omega); have q3 := V3.one; have HV3 := hide V3; have OW := hide hown2; have GW := hide hgrow; clear hown2 hgrow hat V3))
          have C9 := HG.out.push (w1 := wr.alloc (.cells #[.slice A1 us1.length cap1, .slice ya vs.length yc] 90)) (v := ⟨A1, cap1, us1, ya, yc, vs⟩) (g := g2) (cap := cap2) (w2 := w2) (GB.out.trans ((below_alloc1 wr _).mono GB.out.size)) (((r1.out.wide zq).on (below_alloc1 wr _)).wide (by simp)) (((HRY.out.low (by omega)).on (below_alloc1 wr _)).wide (by simp)) (fun g h1 h2 => h2.elim (fun h2 => by have := r1.out.foot h1; have := HRY.out.foot h2; omega) (fun h2 => by have := r1.out.foot h1; obtain ⟨_, _, h3, _⟩ := HCY.out.typed g h2; omega)) ((HCY.out.down (by omega)).on (below_alloc1 wr _)) (by rw [HU.out]; exact OW.out) GW.out
          rw [HU.out] at C9
          have C10 := C9.aside (p := ⟨w.heap.size + 1 + 1, 0, none⟩) (by simp only; omega) (.slice (some ⟨g2, 0, none⟩) (k + 1) cap2)
          have V9 := HV3.out.put 0 (.slice (some ⟨g2, 0, none⟩) (k + 1) cap2)
          have HL9 := nl_snoc (v := ⟨A1, cap1, us1, ya, yc, vs⟩) HL.out HU.out HX.out ⟨HL1.out.1, HL1.out.2, HLV.out.1, HLV.out.2⟩
          have HU9 : (us ++ [(⟨A1, cap1, us1, ya, yc, vs⟩ : Nd)]).length = k + 1 := by rw [List.length_append, HU.out]; rfl
          have I9 := ((HIW.out.alloc (.cells #[.slice A1 us1.length cap1, .slice ya vs.length yc] 90)).grow GW.out (fun g' e => by have hq := HGT.out _ e; obtain ⟨_, _, h1, _⟩ := hq; omega)).set (p := ⟨w.heap.size + 1 + 1, 0, none⟩) (by simp) (by simp; omega) (.slice (some ⟨g2, 0, none⟩) (k + 1) cap2)
          exact ⟨⟨k + 1, _, _, by omega, by go_num, V9, HU9, HL9, C10, I9⟩, by simp [intOf]; omega⟩
    · have hkn : k = n := by omega
      subst hkn
      clear hlt
      obtain ⟨xa, xc, rfl⟩ := HG.out.form
      have q0 := hV.one
      have q1 := (hI.nth 0 rfl).one
      have hL := hI.below
      go_wp2
      refine bodyPost_ret (v := .agg #[.slice xa us.length xc]) (by simp [results, Tryz.results57, go_sem, q1]) rfl ?_
      exact ⟨_, us, rfl, ⟨HU.out.trans HN.out.symm, HL.out⟩, (HG.out.aside (p := ⟨w.heap.size + 1, 0, none⟩) (by simp only; omega) (.slice xa us.length xc)).down (by omega), hL.setCell (by simp) _⟩
end Go.Proofs.YtnaggcdhimcilaaGreat
