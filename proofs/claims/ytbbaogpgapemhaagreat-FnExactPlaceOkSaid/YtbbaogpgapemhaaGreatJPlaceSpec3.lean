/- Contract of whether a place is valid, in the model. Condition: sizes that memory holds. -/
import Derived.Test.YtbbaogpgapemhaaGreatJPlaceSpec2
import Derived.Test.YtbbaogpgapemhaaGreatJChainJoin3
namespace Go.Proofs.YtbbaogpgapemhaaGreat
open Go.RowKit Go.Joins
attribute [local go_sem ↓] Go.wp_at_zero Go.wp_at_succ

theorem plB_no {p : Pl} (h : (0 ≤ p.me ∧ p.me ≤ 2) → chainB p.ns = true → clockB p.ck p.ns = true → causesB p.ns = true → logB p.log p.me = true → gotB p.me (p.gs.map Lg.vs) = true → False) : plB p = false := by
  cases hx : plB p with
  | false => rfl
  | true =>
    obtain ⟨h1, h2, h3, h4, h5, h6⟩ := plB_parts hx
    exact absurd (h h1 h2 h3 h4 h5 h6) id
theorem plB_mk {p : Pl} (h1 : 0 ≤ p.me ∧ p.me ≤ 2) (h2 : chainB p.ns = true) (h3 : clockB p.ck p.ns = true) (h4 : causesB p.ns = true) (h5 : logB p.log p.me = true) (h6 : gotB p.me (p.gs.map Lg.vs) = true) : plB p = true := by
  unfold plB placeB
  rw [decide_eq_true h1, h2, h3, h4, h5, h6]
  rfl
theorem clockB_range {c : Int} {ns : List Nd} (h : clockB c ns = true) : 0 ≤ c ∧ c ≤ 999 := by
  unfold clockB at h
  rw [Bool.and_eq_true, decide_eq_true_eq] at h
  exact h.1
theorem clockB_at {c : Int} {ns : List Nd} {n : Nd} {j : Nat} {v : V} (h : clockB c ns = true) (hn : ns[0]? = some n) (hv : n.ss[j]? = some v) : v.t ≤ c := by
  unfold clockB at h
  rw [hn, Bool.and_eq_true, List.all_eq_true] at h
  exact of_decide_eq_true (h.2 v (List.mem_of_getElem? hv))
theorem clockB_mk {c : Int} {ns : List Nd} {n : Nd} (h : 0 ≤ c ∧ c ≤ 999) (hn : ns[0]? = some n) (hv : ∀ (j : Nat) v, n.ss[j]? = some v → v.t ≤ c) : clockB c ns = true := by
  unfold clockB
  rw [hn, decide_eq_true h, Bool.true_and, List.all_eq_true]
  intro v hv'
  obtain ⟨j, hj⟩ := List.getElem?_of_mem hv'
  exact decide_eq_true (hv j v hj)
theorem gotB_len3 {me : Int} {gs : List Lg} (h : gotB me (gs.map Lg.vs) = true) : gs.length = 3 := by
  unfold gotB at h
  rw [Bool.and_eq_true, decide_eq_true_eq, List.length_map] at h
  exact h.1
theorem gotB_log {me : Int} {gs : List Lg} {i : Nat} {l : Lg} (h : gotB me (gs.map Lg.vs) = true) (hi : gs[i]? = some l) : logB l.vs (i : Int) = true ∧ ((i : Int) = me → l.vs.length = 0) := by
  unfold gotB at h
  rw [Bool.and_eq_true, decide_eq_true_eq, List.length_map, List.all_eq_true] at h
  have := h.2 i (List.mem_range.2 (List.getElem?_eq_some_iff.1 hi).1)
  rw [List.getElem?_map, hi] at this
  simp only [Option.map_some, Bool.and_eq_true, Bool.or_eq_true, decide_eq_true_eq] at this
  exact ⟨this.1, fun e => by rcases this.2 with h | h; exact absurd e h; exact h⟩
theorem gotB_make {me : Int} {gs : List Lg} (h3 : gs.length = 3) (h : ∀ (i : Nat) l, i < 3 → gs[i]? = some l → logB l.vs (i : Int) = true ∧ ((i : Int) = me → l.vs.length = 0)) : gotB me (gs.map Lg.vs) = true := by
  unfold gotB
  rw [List.length_map, decide_eq_true h3, Bool.true_and, List.all_eq_true]
  intro i hi
  have hi3 : i < 3 := by rw [← h3]; exact List.mem_range.1 hi
  obtain ⟨l, hl⟩ : ∃ l, gs[i]? = some l := ⟨_, List.getElem?_eq_getElem (by omega)⟩
  obtain ⟨h1, h2⟩ := h i l hi3 hl
  rw [List.getElem?_map, hl]
  simp only [Option.map_some]
  rw [h1, Bool.true_and]
  by_cases e : (i : Int) = me
  · rw [decide_eq_true (h2 e), Bool.or_true]
  · rw [decide_eq_true e, Bool.true_or]
set_option maxRecDepth 100000 in
set_option maxHeartbeats 8000000 in
theorem l4Ok_any (p : Pl) (w : World) (hm : SmP p) (hC : Cp w p) :
    Calls Tryz.prog 41 #[.agg (plCells p)] w fun e w' => e = .returned (.bool (plB p)) ∧ Below w.heap.size w w' := by
  have CCH : Hid (∀ W, Below w.heap.size w W → Calls Tryz.prog 115 #[.agg #[.slice p.ca p.ns.length p.cc]] W fun e w' => e = .returned (.bool (chainB p.ns)) ∧ Below W.heap.size W w') := fun W hW => l3Ok_any p.ca p.cc p.ns W hm.1.1 hm.1.2 (hC.1.on hW)
  have CCA : Hid (∀ W, Below w.heap.size w W → chainB p.ns = true → Calls Tryz.prog 116 #[.agg #[.slice p.ca p.ns.length p.cc]] W fun e w' => e = .returned (.bool (causesB p.ns)) ∧ Below W.heap.size W w') := fun W hW hc => l4Causes_any p.ca p.cc p.ns W hc (hC.1.on hW)
  have CLO : Hid (∀ W, Below w.heap.size w W → Calls Tryz.prog 117 #[.slice p.la p.log.length p.lc, .int .i64 p.me] W fun e w' => e = .returned (.bool (logB p.log p.me)) ∧ Below W.heap.size W w') := fun W hW => l4Log_any p.la p.lc p.log p.me W hm.2.1.1 hm.2.1.2 ((hC.2.1.on hW).up hW.size)
  have HNO := hide (plB_no (p := p))
  have HMK := hide (plB_mk (p := p))
  have HSG := hide hm.2.2.2
  have HG := hide hC.2.2
  have HCC := hide hC.1
  have HCP := hide (chainB_parts (ns := p.ns))
  obtain ⟨me, ck, ca, cc, ns, la, lc, log, ga, gc, gs, fell⟩ := p
  simp only at CCH CCA CLO HNO HMK HSG HG HCC HCP
  change Calls _ _ #[.agg (plAt me ck ca ns.length cc la log.length lc ga gs.length gc fell)] _ _
  generalize hgn : gs.length = gn
  have HGN := hide hgn
  have S0 := (Inv.start w).box 37 (plAt me ck ca ns.length cc la log.length lc ga gn gc fell)
  simp only [World.size_alloc] at S0
  have q0 := (S0.nth 0 rfl).six
  clear hm hC hgn
  go_enter Tryz.func41, Tryz.ntmps41
  go_wp2_with fail
  refine (l1In_any me 0 2 _).mono ?_
  rintro e w1 ⟨rfl, rfl⟩
  cases h1 : decide (0 ≤ me ∧ me ≤ 2)
  · have HX := hide (HNO.out fun a _ _ _ _ _ => absurd a (of_decide_eq_false h1))
    clear h1
    go_wp2
    go_ret
    exact ⟨ret_bool HX.out.symm, S0.below⟩
  have H1 := hide (of_decide_eq_true h1)
  clear h1
  go_wp2_with fail
  refine (l1In_any ck 0 999 _).mono ?_
  rintro e w1 ⟨rfl, rfl⟩
  cases h2 : decide (0 ≤ ck ∧ ck ≤ 999)
  · have HX := hide (HNO.out fun _ _ a _ _ _ => absurd (clockB_range a) (of_decide_eq_false h2))
    clear h2
    go_wp2
    go_ret
    exact ⟨ret_bool HX.out.symm, S0.below⟩
  have H2 := hide (of_decide_eq_true h2)
  clear h2
  by_cases h3 : gn = 3
  rotate_left
  · have HX := hide (HNO.out fun _ _ _ _ _ a => h3 (HGN.out.symm.trans (gotB_len3 a)))
    have hne : ((gn : Int) != 3) = true := by simp; omega
    clear h3
    go_wp2
    go_ret
    exact ⟨ret_bool HX.out.symm, S0.below⟩
  subst h3
  have H3 := hide HGN.out
  have CMK := hide (gotB_make (me := me) (gs := gs) H3.out)
  go_wp2_with fail
  with_reducible refine (CCH.out _ S0.below).mono ?_
  rintro e w1 ⟨rfl, hb1⟩
  have S1 := S0.on hb1
  have q1 := (S1.nth 0 rfl).six
  clear S0 q0 CCH hb1
  cases h4 : chainB ns
  · have HX := hide (HNO.out fun _ a _ _ _ _ => by rw [h4] at a; cases a)
    clear h4
    go_wp2
    go_ret
    exact ⟨ret_bool HX.out.symm, S1.below⟩
  have H4 := hide h4
  clear h4
  go_wp2_with fail
  with_reducible refine (CCA.out _ S1.below H4.out).mono ?_
  rintro e w2 ⟨rfl, hb2⟩
  have S2 := S1.on hb2
  have q2 := (S2.nth 0 rfl).six
  clear S1 q1 CCA hb2
  cases h5 : causesB ns
  · have HX := hide (HNO.out fun _ _ _ a _ _ => by rw [h5] at a; cases a)
    clear h5
    go_wp2
    go_ret
    exact ⟨ret_bool HX.out.symm, S2.below⟩
  have H5 := hide h5
  clear h5
  go_wp2_with fail
  with_reducible refine (CLO.out _ S2.below).mono ?_
  rintro e w3 ⟨rfl, hb3⟩
  have S3 := S2.on hb3
  have q3 := (S3.nth 0 rfl).six
  clear S2 q2 CLO hb3
  cases h6 : logB log me
  · have HX := hide (HNO.out fun _ _ _ _ a _ => by rw [h6] at a; cases a)
    clear h6
    go_wp2
    go_ret
    exact ⟨ret_bool HX.out.symm, S3.below⟩
  have H6 := hide h6
  clear h6
  rcases HG.out with h0 | ⟨b, off, rfl, hb0, hx⟩
  · have := H3.out; rw [h0] at this; simp at this
  have HXX := hide hx
  clear hx HG
  go_wp2
  go_loopw [3] (fun i wo => ∃ k : Nat, k ≤ 3 ∧ i = .int .i64 (k : Int) ∧ Hid (∀ (i : Nat) l, i < k → gs[i]? = some l → logB l.vs (i : Int) = true ∧ ((i : Int) = me → l.vs.length = 0)) ∧ Inv w (w.heap.size + 1) [(w.heap.size, 37, plAt me ck ca ns.length cc la log.length lc (some ⟨b, off, none⟩) 3 gc fell)] wo) (fun i _ => 3 - (intOf i).toNat)
  case atStart => exact ⟨0, by omega, rfl, fun i l hi => absurd hi (by omega), S3⟩
  case round =>
    rename World => wo
    obtain ⟨k, hk, rfl, hall, hI⟩ := hrel
    clear S3 q3
    have q1 := (hI.nth 0 rfl).six
    by_cases hlt : k < 3
    · obtain ⟨y, hy⟩ : ∃ y, gs[k]? = some y := ⟨_, List.getElem?_eq_getElem (by have := H3.out; omega)⟩
      obtain ⟨hcy, hvy⟩ := HXX.out k y hy
      have HYC := hide (show ∀ W, Below w.heap.size w W → W.cell? ⟨b, off + k, none⟩ = some (.slice y.a y.vs.length y.c) from fun W hW => (hW.cell (p := ⟨b, off + k, none⟩) hb0).trans hcy)
      have c0 := HYC.out _ hI.below
      have CY := hide (l4Log_any y.a y.c y.vs (k : Int) wo (HSG.out y (List.mem_of_getElem? hy)).1 (HSG.out y (List.mem_of_getElem? hy)).2 ((hvy.on hI.below).up hI.base))
      have HYY := hide hy
      obtain ⟨ya, yc, ys⟩ := y
      simp only at c0 CY HYC
      have j1 : (0 : Int) ≤ (k : Int) := by omega
      have j2 : (k : Int) < 3 := by omega
      clear hcy hvy hy
      go_wp2_with fail
      with_reducible refine CY.out.mono ?_
      rintro e w4 ⟨rfl, hb4⟩
      have I4 := hI.on hb4
      have q4 := (I4.nth 0 rfl).six
      have c4 := HYC.out _ I4.below
      clear c0 CY hb4 q1 hI
      cases h7 : logB ys (k : Int)
      · have HX := hide (HNO.out fun _ _ _ _ _ a => by have := (gotB_log a HYY.out).1; simp only at this; rw [h7] at this; cases this)
        clear h7
        go_wp2
        go_ret
        exact ⟨ret_bool HX.out.symm, I4.below⟩
      have H7 := hide h7
      clear h7
      by_cases hkm : (k : Int) = me
      · have hke : ((k : Int) == me) = true := by simpa using hkm
        by_cases h8 : ys.length = 0
        · have hng : ¬ ((ys.length : Int) > 0) := by omega
          have HA : Hid (∀ (i : Nat) l, i < k + 1 → gs[i]? = some l → logB l.vs (i : Int) = true ∧ ((i : Int) = me → l.vs.length = 0)) := fun i l hi hl => by
            by_cases e : i = k
            · subst e
              have := HYY.out
              rw [this] at hl
              injection hl with hl
              subst hl
              exact ⟨H7.out, fun _ => h8⟩
            · exact hall.out i l (by omega) hl
          clear hkm h8
          go_wp2
          exact ⟨⟨k + 1, by omega, by go_num, HA, I4⟩, by simp [intOf]; omega⟩
        · have hng : ((ys.length : Int) > 0) := by omega
          have HX := hide (HNO.out fun _ _ _ _ _ a => by have := (gotB_log a HYY.out).2 hkm; simp only at this; exact h8 this)
          clear hkm h8
          go_wp2
          go_ret
          exact ⟨ret_bool HX.out.symm, I4.below⟩
      · have hke : ((k : Int) == me) = false := by simpa using hkm
        have HA : Hid (∀ (i : Nat) l, i < k + 1 → gs[i]? = some l → logB l.vs (i : Int) = true ∧ ((i : Int) = me → l.vs.length = 0)) := fun i l hi hl => by
          by_cases e : i = k
          · subst e
            have := HYY.out
            rw [this] at hl
            injection hl with hl
            subst hl
            exact ⟨H7.out, fun h => absurd h hkm⟩
          · exact hall.out i l (by omega) hl
        clear hkm
        go_wp2
        exact ⟨⟨k + 1, by omega, by go_num, HA, I4⟩, by simp [intOf]; omega⟩
    · have hk3 : k = 3 := by omega
      have HGO := hide (CMK.out (fun i l hi hl => hall.out i l (by omega) hl))
      have hk3i : ¬ ((k : Int) < 3) := by omega
      clear hlt hall CMK hk3 hk
      rcases HCC.out with h0 | ⟨G, cur, rfl, hG⟩
      · have := (HCP.out H4.out).1.1; rw [h0] at this; simp at this
      have hl1 := (HCP.out H4.out).1.1
      obtain ⟨nd, hnd⟩ : ∃ nd, ns[0]? = some nd := ⟨_, List.getElem?_eq_getElem (by omega)⟩
      have hs4 := storeB_four (nodeB_parts ((HCP.out H4.out).2.1 0 nd hnd)).1
      have HND := hide hnd
      have hGw := hG.on hI.below
      have n0 := (hGw.blk.at (0 * 2)).trans (hGw.at' 0 nd hnd).1
      have HVS := hide (hG.store 0 nd hnd)
      have HCMK := hide (clockB_mk (ns := ns) H2.out hnd)
      obtain ⟨sa, sc, ss, wa, wc, ws⟩ := nd
      simp only at hs4 n0 HVS HCMK
      rw [hs4] at n0
      have HS4 := hide hs4
      have i0 : (0 : Int) < (ns.length : Int) := by omega
      have X1 := (hI.top).box 130 #[.slice sa 4 sc]
      simp only [World.size_alloc] at X1
      have HX1 := hide X1
      clear hnd hGw hG hs4 X1
      go_wp2
      clear n0 q1 hk3i
      go_loopw [5] (fun i wi => ∃ q : Nat, q ≤ 4 ∧ i = .int .i64 (q : Int) ∧ Hid (∀ (j : Nat) v, j < q → ss[j]? = some v → v.t ≤ ck) ∧ Inv w (wo.heap.size + 1) [(wo.heap.size, 130, #[.slice sa 4 sc]), (w.heap.size, 37, plAt me ck (some ⟨G, 0, none⟩) ns.length cc la log.length lc (some ⟨b, off, none⟩) 3 gc fell)] wi) (fun i _ => 4 - (intOf i).toNat)
      case atStart => exact ⟨0, by omega, rfl, fun j v hj => absurd hj (by omega), HX1.out⟩
      case round =>
        obtain ⟨q, hq, rfl, hno, hJ⟩ := hrel
        clear hI HX1
        by_cases hltq : q < 4
        · have hql : q < ss.length := by have := HS4.out; omega
          rcases HVS.out with h0 | ⟨b1, off1, rfl, hb1, hx1⟩
          · rw [h0] at hql; simp at hql
          obtain ⟨hS, -⟩ := hx1 q _ (List.getElem?_eq_getElem hql)
          have HY := hide (List.getElem?_eq_getElem hql)
          generalize ss[q] = v at hS HY
          have HSX := hide (show ∀ W, Below w.heap.size w W → Six W b1 (off1 + q * 6) v from fun W hW => hS.keep hb1 fun _ hp => hW.cell hp)
          obtain ⟨vk, vt, vu, va, vc, vts, vs', vg⟩ := v
          have j1 : (0 : Int) ≤ (q : Int) := by omega
          have j2 : (q : Int) < 4 := by omega
          clear hS hx1
          by_cases ht : vt ≤ ck
          · have HA : Hid (∀ (j : Nat) v, j < q + 1 → ss[j]? = some v → v.t ≤ ck) := fun j x hj hx => by
              by_cases e : j = q
              · subst e
                have h1 := HY.out
                rw [h1] at hx
                injection hx with hx
                subst hx
                exact ht
              · exact hno.out j x (by omega) hx
            have hgt : decide (vt > ck) = false := decide_eq_false (by omega)
            have hgt2 : decide (ck < vt) = false := decide_eq_false (by omega)
            clear ht
            go_wp2_with fail
            refine wp_region_noPanic ?_
            refine wp_region_held_drew (S := (fun w' => (w'.cell? ⟨wo.heap.size, 0, none⟩ = some (.slice (some ⟨b1, off1, none⟩) 4 sc)) ∧ w'.cell? ⟨w.heap.size, 1, none⟩ = some (.int .i64 ck) ∧ Six w' b1 (off1 + q * 6) ⟨vk, vt, vu, va, vc, vts, vs', vg⟩ ∧ Inv w (wo.heap.size + 1) [(wo.heap.size, 130, #[.slice (some ⟨b1, off1, none⟩) 4 sc]), (w.heap.size, 37, plAt me ck (some ⟨G, 0, none⟩) ns.length cc la log.length lc (some ⟨b, off, none⟩) 3 gc fell)] w')) (by kernel_rfl) (by exact ⟨(hJ.drew.nth 0 rfl).one.1, (hJ.drew.nth 1 rfl).at 1, HSX.out _ hJ.drew.below, hJ.drew⟩) (fun hHeld => ?_)
            refine take_run 0 (some 79) (v := ?_) rfl rfl (by kernel_rfl) (by kernel_rfl) (by kernel_rfl) (fun _ _ _ h => h) (by rfl) ?_ hHeld ?_
            rotate_left
            · ((intro w hSw); (try dsimp only at hSw); go_simp <;> with_reducible rfl)
            simp only [Act.put, List.setIfInBounds_toArray, List.set_cons_zero, List.set_cons_succ]
            refine take_run 1 (some 80) (v := ?_) rfl rfl (by kernel_rfl) (by kernel_rfl) (by kernel_rfl) (fun _ _ _ h => h) (by rfl) ?_ hHeld ?_
            rotate_left
            · ((intro w hSw); (try dsimp only at hSw); go_simp <;> with_reducible rfl)
            simp only [Act.put, List.setIfInBounds_toArray, List.set_cons_zero, List.set_cons_succ]
            refine take_run 2 (some 81) (v := ?_) rfl rfl (by kernel_rfl) (by kernel_rfl) (by kernel_rfl) (fun _ _ _ h => h) (by rfl) ?_ hHeld ?_
            rotate_left
            · ((intro w hSw); (try dsimp only at hSw); go_simp <;> with_reducible rfl)
            simp only [Act.put, List.setIfInBounds_toArray, List.set_cons_zero, List.set_cons_succ]
            refine take_run 3 (some 82) (v := ?_) rfl rfl (by kernel_rfl) (by kernel_rfl) (by kernel_rfl) (fun _ _ _ h => h) (by rfl) ?_ hHeld ?_
            rotate_left
            · ((intro w hSw); (try dsimp only at hSw); go_simp <;> with_reducible rfl)
            simp only [Act.put, List.setIfInBounds_toArray, List.set_cons_zero, List.set_cons_succ]
            refine take_run 4 (some 83) (v := ?_) rfl rfl (by kernel_rfl) (by kernel_rfl) (by kernel_rfl) (fun _ _ _ h => h) (by rfl) ?_ hHeld ?_
            rotate_left
            · ((intro w hSw); (try dsimp only at hSw); go_simp <;> with_reducible rfl)
            simp only [Act.put, List.setIfInBounds_toArray, List.set_cons_zero, List.set_cons_succ]
            refine take_run 5 (some 84) (v := ?_) rfl rfl (by kernel_rfl) (by kernel_rfl) (by kernel_rfl) (fun _ _ _ h => h) (by rfl) ?_ hHeld ?_
            rotate_left
            · ((intro w hSw); (try dsimp only at hSw); go_simp <;> with_reducible rfl)
            simp only [Act.put, List.setIfInBounds_toArray, List.set_cons_zero, List.set_cons_succ]
            refine take_run 6 (some 85) (v := ?_) rfl rfl (by kernel_rfl) (by kernel_rfl) (by kernel_rfl) (fun _ _ _ h => h) (by rfl) ?_ hHeld ?_
            rotate_left
            · ((intro w hSw); (try dsimp only at hSw); go_simp <;> with_reducible rfl)
            simp only [Act.put, List.setIfInBounds_toArray, List.set_cons_zero, List.set_cons_succ]
            refine take_run 7 (some 86) (v := ?_) rfl rfl (by kernel_rfl) (by kernel_rfl) (by kernel_rfl) (fun _ _ _ h => h) (by rfl) ?_ hHeld ?_
            rotate_left
            · ((intro w hSw); (try dsimp only at hSw); go_simp <;> with_reducible rfl)
            simp only [Act.put, List.setIfInBounds_toArray, List.set_cons_zero, List.set_cons_succ]
            refine take_run 8 (some 87) (v := ?_) rfl rfl (by kernel_rfl) (by kernel_rfl) (by kernel_rfl) (fun _ _ _ h => h) (by rfl) ?_ hHeld ?_
            rotate_left
            · ((intro w hSw); (try dsimp only at hSw); go_simp <;> with_reducible rfl)
            simp only [Act.put, List.setIfInBounds_toArray, List.set_cons_zero, List.set_cons_succ]
            refine take_run 9 (some 88) (v := ?_) rfl rfl (by kernel_rfl) (by kernel_rfl) (by kernel_rfl) (fun _ _ _ h => h) (by rfl) ?_ hHeld ?_
            rotate_left
            · ((intro w hSw); (try dsimp only at hSw); go_simp <;> with_reducible rfl)
            simp only [Act.put, List.setIfInBounds_toArray, List.set_cons_zero, List.set_cons_succ]
            refine wpAnyH_done (by kernel_rfl) ?_ _
            refine NoPanic.normal ?_
            have hJ2 := hide hHeld.2.2.2
            clear hHeld hJ
            go_wp2
            exact ⟨⟨q + 1, by omega, by go_num, HA, hJ2.out⟩, by simp [intOf]; omega⟩
          · have HX := hide (HNO.out fun _ _ a _ _ _ => ht (clockB_at a HND.out HY.out))
            have hgt : decide (vt > ck) = true := decide_eq_true (by omega)
            have hgt2 : decide (ck < vt) = true := decide_eq_true (by omega)
            clear ht
            go_wp2_with fail
            refine wp_region_noPanic ?_
            refine wp_region_held_drew (S := (fun w' => (w'.cell? ⟨wo.heap.size, 0, none⟩ = some (.slice (some ⟨b1, off1, none⟩) 4 sc)) ∧ w'.cell? ⟨w.heap.size, 1, none⟩ = some (.int .i64 ck) ∧ Six w' b1 (off1 + q * 6) ⟨vk, vt, vu, va, vc, vts, vs', vg⟩ ∧ Inv w (wo.heap.size + 1) [(wo.heap.size, 130, #[.slice (some ⟨b1, off1, none⟩) 4 sc]), (w.heap.size, 37, plAt me ck (some ⟨G, 0, none⟩) ns.length cc la log.length lc (some ⟨b, off, none⟩) 3 gc fell)] w')) (by kernel_rfl) (by exact ⟨(hJ.drew.nth 0 rfl).one.1, (hJ.drew.nth 1 rfl).at 1, HSX.out _ hJ.drew.below, hJ.drew⟩) (fun hHeld => ?_)
            refine take_run 0 (some 79) (v := ?_) rfl rfl (by kernel_rfl) (by kernel_rfl) (by kernel_rfl) (fun _ _ _ h => h) (by rfl) ?_ hHeld ?_
            rotate_left
            · ((intro w hSw); (try dsimp only at hSw); go_simp <;> with_reducible rfl)
            simp only [Act.put, List.setIfInBounds_toArray, List.set_cons_zero, List.set_cons_succ]
            refine take_run 1 (some 80) (v := ?_) rfl rfl (by kernel_rfl) (by kernel_rfl) (by kernel_rfl) (fun _ _ _ h => h) (by rfl) ?_ hHeld ?_
            rotate_left
            · ((intro w hSw); (try dsimp only at hSw); go_simp <;> with_reducible rfl)
            simp only [Act.put, List.setIfInBounds_toArray, List.set_cons_zero, List.set_cons_succ]
            refine take_run 2 (some 81) (v := ?_) rfl rfl (by kernel_rfl) (by kernel_rfl) (by kernel_rfl) (fun _ _ _ h => h) (by rfl) ?_ hHeld ?_
            rotate_left
            · ((intro w hSw); (try dsimp only at hSw); go_simp <;> with_reducible rfl)
            simp only [Act.put, List.setIfInBounds_toArray, List.set_cons_zero, List.set_cons_succ]
            refine take_run 3 (some 82) (v := ?_) rfl rfl (by kernel_rfl) (by kernel_rfl) (by kernel_rfl) (fun _ _ _ h => h) (by rfl) ?_ hHeld ?_
            rotate_left
            · ((intro w hSw); (try dsimp only at hSw); go_simp <;> with_reducible rfl)
            simp only [Act.put, List.setIfInBounds_toArray, List.set_cons_zero, List.set_cons_succ]
            refine take_run 4 (some 83) (v := ?_) rfl rfl (by kernel_rfl) (by kernel_rfl) (by kernel_rfl) (fun _ _ _ h => h) (by rfl) ?_ hHeld ?_
            rotate_left
            · ((intro w hSw); (try dsimp only at hSw); go_simp <;> with_reducible rfl)
            simp only [Act.put, List.setIfInBounds_toArray, List.set_cons_zero, List.set_cons_succ]
            refine take_run 5 (some 84) (v := ?_) rfl rfl (by kernel_rfl) (by kernel_rfl) (by kernel_rfl) (fun _ _ _ h => h) (by rfl) ?_ hHeld ?_
            rotate_left
            · ((intro w hSw); (try dsimp only at hSw); go_simp <;> with_reducible rfl)
            simp only [Act.put, List.setIfInBounds_toArray, List.set_cons_zero, List.set_cons_succ]
            refine take_run 6 (some 85) (v := ?_) rfl rfl (by kernel_rfl) (by kernel_rfl) (by kernel_rfl) (fun _ _ _ h => h) (by rfl) ?_ hHeld ?_
            rotate_left
            · ((intro w hSw); (try dsimp only at hSw); go_simp <;> with_reducible rfl)
            simp only [Act.put, List.setIfInBounds_toArray, List.set_cons_zero, List.set_cons_succ]
            refine take_run 7 (some 86) (v := ?_) rfl rfl (by kernel_rfl) (by kernel_rfl) (by kernel_rfl) (fun _ _ _ h => h) (by rfl) ?_ hHeld ?_
            rotate_left
            · ((intro w hSw); (try dsimp only at hSw); go_simp <;> with_reducible rfl)
            simp only [Act.put, List.setIfInBounds_toArray, List.set_cons_zero, List.set_cons_succ]
            refine take_run 8 (some 87) (v := ?_) rfl rfl (by kernel_rfl) (by kernel_rfl) (by kernel_rfl) (fun _ _ _ h => h) (by rfl) ?_ hHeld ?_
            rotate_left
            · ((intro w hSw); (try dsimp only at hSw); go_simp <;> with_reducible rfl)
            simp only [Act.put, List.setIfInBounds_toArray, List.set_cons_zero, List.set_cons_succ]
            refine take_run 9 (some 88) (v := ?_) rfl rfl (by kernel_rfl) (by kernel_rfl) (by kernel_rfl) (fun _ _ _ h => h) (by rfl) ?_ hHeld ?_
            rotate_left
            · ((intro w hSw); (try dsimp only at hSw); go_simp <;> with_reducible rfl)
            simp only [Act.put, List.setIfInBounds_toArray, List.set_cons_zero, List.set_cons_succ]
            refine wpAnyH_done (by kernel_rfl) ?_ _
            refine NoPanic.normal ?_
            have hJ2 := hide hHeld.2.2.2
            clear hHeld hJ
            go_wp2
            go_ret
            exact ⟨ret_bool HX.out.symm, hJ2.out.below⟩
        · have hq4 : q = 4 := by omega
          have HX := hide (HMK.out H1.out H4.out (HCMK.out (fun j v hj => hno.out j v (by have := (List.getElem?_eq_some_iff.1 hj).1; have := HS4.out; omega) hj)) H5.out H6.out HGO.out)
          subst hq4
          clear hltq hno
          go_wp2
          go_ret
          exact ⟨ret_bool HX.out.symm, hJ.below⟩
set_option maxHeartbeats 1000000 in
theorem specPlaceOk_any (p : Pl) (w : World) (hm : SmP p) (hC : Cp w p) :
    Calls Tryz.prog 11 #[.agg (plCells p)] w fun e w' => e = .returned (.bool (plB p)) ∧ Below w.heap.size w w' := by
  have CT := hide (fun W hW => l4Ok_any p W hm (hC.on hW))
  have L0 := below_alloc1 w (.cells (plCells p) 37)
  obtain ⟨me, ck, ca, cc, ns, la, lc, log, ga, gc, gs, fell⟩ := p
  have q0 := (Blk.made w 37 (plAt me ck ca ns.length cc la log.length lc ga gs.length gc fell)).six
  clear hm hC
  go_enter Tryz.func11, Tryz.ntmps11
  go_wp2_with fail
  first
    | with_reducible refine (CT.out _ L0).mono ?_
    | with_reducible refine (CT.out _ (Below.refl _ _)).mono ?_
  all_goals
    rintro e w1 ⟨rfl, hb1⟩
    have hL := L0.trans (hb1.mono L0.size)
    generalize hx : plB _ = x
    have HX := hide hx
    clear hx
    go_wp2
    go_ret
    first
      | exact ⟨ret_bool HX.out.symm, hL⟩
      | exact ⟨ret_bool HX.out.symm, hb1⟩
end Go.Proofs.YtbbaogpgapemhaaGreat
