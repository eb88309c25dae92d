/- Contract of what the model asks of a place's logs. Condition: sizes that memory holds. -/
import Derived.Test.YtnaggcdhimcilaaGreatJNoteQ
import Derived.Test.YtnaggcdhimcilaaGreatJPlaceOk4
import Derived.Test.YtnaggcdhimcilaaGreatJNotePure
import Derived.Test.YtnaggcdhimcilaaGreatJChainSpec3
namespace Go.Proofs.YtnaggcdhimcilaaGreat
open Go.RowKit Go.Joins
attribute [local go_sem ↓] Go.wp_at_zero Go.wp_at_succ

theorem logB_all {us : List V} {p : Int} (h : ∀ i, i < us.length → entryB us p i = true) : logB us p = decide (us.length ≤ 60) := by
  by_cases h0 : us.length ≤ 60
  · rw [logB_ok h0 h, decide_eq_true h0]
  · rw [logB_long h0, decide_eq_false h0]
theorem hasB_take_no {us : List V} {k : Nat} {t u : Int} (h : ∀ (j : Nat) y, j < k → us[j]? = some y → eqB y.t y.u t u = false) : hasB (us.take k) t u = false := by
  unfold hasB
  rw [List.any_eq_false]
  intro v hv
  obtain ⟨j, hj⟩ := List.getElem?_of_mem hv
  rw [List.getElem?_take] at hj
  split at hj
  · rename_i hjk
    have := h j v hjk hj
    unfold eqB at this
    rw [this]
    decide
  · cases hj
theorem hasB_take_yes {us : List V} {j k : Nat} {y : V} {t u : Int} (hj : j < k) (hy : us[j]? = some y) (h : eqB y.t y.u t u = true) : hasB (us.take k) t u = true := by
  unfold hasB
  rw [List.any_eq_true]
  refine ⟨y, List.mem_of_getElem? (i := j) ?_, h⟩
  rw [List.getElem?_take, if_pos hj, hy]
set_option maxRecDepth 100000 in
set_option maxHeartbeats 4000000 in
theorem l4Log_any (a : Option Addr) (c : Nat) (us : List V) (p : Int) (w : World) (hn : us.length ≤ 1048576) (hm : Small us) (hv : Vg w w.heap.size a us) :
    Calls Tryz.prog 56 #[.slice a us.length c, .int .i64 p] w fun e w' => e = .returned (.bool (logB us p)) ∧ Below w.heap.size w w' := by
  have HM := hide hm
  have HF : Hid (∀ i, i < us.length → entryB us p i = false → logB us p = false) := fun i hi h => logB_bad hi h
  have HO : Hid ((∀ i, i < us.length → entryB us p i = true) → logB us p = decide (us.length ≤ 60)) := fun h => logB_all h
  have HTN : Hid (∀ (k : Nat) (t u : Int), (∀ (j : Nat) y, j < k → us[j]? = some y → eqB y.t y.u t u = false) → hasB (us.take k) t u = false) := fun k t u h => hasB_take_no h
  have HTY : Hid (∀ (j k : Nat) (y : V) (t u : Int), j < k → us[j]? = some y → eqB y.t y.u t u = true → hasB (us.take k) t u = true) := fun j k y t u hj hy h => hasB_take_yes hj hy h
  clear hm
  generalize hnn : us.length = n at *
  have HN := hide hnn
  clear hnn
  go_enter Tryz.func56, Tryz.ntmps56
  go_wp2
  go_loopw [5] (fun i wo => ∃ k : Nat, k ≤ n ∧ i = .int .i64 (k : Int) ∧ Hid (∀ i, i < k → entryB us p i = true) ∧ Below w.heap.size w wo) (fun i _ => n - (intOf i).toNat)
  case atStart => exact ⟨0, Nat.zero_le _, rfl, fun i hi => absurd hi (by omega), Below.refl _ _⟩
  case round =>
    rename World => wo
    obtain ⟨k, hk, rfl, hall, hL⟩ := hrel
    by_cases hlt : k < n
    · rcases hv with h0 | ⟨b, off, rfl, hb, hx⟩
      · have := HN.out; subst h0; simp at this; omega
      · have hkl : k < us.length := by have := HN.out; omega
        have HXX := hide hx
        obtain ⟨hS, hT⟩ := hx k _ (List.getElem?_eq_getElem hkl)
        have HY := hide (List.getElem?_eq_getElem hkl)
        generalize us[k] = v at hS hT HY
        have HB := hide (HM.out v (List.mem_of_getElem? HY.out))
        have HSX := hide (show ∀ W, Below w.heap.size w W → Six W b (off + k * 6) v from fun W hW => hS.keep hb fun _ hp => hW.cell hp)
        have Q1 := HSX.out wo hL
        have HT := hide (show ∀ W, Below w.heap.size w W → Tg W W.heap.size v.a v.ts from fun W hW => (hT.on hW).up hW.size)
        have HE1 : Hid (verV v = false → entryB us p k = false) := fun hv => by rw [entryB_at HY.out, hv]; rfl
        have HE2 : Hid (¬ v.u = p → entryB us p k = false) := fun hv => by rw [entryB_at HY.out, decide_eq_false hv, Bool.and_false]; rfl
        have HE3 : Hid (verV v = true → v.u = p → entryB us p k = !hasB (us.take k) v.t v.u) := fun hv hu => by rw [entryB_at HY.out, hv, decide_eq_true hu]; rfl
        have HFF := hide (HF.out k hlt)
        obtain ⟨vk, vt, vu, va, vc, vts, vs', vg⟩ := v
        simp only at Q1 HT HB HE1 HE2 HE3 HSX
        have HVE : Hid (verV ⟨vk, vt, vu, va, vc, vts, vs', vg⟩ = verB vk vt vu vts vs' vg) := rfl
        have CV : Hid (∀ W, Below w.heap.size w W → Calls Tryz.prog 93 #[.agg (verC vk vt vu va vts.length vc vs' vg)] W fun e w' => e = .returned (.bool (verB vk vt vu vts vs' vg)) ∧ Below W.heap.size W w') := fun W hW => l2Ok_any vk vt vu va vc vts vs' vg W HB.out.1 HB.out.2 (HT.out W hW)
        have i1 : (0 : Int) ≤ (k : Int) := by omega
        have i2 : (k : Int) < (n : Int) := by omega
        clear hS hT hx
        cases hq : verB vk vt vu vts vs' vg
        · have HX := hide (HFF.out (HE1.out (HVE.out.trans hq)))
          rw [hq] at CV
          clear hq HE1 HE2 HE3 HFF
          go_wp2_with fail
          with_reducible refine (CV.out _ hL).mono ?_
          rintro e w3 ⟨rfl, hb3⟩
          go_wp2
          go_ret
          exact ⟨ret_bool HX.out.symm, hL.trans (hb3.mono hL.size)⟩
        rw [hq] at CV
        by_cases hpu : vu = p
        rotate_left
        · have HX := hide (HFF.out (HE2.out hpu))
          have hne : (vu != p) = true := by simpa using hpu
          clear hq HE1 HE2 HE3 HFF hpu
          have HQ2 := hide HSX.out
          go_wp2_with fail
          with_reducible refine (CV.out _ hL).mono ?_
          rintro e w3 ⟨rfl, hb3⟩
          have hL3 := hL.trans (hb3.mono hL.size)
          have Q3 := HQ2.out w3 hL3
          go_wp2
          go_ret
          exact ⟨ret_bool HX.out.symm, hL3⟩
        have HE := hide (HE3.out (HVE.out.trans hq) hpu)
        have hne : (vu != p) = false := by simpa using hpu
        have HNO := hide (HTN.out k vt vu)
        have HYES : Hid (∀ (j : Nat) y, j < k → us[j]? = some y → eqB y.t y.u vt vu = true → hasB (us.take k) vt vu = true) := fun j y hj hy h => HTY.out j k y vt vu hj hy h
        clear hq HE1 HE2 HE3 hpu
        go_wp2_with fail
        with_reducible refine (CV.out _ hL).mono ?_
        rintro e w3 ⟨rfl, hb3⟩
        have hL3 := hL.trans (hb3.mono hL.size)
        have Q3 := HSX.out w3 hL3
        clear Q1 CV
        go_wp2
        clear Q3
        go_loopw [6] (fun i wi => ∃ q : Nat, q ≤ k ∧ i = .int .i64 (q : Int) ∧ Hid (∀ (j : Nat) y, j < q → us[j]? = some y → eqB y.t y.u vt vu = false) ∧ Below w.heap.size w wi) (fun i _ => k - (intOf i).toNat)
        case atStart => exact ⟨0, Nat.zero_le _, rfl, fun j y hj => absurd hj (by omega), hL3⟩
        case round =>
          obtain ⟨q, hq, rfl, hno, hLi⟩ := hrel
          by_cases hltq : q < k
          · have hql : q < us.length := by have := HN.out; omega
            obtain ⟨hS, -⟩ := HXX.out q _ (List.getElem?_eq_getElem hql)
            have HZ := hide (List.getElem?_eq_getElem hql)
            generalize us[q] = y at hS HZ
            have HSY := hide (show ∀ W, Below w.heap.size w W → Six W b (off + q * 6) y from fun W hW => hS.keep hb fun _ hp => hW.cell hp)
            have hte := tagEq_at y.t y.u vt vu
            obtain ⟨yk, yt, yu, ya, yc, yts, ys, yg⟩ := y
            simp only at hte HSY
            have j1 : (0 : Int) ≤ (q : Int) := by omega
            have j2 : (q : Int) < (k : Int) := by omega
            have j3 : (q : Int) < (n : Int) := by omega
            clear hS
            cases hpy : eqB yt yu vt vu
            · rw [hpy] at hte
              have HN1 : Hid (∀ (j : Nat) y, j < q + 1 → us[j]? = some y → eqB y.t y.u vt vu = false) := fun j x hj hx => by
                by_cases e : j = q
                · subst e
                  have h1 := HZ.out
                  rw [h1] at hx
                  injection hx with hx
                  subst hx
                  exact hpy
                · exact hno.out j x (by omega) hx
              clear hpy
              go_wp2_with fail
              refine wp_region_noPanic ?_
              refine wp_region_held_drew (S := (fun w' => Six w' b (off + k * 6) ⟨vk, vt, vu, va, vc, vts, vs', vg⟩ ∧ Six w' b (off + q * 6) ⟨yk, yt, yu, ya, yc, yts, ys, yg⟩ ∧ Below w.heap.size w w')) (by kernel_rfl) (by exact ⟨HSX.out _ hLi.drew, HSY.out _ hLi.drew, hLi.drew⟩) (fun hHeld => ?_)
              refine mvR 0 (some 34) hHeld ?_
              refine mvR 1 (some 35) hHeld ?_
              refine mvR 2 (some 36) hHeld ?_
              refine mvR 3 (some 37) hHeld ?_
              refine mvR 4 (some 38) hHeld ?_
              refine mvR 5 (some 39) hHeld ?_
              refine mvR 6 (some 40) hHeld ?_
              refine mvR 7 (some 41) hHeld ?_
              refine mvR 8 (some 42) hHeld ?_
              refine mvR 9 (some 43) hHeld ?_
              refine mvR 10 (some 44) hHeld ?_
              refine wpAnyH_done (by kernel_rfl) ?_ _
              refine NoPanic.normal ?_
              have hLj := hHeld.2.2
              clear hHeld
              go_wp2
              exact ⟨⟨q + 1, by omega, by go_num, HN1, hLj⟩, by simp [intOf]; omega⟩
            · have HX := hide (HFF.out (HE.out.trans (by rw [HYES.out q _ hltq HZ.out hpy]; rfl)))
              rw [hpy] at hte
              clear hpy
              go_wp2_with fail
              refine wp_region_noPanic ?_
              refine wp_region_held_drew (S := (fun w' => Six w' b (off + k * 6) ⟨vk, vt, vu, va, vc, vts, vs', vg⟩ ∧ Six w' b (off + q * 6) ⟨yk, yt, yu, ya, yc, yts, ys, yg⟩ ∧ Below w.heap.size w w')) (by kernel_rfl) (by exact ⟨HSX.out _ hLi.drew, HSY.out _ hLi.drew, hLi.drew⟩) (fun hHeld => ?_)
              refine mvR 0 (some 34) hHeld ?_
              refine mvR 1 (some 35) hHeld ?_
              refine mvR 2 (some 36) hHeld ?_
              refine mvR 3 (some 37) hHeld ?_
              refine mvR 4 (some 38) hHeld ?_
              refine mvR 5 (some 39) hHeld ?_
              refine mvR 6 (some 40) hHeld ?_
              refine mvR 7 (some 41) hHeld ?_
              refine mvR 8 (some 42) hHeld ?_
              refine mvR 9 (some 43) hHeld ?_
              refine mvR 10 (some 44) hHeld ?_
              refine wpAnyH_done (by kernel_rfl) ?_ _
              refine NoPanic.normal ?_
              have hLj := hHeld.2.2
              clear hHeld
              go_wp2
              go_ret
              exact ⟨ret_bool HX.out.symm, hLj⟩
          · have hqk : q = k := by omega
            subst hqk
            clear hltq
            have HA : Hid (∀ i, i < q + 1 → entryB us p i = true) := fun i hi => by
              by_cases e : i = q
              · rw [e, HE.out, HNO.out (fun j y hj hy => hno.out j y hj hy)]; rfl
              · exact hall.out i (by omega)
            go_wp2
            exact ⟨⟨q + 1, by omega, by go_num, HA, hLi⟩, by simp [intOf]; omega⟩
    · have hkn : k = n := by omega
      subst hkn
      clear hlt
      have HX := hide (HO.out (fun i hi => hall.out i hi))
      by_cases h60 : k ≤ 60
      · have HXX := hide (HX.out.trans (decide_eq_true h60))
        have h6 : (k : Int) ≤ 60 := by omega
        go_wp2
        go_ret
        exact ⟨ret_bool HXX.out.symm, hL⟩
      · have HXX := hide (HX.out.trans (decide_eq_false h60))
        have h6 : ¬ (k : Int) ≤ 60 := by omega
        go_wp2
        go_ret
        exact ⟨ret_bool HXX.out.symm, hL⟩
end Go.Proofs.YtnaggcdhimcilaaGreat
/- Contracts of what the model asks of a place's causes, and of a place. Condition: sizes that memory holds. -/
namespace Go.Proofs.YtnaggcdhimcilaaGreat
open Go.RowKit Go.Joins
attribute [local go_sem ↓] Go.wp_at_zero Go.wp_at_succ

theorem hang_early {st : List (Int × Int)} {v : V} (h : ¬ 0 < v.t) : hangsB st v = true := by unfold hangsB; rw [decide_eq_true (by omega)]; rfl
theorem hang_late {st : List (Int × Int)} {v : V} (h : 0 < v.t) (h1 : pastB v.ts = true) (h2 : pastB st = true) : hangsB st v = withinB v.ts st := by unfold hangsB; rw [decide_eq_false (by omega), pwB_3 h1 h2]; rfl
theorem slot_hang {st : List (Int × Int)} {i : Nat} {v : V} (hs : pastB st = true) (h : slotB i v = true) (ht : 0 < v.t) : v.ts.length = 4 ∧ hangsB st v = withinB v.ts st := by
  rcases slot_two h with ⟨_, h2⟩ | ⟨_, _, h3⟩
  · omega
  · exact ⟨pastB_four (verB_parts h3).2.2.2, hang_late ht (verB_parts h3).2.2.2 hs⟩
theorem ver_hang {st : List (Int × Int)} {v : V} (hs : pastB st = true) (h : verV v = true) : v.ts.length = 4 ∧ hangsB st v = withinB v.ts st :=
  ⟨pastB_four (verB_parts h).2.2.2, hang_late (ver_pos h) (verB_parts h).2.2.2 hs⟩
theorem causes_end {ns : List Nd} (h : ∀ (i : Nat) n, ns[i]? = some n → (∀ (j : Nat) v, n.ss[j]? = some v → hangsB (stableR ns) v = true) ∧ ∀ (j : Nat) v, n.ws[j]? = some v → hangsB (stableR ns) v = true) : causesB ns = true :=
  causesB_ok fun i n hn => ⟨fun v hv => by
    obtain ⟨j, hj⟩ := List.getElem?_of_mem hv
    exact (h i n hn).1 j v hj, fun v hv => by
    obtain ⟨j, hj⟩ := List.getElem?_of_mem hv
    exact (h i n hn).2 j v hj⟩
set_option maxRecDepth 100000 in
set_option maxHeartbeats 8000000 in
theorem l4Causes_any (A : Option Addr) (c : Nat) (ns : List Nd) (w : World) (hok : chainB ns = true) (hC : CgA w A ns) :
    Calls Tryz.prog 55 #[.agg #[.slice A ns.length c]] w fun e w' => e = .returned (.bool (causesB ns)) ∧ Below w.heap.size w w' := by
  obtain ⟨⟨h1, h4⟩, hnb, -⟩ := chainB_parts hok
  obtain ⟨p, hp⟩ : ∃ p, ns.length = p + 1 := ⟨ns.length - 1, by omega⟩
  obtain ⟨nl, hnl⟩ : ∃ nl, ns[p]? = some nl := ⟨_, List.getElem?_eq_getElem (by omega)⟩
  have hsl := (nodeB_parts (hnb p nl hnl)).1
  have hst : stableR ns = tagsR nl.ss := stableR_yes hok hp hnl
  have hpst : pastB (stableR ns) = true := by
    rw [hst]
    unfold tagsR
    rw [if_pos hsl]
    exact past_tags hsl
  have HSH : Hid (∀ (i j : Nat) n v, ns[i]? = some n → n.ss[j]? = some v → 0 < v.t → v.ts.length = 4 ∧ hangsB (stableR ns) v = withinB v.ts (stableR ns)) := fun i j n v hi hj ht => slot_hang hpst (storeB_slot (nodeB_parts (hnb i n hi)).1 hj) ht
  have HWH : Hid (∀ (i j : Nat) n v, ns[i]? = some n → n.ws[j]? = some v → v.ts.length = 4 ∧ hangsB (stableR ns) v = withinB v.ts (stableR ns)) := fun i j n v hi hj => ver_hang hpst ((nodeB_parts (hnb i n hi)).2.2 v (List.mem_of_getElem? hj))
  have HS4 : Hid (∀ (i : Nat) n, ns[i]? = some n → n.ss.length = 4) := fun i n hi => storeB_four (nodeB_parts (hnb i n hi)).1
  have HS6 : Hid (∀ (i : Nat) n, ns[i]? = some n → n.ws.length ≤ 6) := fun i n hi => (nodeB_parts (hnb i n hi)).2.1
  have HBAD : Hid (∀ (i j : Nat) n v, ns[i]? = some n → (n.ss[j]? = some v ∨ n.ws[j]? = some v) → hangsB (stableR ns) v = false → causesB ns = false) := fun i j n v hi hj h => causesB_bad hi hj h
  have HEND : Hid ((∀ (i : Nat) n, ns[i]? = some n → (∀ (j : Nat) v, n.ss[j]? = some v → hangsB (stableR ns) v = true) ∧ ∀ (j : Nat) v, n.ws[j]? = some v → hangsB (stableR ns) v = true) → causesB ns = true) := causes_end
  have HL4 := hide (pastB_four hpst)
  rcases hC with h0 | ⟨G, cur, rfl, hG⟩
  · rw [h0] at h1; simp at h1
  have HG := hide hG
  have CS : Hid (∀ W, Below w.heap.size w W → Calls Tryz.prog 95 #[.agg #[.slice (some ⟨G, 0, none⟩) ns.length c]] W (Answer W (stableR ns))) := fun W hW => by
    rw [hp, hst]
    exact l3Stable_any G c p ns cur nl W (by omega) (hG.on hW) hnl hsl
  have S0 := (Inv.start w).box 32 #[.slice (some ⟨G, 0, none⟩) ns.length c]
  simp only [World.size_alloc] at S0
  have c0 := (S0.nth 0 rfl).one.1
  clear hnb hnl hsl hst hpst hp hG hok
  generalize stableR ns = st at *
  generalize hnn : ns.length = n at *
  have HN := hide hnn
  clear hnn
  go_enter Tryz.func55, Tryz.ntmps55
  go_wp2_with fail
  with_reducible refine (CS.out _ S0.below).mono ?_
  rintro e w1 ⟨A1, cap1, rfl, R1, hb1⟩
  rw [HL4.out]
  have HS1 := hide R1.tg
  have I1 := ((S0.on hb1).top).box 94 #[.slice A1 4 cap1]
  have HTS : Hid (∀ W, Below w1.heap.size w1 W → Tg W W.heap.size A1 st) := fun W hW => (HS1.out.on hW).up hW.size
  have z1 := hb1.size
  simp only [World.size_alloc] at I1 z1
  have bA := hide (below_alloc1 w1 (.cells #[.slice A1 4 cap1] 94))
  clear S0 c0 R1 hb1 CS
  go_wp2
  generalize hW2 : w1.alloc (.cells #[.slice A1 4 cap1] 94) = W2 at I1 bA ⊢
  clear hW2
  go_loopw [4] (fun i wo => ∃ k : Nat, k ≤ n ∧ i = .int .i64 (k : Int) ∧ Hid (∀ (i : Nat) n, i < k → ns[i]? = some n → (∀ (j : Nat) v, n.ss[j]? = some v → hangsB st v = true) ∧ ∀ (j : Nat) v, n.ws[j]? = some v → hangsB st v = true) ∧ Inv w (w1.heap.size + 1) [(w1.heap.size, 94, #[.slice A1 4 cap1]), (w.heap.size, 32, #[.slice (some ⟨G, 0, none⟩) n c])] wo ∧ Below w1.heap.size w1 wo) (fun i _ => n - (intOf i).toNat)
  case atStart => exact ⟨0, Nat.zero_le _, rfl, fun i n hi => absurd hi (by omega), I1, bA.out⟩
  case round =>
    rename World => wo
    obtain ⟨k, hk, rfl, hall, hI, hL1⟩ := hrel
    clear I1 bA
    have c1 := (hI.nth 1 rfl).one.1
    by_cases hlt : k < n
    · obtain ⟨nd, hnd⟩ : ∃ nd, ns[k]? = some nd := ⟨_, List.getElem?_eq_getElem (by have := HN.out; omega)⟩
      have HND := hide hnd
      have H4 := hide (HS4.out k nd hnd)
      have hw6 := HS6.out k nd hnd
      have HSHk := hide (fun j v => HSH.out k j nd v hnd)
      have HWHk := hide (fun j v => HWH.out k j nd v hnd)
      have HBADk := hide (fun j v => HBAD.out k j nd v hnd)
      have HN0 : Hid (∀ W, Below w.heap.size w W → W.cell? ⟨G, k * 2, none⟩ = some (.slice nd.sa 4 nd.sc)) := fun W hW => by
        have := ((HG.out.on hW).blk.at (k * 2)).trans ((HG.out.on hW).at' k nd hnd).1
        rw [H4.out] at this
        exact this
      have HN1 : Hid (∀ W, Below w.heap.size w W → W.cell? ⟨G, k * 2 + 1, none⟩ = some (.slice nd.wa nd.ws.length nd.wc)) := fun W hW => ((HG.out.on hW).blk.at _).trans ((HG.out.on hW).at' k nd hnd).2
      have HVS := hide (HG.out.store k nd hnd)
      have HVW := hide (HG.out.wait k nd hnd)
      obtain ⟨sa, sc, ss, wa, wc, ws⟩ := nd
      simp only at H4 hw6 HSHk HWHk HBADk HN0 HN1 HVS HVW
      have i1 : (0 : Int) ≤ (k : Int) := by omega
      have i2 : (k : Int) < (n : Int) := by omega
      clear hnd
      go_wp2
      clear c1
      go_loopw [5] (fun i wi => ∃ q : Nat, q ≤ 4 ∧ i = .int .i64 (q : Int) ∧ Hid (∀ (j : Nat) v, j < q → ss[j]? = some v → hangsB st v = true) ∧ Inv w (w1.heap.size + 1) [(w1.heap.size, 94, #[.slice A1 4 cap1]), (w.heap.size, 32, #[.slice (some ⟨G, 0, none⟩) n c])] wi ∧ Below w1.heap.size w1 wi) (fun i _ => 4 - (intOf i).toNat)
      case atStart => exact ⟨0, by omega, rfl, fun j v hj => absurd hj (by omega), hI, hL1⟩
      case round =>
        rename World => wi
        obtain ⟨q, hq, rfl, hno, hIi, hLi⟩ := hrel
        clear hI hL1
        by_cases hltq : q < 4
        · have hql : q < ss.length := by have := H4.out; omega
          rcases HVS.out with h0 | ⟨b, off, rfl, hb, hx⟩
          · rw [h0] at hql; simp at hql
          obtain ⟨hS, hT⟩ := hx q _ (List.getElem?_eq_getElem hql)
          have HY := hide (List.getElem?_eq_getElem hql)
          generalize ss[q] = v at hS hT HY
          have Q1 := (hS.keep hb fun _ hp => hIi.below.cell hp)
          have HT := hide (show ∀ W, Below w.heap.size w W → Tg W W.heap.size v.a v.ts from fun W hW => (hT.on hW).up hW.size)
          have HH := hide (HSHk.out q v HY.out)
          have HB := hide (fun h => HBADk.out q v (.inl HY.out) h)
          have c2 := (hIi.nth 1 rfl).one.1
          have n0 := HN0.out _ hIi.below
          have HSTEP : Hid (hangsB st v = true → ∀ (j : Nat) x, j < q + 1 → ss[j]? = some x → hangsB st x = true) := fun h j x hj hx => by
            by_cases e : j = q
            · subst e
              have h1 := HY.out
              rw [h1] at hx
              injection hx with hx
              subst hx
              exact h
            · exact hno.out j x (by omega) hx
          have HEA := hide (@hang_early st v)
          obtain ⟨vk, vt, vu, va, vc, vts, vs', vg⟩ := v
          simp only at Q1 HT HH HEA
          have j1 : (0 : Int) ≤ (q : Int) := by omega
          have j2 : (q : Int) < 4 := by omega
          clear hS hT hx
          by_cases ht : 0 < vt
          · obtain ⟨h4, hw⟩ := HH.out ht
            obtain ⟨s0, s1, s2, s3, s4, s5⟩ := Q1
            simp only at s0 s1 s2 s3 s4 s5
            rw [h4] at s3
            have CW : Hid (∀ W, Below w1.heap.size w1 W → Below w.heap.size w W → Calls Tryz.prog 96 #[.agg #[.slice va 4 vc], .agg #[.slice A1 4 cap1]] W fun e w' => e = .returned (.bool (withinB vts st)) ∧ Below W.heap.size W w') := fun W hW1 hW => l1Within_any va A1 vc cap1 vts st W h4 HL4.out (HT.out W hW) (HTS.out W hW1)
            have X1 := (hIi.top).box 96 (verC vk vt vu va 4 vc vs' vg)
            have bX := hide (hLi.trans ((below_alloc1 wi (.cells (verC vk vt vu va 4 vc vs' vg) 96)).mono hLi.size))
            have p1 := (X1.nth 1 rfl).one.1
            have HRM := hide hIi.room
            have HW := hide hw
            clear h4 hw HH
            go_wp2_with fail
            generalize wi.alloc (.cells (verC vk vt vu va 4 vc vs' vg) 96) = W3 at X1 bX p1 ⊢
            with_reducible refine (CW.out _ bX.out X1.below).mono ?_
            rintro e w4 ⟨rfl, hb4⟩
            have X4 := X1.on hb4
            have bX4 := hide (bX.out.trans (hb4.mono bX.out.size))
            clear X1 p1 CW hb4
            cases hq' : withinB vts st
            · have HX := hide (HB.out (HW.out.trans hq'))
              clear hq'
              go_wp2
              go_ret
              exact ⟨ret_bool HX.out.symm, X4.below⟩
            · have HX := hide (HSTEP.out (HW.out.trans hq'))
              have X5 : Hid (Inv w (w1.heap.size + 1) [(w1.heap.size, 94, #[.slice A1 4 cap1]), (w.heap.size, 32, #[.slice (some ⟨G, 0, none⟩) n c])] w4) := ⟨X4.below, by have := HRM.out; have := X4.room; have := X4.base; have := bX4.out.size; have := (X4.nth 1 rfl).inside; omega, fun x hx => ⟨by
                simp only [List.mem_cons, List.not_mem_nil, or_false] at hx
                rcases hx with rfl | rfl <;> simp only <;> omega, by
                simp only [List.mem_cons, List.not_mem_nil, or_false] at hx
                rcases hx with rfl | rfl <;> simp only <;> omega, by
                simp only [List.mem_cons, List.not_mem_nil, or_false] at hx
                rcases hx with rfl | rfl
                · exact X4.nth 1 rfl
                · exact X4.nth 2 rfl⟩⟩
              clear hq' X4
              go_wp2
              exact ⟨⟨q + 1, by omega, by go_num, HX, X5.out, bX4.out⟩, by simp [intOf]; omega⟩
          · have HX := hide (HSTEP.out (HEA.out ht))
            have X4 := hIi.alloc (.cells (verC vk vt vu va vts.length vc vs' vg) 96)
            have bX := hide (hLi.trans ((below_alloc1 wi (.cells (verC vk vt vu va vts.length vc vs' vg) 96)).mono hLi.size))
            have HX4 := hide X4
            clear X4 HH
            go_wp2
            exact ⟨⟨q + 1, by omega, by go_num, HX, HX4.out, bX.out⟩, by simp [intOf]; omega⟩
        · have hq4 : q = 4 := by omega
          have HALLS : Hid (∀ (j : Nat) v, ss[j]? = some v → hangsB st v = true) := fun j v hj => hno.out j v (by have := (List.getElem?_eq_some_iff.1 hj).1; have := H4.out; omega) hj
          have hq4i : ¬ ((q : Int) < 4) := by omega
          clear hno hltq hq hq4
          go_wp2
          clear hq4i
          go_loopw [7] (fun i wj => ∃ q : Nat, q ≤ ws.length ∧ i = .int .i64 (q : Int) ∧ Hid (∀ (j : Nat) v, j < q → ws[j]? = some v → hangsB st v = true) ∧ Inv w (w1.heap.size + 1) [(w1.heap.size, 94, #[.slice A1 4 cap1]), (w.heap.size, 32, #[.slice (some ⟨G, 0, none⟩) n c])] wj ∧ Below w1.heap.size w1 wj) (fun i _ => ws.length - (intOf i).toNat)
          case atStart => exact ⟨0, Nat.zero_le _, rfl, fun j v hj => absurd hj (by omega), hIi, hLi⟩
          case round =>
            rename World => wj
            obtain ⟨q, hq, rfl, hno, hIj, hLj⟩ := hrel
            clear hIi hLi
            have c2 := (hIj.nth 1 rfl).one.1
            have n1 := HN1.out _ hIj.below
            by_cases hltq : q < ws.length
            · rcases HVW.out with h0 | ⟨b, off, rfl, hb, hx⟩
              · rw [h0] at hltq; simp at hltq
              obtain ⟨hS, hT⟩ := hx q _ (List.getElem?_eq_getElem hltq)
              have HY := hide (List.getElem?_eq_getElem hltq)
              generalize ws[q] = v at hS hT HY
              have HSX := hide (show ∀ W, Below w.heap.size w W → Six W b (off + q * 6) v from fun W hW => hS.keep hb fun _ hp => hW.cell hp)
              have HT := hide (show ∀ W, Below w.heap.size w W → Tg W W.heap.size v.a v.ts from fun W hW => (hT.on hW).up hW.size)
              have HH := hide (HWHk.out q v HY.out)
              have HB := hide (fun h => HBADk.out q v (.inr HY.out) h)
              have HSTEP : Hid (hangsB st v = true → ∀ (j : Nat) x, j < q + 1 → ws[j]? = some x → hangsB st x = true) := fun h j x hj hx => by
                by_cases e : j = q
                · subst e
                  have h1 := HY.out
                  rw [h1] at hx
                  injection hx with hx
                  subst hx
                  exact h
                · exact hno.out j x (by omega) hx
              obtain ⟨vk, vt, vu, va, vc, vts, vs', vg⟩ := v
              simp only at HSX HT HH
              obtain ⟨h4, hw⟩ := HH.out
              have HSX4 : Hid (∀ W, Below w.heap.size w W → W.cell? ⟨b, off + q * 6 + 3, none⟩ = some (.slice va 4 vc)) := fun W hW => by
                have := (HSX.out W hW).2.2.2.1
                simp only at this
                rw [h4] at this
                exact this
              have CW : Hid (∀ W, Below w1.heap.size w1 W → Below w.heap.size w W → Calls Tryz.prog 96 #[.agg #[.slice va 4 vc], .agg #[.slice A1 4 cap1]] W fun e w' => e = .returned (.bool (withinB vts st)) ∧ Below W.heap.size W w') := fun W hW1 hW => l1Within_any va A1 vc cap1 vts st W h4 HL4.out (HT.out W hW) (HTS.out W hW1)
              have HW := hide hw
              have j1 : (0 : Int) ≤ (q : Int) := by omega
              have j2 : (q : Int) < (ws.length : Int) := by omega
              generalize ws.length = nw at *
              clear hS hT hx h4 hw HH
              go_wp2_with fail
              refine wp_region_noPanic ?_
              refine wp_region_held_drew (S := (fun w' => w'.cell? ⟨w.heap.size, 0, none⟩ = some (.slice (some ⟨G, 0, none⟩) n c) ∧ w'.cell? ⟨G, k * 2 + 1, none⟩ = some (.slice (some ⟨b, off, none⟩) nw wc) ∧ w'.cell? ⟨b, off + q * 6 + 3, none⟩ = some (.slice va 4 vc) ∧ w'.cell? ⟨w1.heap.size, 0, none⟩ = some (.slice A1 4 cap1) ∧ Inv w (w1.heap.size + 1) [(w1.heap.size, 94, #[.slice A1 4 cap1]), (w.heap.size, 32, #[.slice (some ⟨G, 0, none⟩) n c])] w' ∧ Below w1.heap.size w1 w')) (by kernel_rfl) (by exact ⟨(hIj.drew.nth 1 rfl).one.1, HN1.out _ hIj.drew.below, HSX4.out _ hIj.drew.below, (hIj.drew.nth 0 rfl).one.1, hIj.drew, hLj.drew⟩) (fun hHeld => ?_)
              refine mvR 0 (some 53) hHeld ?_
              refine mvR 1 (some 54) hHeld ?_
              refine mvR 2 (some 55) hHeld ?_
              refine mvR 3 (some 56) hHeld ?_
              refine mvR 4 (some 57) hHeld ?_
              refine mvR 5 (some 58) hHeld ?_
              refine mvR 6 (some 59) hHeld ?_
              refine mvR 7 (some 60) hHeld ?_
              refine mvR 8 (some 61) hHeld ?_
              refine mvR 9 (some 62) hHeld ?_
              refine mvR 10 (some 63) hHeld ?_
              refine take_one 11 (by kernel_rfl) rfl (fun K hK => ?_)
              go_simp
              ((with_reducible refine (CW.out _ hHeld.2.2.2.2.2 hHeld.2.2.2.2.1.below).mono ?_); rintro e w4 ⟨rfl, hb⟩)
              try go_wp2_with fail
              refine hK.out _ _ (by exact ⟨((hHeld.2.2.2.2.1.on hb).nth 1 rfl).one.1, HN1.out _ (hHeld.2.2.2.2.1.on hb).below, HSX4.out _ (hHeld.2.2.2.2.1.on hb).below, ((hHeld.2.2.2.2.1.on hb).nth 0 rfl).one.1, hHeld.2.2.2.2.1.on hb, hHeld.2.2.2.2.2.trans (hb.mono hHeld.2.2.2.2.2.size)⟩) (fun hHeld => ?_)
              clear hK K
              refine mvR 12 (some 65) hHeld ?_
              refine wpAnyH_done (by kernel_rfl) ?_ _
              refine NoPanic.normal ?_
              have X4 := hide hHeld.2.2.2.2.1
              have bX4 := hide hHeld.2.2.2.2.2
              clear hHeld hIj hLj n1 CW c2
              cases hq' : withinB vts st
              · have HX := hide (HB.out (HW.out.trans hq'))
                clear hq'
                go_wp2
                go_ret
                exact ⟨ret_bool HX.out.symm, X4.out.below⟩
              · have HX := hide (HSTEP.out (HW.out.trans hq'))
                clear hq'
                go_wp2
                exact ⟨⟨q + 1, by omega, by go_num, HX, X4.out, bX4.out⟩, by simp [intOf]; omega⟩
            · have hqn : q = ws.length := by omega
              have HALLW : Hid (∀ (j : Nat) v, ws[j]? = some v → hangsB st v = true) := fun j v hj => hno.out j v (by have := (List.getElem?_eq_some_iff.1 hj).1; omega) hj
              have HA : Hid (∀ (i : Nat) n, i < k + 1 → ns[i]? = some n → (∀ (j : Nat) v, n.ss[j]? = some v → hangsB st v = true) ∧ ∀ (j : Nat) v, n.ws[j]? = some v → hangsB st v = true) := fun i n hi hn => by
                by_cases e : i = k
                · subst e
                  have h1 := HND.out
                  rw [h1] at hn
                  injection hn with hn
                  subst hn
                  exact ⟨HALLS.out, HALLW.out⟩
                · exact hall.out i n (by omega) hn
              have HI9 := hide hIj
              have HL9 := hide hLj
              have hng : ¬ ((q : Int) < (ws.length : Int)) := by omega
              generalize ws.length = nw at *
              clear hno hltq hqn hq hIj hLj
              go_wp2
              exact ⟨⟨k + 1, by omega, by go_num, HA, HI9.out, HL9.out⟩, by simp [intOf]; omega⟩
    · have hkn : k = n := by omega
      subst hkn
      clear hlt
      have HX := hide (HEND.out (fun i n hn => hall.out i n (by have := (List.getElem?_eq_some_iff.1 hn).1; have := HN.out; omega) hn))
      go_wp2
      go_ret
      exact ⟨ret_bool HX.out.symm, hI.below⟩
end Go.Proofs.YtnaggcdhimcilaaGreat
/- Contract of whether a place is valid, in the model. Condition: sizes that memory holds. -/
namespace Go.Proofs.YtnaggcdhimcilaaGreat
open Go.RowKit Go.Joins
attribute [local go_sem ↓] Go.wp_at_zero Go.wp_at_succ

theorem plB_no {p : Pl} (h : (0 ≤ p.me ∧ p.me ≤ 2) → chainB p.ns = true → clockB p.ck p.ns = true → causesB p.ns = true → logB p.log p.me = true → gotB p.me (p.gs.map Lg.vs) = true → False) : plB p = false := by
  cases hx : plB p with
  | false => rfl
  | true =>
    obtain ⟨h1, h2, h3, h4, h5, h6⟩ := plB_parts hx
    exact absurd (h h1 h2 h3 h4 h5 h6) id
theorem plB_mk {p : Pl} (h1 : 0 ≤ p.me ∧ p.me ≤ 2) (h2 : chainB p.ns = true) (h3 : clockB p.ck p.ns = true) (h4 : causesB p.ns = true) (h5 : logB p.log p.me = true) (h6 : gotB p.me (p.gs.map Lg.vs) = true) : plB p = true := by
  unfold plB placeB
  rw [decide_eq_true h1, h2, h3, h4, h5, h6]
  rfl
theorem clockB_range {c : Int} {ns : List Nd} (h : clockB c ns = true) : 0 ≤ c ∧ c ≤ 999 := by
  unfold clockB at h
  rw [Bool.and_eq_true, decide_eq_true_eq] at h
  exact h.1
theorem clockB_at {c : Int} {ns : List Nd} {n : Nd} {j : Nat} {v : V} (h : clockB c ns = true) (hn : ns[0]? = some n) (hv : n.ss[j]? = some v) : v.t ≤ c := by
  unfold clockB at h
  rw [hn, Bool.and_eq_true, List.all_eq_true] at h
  exact of_decide_eq_true (h.2 v (List.mem_of_getElem? hv))
theorem clockB_mk {c : Int} {ns : List Nd} {n : Nd} (h : 0 ≤ c ∧ c ≤ 999) (hn : ns[0]? = some n) (hv : ∀ (j : Nat) v, n.ss[j]? = some v → v.t ≤ c) : clockB c ns = true := by
  unfold clockB
  rw [hn, decide_eq_true h, Bool.true_and, List.all_eq_true]
  intro v hv'
  obtain ⟨j, hj⟩ := List.getElem?_of_mem hv'
  exact decide_eq_true (hv j v hj)
theorem gotB_len3 {me : Int} {gs : List Lg} (h : gotB me (gs.map Lg.vs) = true) : gs.length = 3 := by
  unfold gotB at h
  rw [Bool.and_eq_true, decide_eq_true_eq, List.length_map] at h
  exact h.1
theorem gotB_log {me : Int} {gs : List Lg} {i : Nat} {l : Lg} (h : gotB me (gs.map Lg.vs) = true) (hi : gs[i]? = some l) : logB l.vs (i : Int) = true ∧ ((i : Int) = me → l.vs.length = 0) := by
  unfold gotB at h
  rw [Bool.and_eq_true, decide_eq_true_eq, List.length_map, List.all_eq_true] at h
  have := h.2 i (List.mem_range.2 (List.getElem?_eq_some_iff.1 hi).1)
  rw [List.getElem?_map, hi] at this
  simp only [Option.map_some, Bool.and_eq_true, Bool.or_eq_true, decide_eq_true_eq] at this
  exact ⟨this.1, fun e => by rcases this.2 with h | h; exact absurd e h; exact h⟩
theorem gotB_make {me : Int} {gs : List Lg} (h3 : gs.length = 3) (h : ∀ (i : Nat) l, i < 3 → gs[i]? = some l → logB l.vs (i : Int) = true ∧ ((i : Int) = me → l.vs.length = 0)) : gotB me (gs.map Lg.vs) = true := by
  unfold gotB
  rw [List.length_map, decide_eq_true h3, Bool.true_and, List.all_eq_true]
  intro i hi
  have hi3 : i < 3 := by rw [← h3]; exact List.mem_range.1 hi
  obtain ⟨l, hl⟩ : ∃ l, gs[i]? = some l := ⟨_, List.getElem?_eq_getElem (by omega)⟩
  obtain ⟨h1, h2⟩ := h i l hi3 hl
  rw [List.getElem?_map, hl]
  simp only [Option.map_some]
  rw [h1, Bool.true_and]
  by_cases e : (i : Int) = me
  · rw [decide_eq_true (h2 e), Bool.or_true]
  · rw [decide_eq_true e, Bool.true_or]
set_option maxRecDepth 100000 in
set_option maxHeartbeats 8000000 in
theorem l4Ok_any (p : Pl) (w : World) (hm : SmP p) (hC : Cp w p) :
    Calls Tryz.prog 20 #[.agg (plCells p)] w fun e w' => e = .returned (.bool (plB p)) ∧ Below w.heap.size w w' := by
  have CCH : Hid (∀ W, Below w.heap.size w W → Calls Tryz.prog 54 #[.agg #[.slice p.ca p.ns.length p.cc]] W fun e w' => e = .returned (.bool (chainB p.ns)) ∧ Below W.heap.size W w') := fun W hW => l3Ok_any p.ca p.cc p.ns W hm.1.1 hm.1.2 (hC.1.on hW)
  have CCA : Hid (∀ W, Below w.heap.size w W → chainB p.ns = true → Calls Tryz.prog 55 #[.agg #[.slice p.ca p.ns.length p.cc]] W fun e w' => e = .returned (.bool (causesB p.ns)) ∧ Below W.heap.size W w') := fun W hW hc => l4Causes_any p.ca p.cc p.ns W hc (hC.1.on hW)
  have CLO : Hid (∀ W, Below w.heap.size w W → Calls Tryz.prog 56 #[.slice p.la p.log.length p.lc, .int .i64 p.me] W fun e w' => e = .returned (.bool (logB p.log p.me)) ∧ Below W.heap.size W w') := fun W hW => l4Log_any p.la p.lc p.log p.me W hm.2.1.1 hm.2.1.2 ((hC.2.1.on hW).up hW.size)
  have HNO := hide (plB_no (p := p))
  have HMK := hide (plB_mk (p := p))
  have HSG := hide hm.2.2.2
  have HG := hide hC.2.2
  have HCC := hide hC.1
  have HCP := hide (chainB_parts (ns := p.ns))
  obtain ⟨me, ck, ca, cc, ns, la, lc, log, ga, gc, gs, fell⟩ := p
  simp only at CCH CCA CLO HNO HMK HSG HG HCC HCP
  change Calls _ _ #[.agg (plAt me ck ca ns.length cc la log.length lc ga gs.length gc fell)] _ _
  generalize hgn : gs.length = gn
  have HGN := hide hgn
  have S0 := (Inv.start w).box 36 (plAt me ck ca ns.length cc la log.length lc ga gn gc fell)
  simp only [World.size_alloc] at S0
  have q0 := (S0.nth 0 rfl).six
  clear hm hC hgn
  go_enter Tryz.func20, Tryz.ntmps20
  go_wp2_with fail
  refine (l1In_any me 0 2 _).mono ?_
  rintro e w1 ⟨rfl, rfl⟩
  cases h1 : decide (0 ≤ me ∧ me ≤ 2)
  · have HX := hide (HNO.out fun a _ _ _ _ _ => absurd a (of_decide_eq_false h1))
    clear h1
    go_wp2
    go_ret
    exact ⟨ret_bool HX.out.symm, S0.below⟩
  have H1 := hide (of_decide_eq_true h1)
  clear h1
  go_wp2_with fail
  refine (l1In_any ck 0 999 _).mono ?_
  rintro e w1 ⟨rfl, rfl⟩
  cases h2 : decide (0 ≤ ck ∧ ck ≤ 999)
  · have HX := hide (HNO.out fun _ _ a _ _ _ => absurd (clockB_range a) (of_decide_eq_false h2))
    clear h2
    go_wp2
    go_ret
    exact ⟨ret_bool HX.out.symm, S0.below⟩
  have H2 := hide (of_decide_eq_true h2)
  clear h2
  by_cases h3 : gn = 3
  rotate_left
  · have HX := hide (HNO.out fun _ _ _ _ _ a => h3 (HGN.out.symm.trans (gotB_len3 a)))
    have hne : ((gn : Int) != 3) = true := by simp; omega
    clear h3
    go_wp2
    go_ret
    exact ⟨ret_bool HX.out.symm, S0.below⟩
  subst h3
  have H3 := hide HGN.out
  have CMK := hide (gotB_make (me := me) (gs := gs) H3.out)
  go_wp2_with fail
  with_reducible refine (CCH.out _ S0.below).mono ?_
  rintro e w1 ⟨rfl, hb1⟩
  have S1 := S0.on hb1
  have q1 := (S1.nth 0 rfl).six
  clear S0 q0 CCH hb1
  cases h4 : chainB ns
  · have HX := hide (HNO.out fun _ a _ _ _ _ => by rw [h4] at a; cases a)
    clear h4
    go_wp2
    go_ret
    exact ⟨ret_bool HX.out.symm, S1.below⟩
  have H4 := hide h4
  clear h4
  go_wp2_with fail
  with_reducible refine (CCA.out _ S1.below H4.out).mono ?_
  rintro e w2 ⟨rfl, hb2⟩
  have S2 := S1.on hb2
  have q2 := (S2.nth 0 rfl).six
  clear S1 q1 CCA hb2
  cases h5 : causesB ns
  · have HX := hide (HNO.out fun _ _ _ a _ _ => by rw [h5] at a; cases a)
    clear h5
    go_wp2
    go_ret
    exact ⟨ret_bool HX.out.symm, S2.below⟩
  have H5 := hide h5
  clear h5
  go_wp2_with fail
  with_reducible refine (CLO.out _ S2.below).mono ?_
  rintro e w3 ⟨rfl, hb3⟩
  have S3 := S2.on hb3
  have q3 := (S3.nth 0 rfl).six
  clear S2 q2 CLO hb3
  cases h6 : logB log me
  · have HX := hide (HNO.out fun _ _ _ _ a _ => by rw [h6] at a; cases a)
    clear h6
    go_wp2
    go_ret
    exact ⟨ret_bool HX.out.symm, S3.below⟩
  have H6 := hide h6
  clear h6
  rcases HG.out with h0 | ⟨b, off, rfl, hb0, hx⟩
  · have := H3.out; rw [h0] at this; simp at this
  have HXX := hide hx
  clear hx HG
  go_wp2
  go_loopw [3] (fun i wo => ∃ k : Nat, k ≤ 3 ∧ i = .int .i64 (k : Int) ∧ Hid (∀ (i : Nat) l, i < k → gs[i]? = some l → logB l.vs (i : Int) = true ∧ ((i : Int) = me → l.vs.length = 0)) ∧ Inv w (w.heap.size + 1) [(w.heap.size, 36, plAt me ck ca ns.length cc la log.length lc (some ⟨b, off, none⟩) 3 gc fell)] wo) (fun i _ => 3 - (intOf i).toNat)
  case atStart => exact ⟨0, by omega, rfl, fun i l hi => absurd hi (by omega), S3⟩
  case round =>
    rename World => wo
    obtain ⟨k, hk, rfl, hall, hI⟩ := hrel
    clear S3 q3
    have q1 := (hI.nth 0 rfl).six
    by_cases hlt : k < 3
    · obtain ⟨y, hy⟩ : ∃ y, gs[k]? = some y := ⟨_, List.getElem?_eq_getElem (by have := H3.out; omega)⟩
      obtain ⟨hcy, hvy⟩ := HXX.out k y hy
      have HYC := hide (show ∀ W, Below w.heap.size w W → W.cell? ⟨b, off + k, none⟩ = some (.slice y.a y.vs.length y.c) from fun W hW => (hW.cell (p := ⟨b, off + k, none⟩) hb0).trans hcy)
      have c0 := HYC.out _ hI.below
      have CY := hide (l4Log_any y.a y.c y.vs (k : Int) wo (HSG.out y (List.mem_of_getElem? hy)).1 (HSG.out y (List.mem_of_getElem? hy)).2 ((hvy.on hI.below).up hI.base))
      have HYY := hide hy
      obtain ⟨ya, yc, ys⟩ := y
      simp only at c0 CY HYC
      have j1 : (0 : Int) ≤ (k : Int) := by omega
      have j2 : (k : Int) < 3 := by omega
      clear hcy hvy hy
      go_wp2_with fail
      with_reducible refine CY.out.mono ?_
      rintro e w4 ⟨rfl, hb4⟩
      have I4 := hI.on hb4
      have q4 := (I4.nth 0 rfl).six
      have c4 := HYC.out _ I4.below
      clear c0 CY hb4 q1 hI
      cases h7 : logB ys (k : Int)
      · have HX := hide (HNO.out fun _ _ _ _ _ a => by have := (gotB_log a HYY.out).1; simp only at this; rw [h7] at this; cases this)
        clear h7
        go_wp2
        go_ret
        exact ⟨ret_bool HX.out.symm, I4.below⟩
      have H7 := hide h7
      clear h7
      by_cases hkm : (k : Int) = me
      · have hke : ((k : Int) == me) = true := by simpa using hkm
        by_cases h8 : ys.length = 0
        · have hng : ¬ ((ys.length : Int) > 0) := by omega
          have HA : Hid (∀ (i : Nat) l, i < k + 1 → gs[i]? = some l → logB l.vs (i : Int) = true ∧ ((i : Int) = me → l.vs.length = 0)) := fun i l hi hl => by
            by_cases e : i = k
            · subst e
              have := HYY.out
              rw [this] at hl
              injection hl with hl
              subst hl
              exact ⟨H7.out, fun _ => h8⟩
            · exact hall.out i l (by omega) hl
          clear hkm h8
          go_wp2
          exact ⟨⟨k + 1, by omega, by go_num, HA, I4⟩, by simp [intOf]; omega⟩
        · have hng : ((ys.length : Int) > 0) := by omega
          have HX := hide (HNO.out fun _ _ _ _ _ a => by have := (gotB_log a HYY.out).2 hkm; simp only at this; exact h8 this)
          clear hkm h8
          go_wp2
          go_ret
          exact ⟨ret_bool HX.out.symm, I4.below⟩
      · have hke : ((k : Int) == me) = false := by simpa using hkm
        have HA : Hid (∀ (i : Nat) l, i < k + 1 → gs[i]? = some l → logB l.vs (i : Int) = true ∧ ((i : Int) = me → l.vs.length = 0)) := fun i l hi hl => by
          by_cases e : i = k
          · subst e
            have := HYY.out
            rw [this] at hl
            injection hl with hl
            subst hl
            exact ⟨H7.out, fun h => absurd h hkm⟩
          · exact hall.out i l (by omega) hl
        clear hkm
        go_wp2
        exact ⟨⟨k + 1, by omega, by go_num, HA, I4⟩, by simp [intOf]; omega⟩
    · have hk3 : k = 3 := by omega
      have HGO := hide (CMK.out (fun i l hi hl => hall.out i l (by omega) hl))
      have hk3i : ¬ ((k : Int) < 3) := by omega
      clear hlt hall CMK hk3 hk
      rcases HCC.out with h0 | ⟨G, cur, rfl, hG⟩
      · have := (HCP.out H4.out).1.1; rw [h0] at this; simp at this
      have hl1 := (HCP.out H4.out).1.1
      obtain ⟨nd, hnd⟩ : ∃ nd, ns[0]? = some nd := ⟨_, List.getElem?_eq_getElem (by omega)⟩
      have hs4 := storeB_four (nodeB_parts ((HCP.out H4.out).2.1 0 nd hnd)).1
      have HND := hide hnd
      have hGw := hG.on hI.below
      have n0 := (hGw.blk.at (0 * 2)).trans (hGw.at' 0 nd hnd).1
      have HVS := hide (hG.store 0 nd hnd)
      have HCMK := hide (clockB_mk (ns := ns) H2.out hnd)
      obtain ⟨sa, sc, ss, wa, wc, ws⟩ := nd
      simp only at hs4 n0 HVS HCMK
      rw [hs4] at n0
      have HS4 := hide hs4
      have i0 : (0 : Int) < (ns.length : Int) := by omega
      have X1 := (hI.top).box 88 #[.slice sa 4 sc]
      simp only [World.size_alloc] at X1
      have HX1 := hide X1
      clear hnd hGw hG hs4 X1
      go_wp2
      clear n0 q1 hk3i
      go_loopw [5] (fun i wi => ∃ q : Nat, q ≤ 4 ∧ i = .int .i64 (q : Int) ∧ Hid (∀ (j : Nat) v, j < q → ss[j]? = some v → v.t ≤ ck) ∧ Inv w (wo.heap.size + 1) [(wo.heap.size, 88, #[.slice sa 4 sc]), (w.heap.size, 36, plAt me ck (some ⟨G, 0, none⟩) ns.length cc la log.length lc (some ⟨b, off, none⟩) 3 gc fell)] wi) (fun i _ => 4 - (intOf i).toNat)
      case atStart => exact ⟨0, by omega, rfl, fun j v hj => absurd hj (by omega), HX1.out⟩
      case round =>
        obtain ⟨q, hq, rfl, hno, hJ⟩ := hrel
        clear hI HX1
        by_cases hltq : q < 4
        · have hql : q < ss.length := by have := HS4.out; omega
          rcases HVS.out with h0 | ⟨b1, off1, rfl, hb1, hx1⟩
          · rw [h0] at hql; simp at hql
          obtain ⟨hS, -⟩ := hx1 q _ (List.getElem?_eq_getElem hql)
          have HY := hide (List.getElem?_eq_getElem hql)
          generalize ss[q] = v at hS HY
          have HSX := hide (show ∀ W, Below w.heap.size w W → Six W b1 (off1 + q * 6) v from fun W hW => hS.keep hb1 fun _ hp => hW.cell hp)
          obtain ⟨vk, vt, vu, va, vc, vts, vs', vg⟩ := v
          have j1 : (0 : Int) ≤ (q : Int) := by omega
          have j2 : (q : Int) < 4 := by omega
          clear hS hx1
          by_cases ht : vt ≤ ck
          · have HA : Hid (∀ (j : Nat) v, j < q + 1 → ss[j]? = some v → v.t ≤ ck) := fun j x hj hx => by
              by_cases e : j = q
              · subst e
                have h1 := HY.out
                rw [h1] at hx
                injection hx with hx
                subst hx
                exact ht
              · exact hno.out j x (by omega) hx
            have hgt : decide (vt > ck) = false := decide_eq_false (by omega)
            have hgt2 : decide (ck < vt) = false := decide_eq_false (by omega)
            clear ht
            go_wp2_with fail
            refine wp_region_noPanic ?_
            refine wp_region_held_drew (S := (fun w' => (w'.cell? ⟨wo.heap.size, 0, none⟩ = some (.slice (some ⟨b1, off1, none⟩) 4 sc)) ∧ w'.cell? ⟨w.heap.size, 1, none⟩ = some (.int .i64 ck) ∧ Six w' b1 (off1 + q * 6) ⟨vk, vt, vu, va, vc, vts, vs', vg⟩ ∧ Inv w (wo.heap.size + 1) [(wo.heap.size, 88, #[.slice (some ⟨b1, off1, none⟩) 4 sc]), (w.heap.size, 36, plAt me ck (some ⟨G, 0, none⟩) ns.length cc la log.length lc (some ⟨b, off, none⟩) 3 gc fell)] w')) (by kernel_rfl) (by exact ⟨(hJ.drew.nth 0 rfl).one.1, (hJ.drew.nth 1 rfl).at 1, HSX.out _ hJ.drew.below, hJ.drew⟩) (fun hHeld => ?_)
            refine mvR 0 (some 79) hHeld ?_
            refine mvR 1 (some 80) hHeld ?_
            refine mvR 2 (some 81) hHeld ?_
            refine mvR 3 (some 82) hHeld ?_
            refine mvR 4 (some 83) hHeld ?_
            refine mvR 5 (some 84) hHeld ?_
            refine mvR 6 (some 85) hHeld ?_
            refine mvR 7 (some 86) hHeld ?_
            refine mvR 8 (some 87) hHeld ?_
            refine mvR 9 (some 88) hHeld ?_
            refine wpAnyH_done (by kernel_rfl) ?_ _
            refine NoPanic.normal ?_
            have hJ2 := hide hHeld.2.2.2
            clear hHeld hJ
            go_wp2
            exact ⟨⟨q + 1, by omega, by go_num, HA, hJ2.out⟩, by simp [intOf]; omega⟩
          · have HX := hide (HNO.out fun _ _ a _ _ _ => ht (clockB_at a HND.out HY.out))
            have hgt : decide (vt > ck) = true := decide_eq_true (by omega)
            have hgt2 : decide (ck < vt) = true := decide_eq_true (by omega)
            clear ht
            go_wp2_with fail
            refine wp_region_noPanic ?_
            refine wp_region_held_drew (S := (fun w' => (w'.cell? ⟨wo.heap.size, 0, none⟩ = some (.slice (some ⟨b1, off1, none⟩) 4 sc)) ∧ w'.cell? ⟨w.heap.size, 1, none⟩ = some (.int .i64 ck) ∧ Six w' b1 (off1 + q * 6) ⟨vk, vt, vu, va, vc, vts, vs', vg⟩ ∧ Inv w (wo.heap.size + 1) [(wo.heap.size, 88, #[.slice (some ⟨b1, off1, none⟩) 4 sc]), (w.heap.size, 36, plAt me ck (some ⟨G, 0, none⟩) ns.length cc la log.length lc (some ⟨b, off, none⟩) 3 gc fell)] w')) (by kernel_rfl) (by exact ⟨(hJ.drew.nth 0 rfl).one.1, (hJ.drew.nth 1 rfl).at 1, HSX.out _ hJ.drew.below, hJ.drew⟩) (fun hHeld => ?_)
            refine mvR 0 (some 79) hHeld ?_
            refine mvR 1 (some 80) hHeld ?_
            refine mvR 2 (some 81) hHeld ?_
            refine mvR 3 (some 82) hHeld ?_
            refine mvR 4 (some 83) hHeld ?_
            refine mvR 5 (some 84) hHeld ?_
            refine mvR 6 (some 85) hHeld ?_
            refine mvR 7 (some 86) hHeld ?_
            refine mvR 8 (some 87) hHeld ?_
            refine mvR 9 (some 88) hHeld ?_
            refine wpAnyH_done (by kernel_rfl) ?_ _
            refine NoPanic.normal ?_
            have hJ2 := hide hHeld.2.2.2
            clear hHeld hJ
            go_wp2
            go_ret
            exact ⟨ret_bool HX.out.symm, hJ2.out.below⟩
        · have hq4 : q = 4 := by omega
          have HX := hide (HMK.out H1.out H4.out (HCMK.out (fun j v hj => hno.out j v (by have := (List.getElem?_eq_some_iff.1 hj).1; have := HS4.out; omega) hj)) H5.out H6.out HGO.out)
          subst hq4
          clear hltq hno
          go_wp2
          go_ret
          exact ⟨ret_bool HX.out.symm, hJ.below⟩
end Go.Proofs.YtnaggcdhimcilaaGreat
