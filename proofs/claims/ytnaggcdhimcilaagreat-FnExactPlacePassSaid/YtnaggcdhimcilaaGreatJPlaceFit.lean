/- Contracts of what the model asks of a place's causes, and of a place. Condition: sizes that memory holds. -/
import Derived.Test.YtnaggcdhimcilaaGreatJPlaceLog
import Derived.Test.YtnaggcdhimcilaaGreatJPlaceOk4
import Derived.Test.YtnaggcdhimcilaaGreatJVerFind
import Derived.Test.YtnaggcdhimcilaaGreatJChainSpec3
import Derived.Test.YtnaggcdhimcilaaGreatJChainPass4
import Derived.Test.YtnaggcdhimcilaaGreatJPlaceCopy3
import Derived.Test.YtnaggcdhimcilaaGreatJNoteStep
import Derived.Test.YtnaggcdhimcilaaGreatJChainApply2
namespace Go.Proofs.YtnaggcdhimcilaaGreat
open Go.RowKit Go.Joins
attribute [local go_sem ↓] Go.wp_at_zero Go.wp_at_succ

theorem hang_early {st : List (Int × Int)} {v : V} (h : ¬ 0 < v.t) : hangsB st v = true := by unfold hangsB; rw [decide_eq_true (by omega)]; rfl
theorem hang_late {st : List (Int × Int)} {v : V} (h : 0 < v.t) (h1 : pastB v.ts = true) (h2 : pastB st = true) : hangsB st v = withinB v.ts st := by unfold hangsB; rw [decide_eq_false (by omega), pwB_3 h1 h2]; rfl
theorem slot_hang {st : List (Int × Int)} {i : Nat} {v : V} (hs : pastB st = true) (h : slotB i v = true) (ht : 0 < v.t) : v.ts.length = 4 ∧ hangsB st v = withinB v.ts st := by
  rcases slot_two h with ⟨_, h2⟩ | ⟨_, _, h3⟩
  · omega
  · exact ⟨pastB_four (verB_parts h3).2.2.2, hang_late ht (verB_parts h3).2.2.2 hs⟩
theorem ver_hang {st : List (Int × Int)} {v : V} (hs : pastB st = true) (h : verV v = true) : v.ts.length = 4 ∧ hangsB st v = withinB v.ts st :=
  ⟨pastB_four (verB_parts h).2.2.2, hang_late (ver_pos h) (verB_parts h).2.2.2 hs⟩
theorem causes_end {ns : List Nd} (h : ∀ (i : Nat) n, ns[i]? = some n → (∀ (j : Nat) v, n.ss[j]? = some v → hangsB (stableR ns) v = true) ∧ ∀ (j : Nat) v, n.ws[j]? = some v → hangsB (stableR ns) v = true) : causesB ns = true :=
  causesB_ok fun i n hn => ⟨fun v hv => by
    obtain ⟨j, hj⟩ := List.getElem?_of_mem hv
    exact (h i n hn).1 j v hj, fun v hv => by
    obtain ⟨j, hj⟩ := List.getElem?_of_mem hv
    exact (h i n hn).2 j v hj⟩
set_option maxRecDepth 100000 in
set_option maxHeartbeats 8000000 in
theorem l4Causes_any (A : Option Addr) (c : Nat) (ns : List Nd) (w : World) (hok : chainB ns = true) (hC : CgA w A ns) :
    Calls Tryz.prog 55 #[.agg #[.slice A ns.length c]] w fun e w' => e = .returned (.bool (causesB ns)) ∧ Below w.heap.size w w' := by
  obtain ⟨⟨h1, h4⟩, hnb, -⟩ := chainB_parts hok
  obtain ⟨p, hp⟩ : ∃ p, ns.length = p + 1 := ⟨ns.length - 1, by omega⟩
  obtain ⟨nl, hnl⟩ : ∃ nl, ns[p]? = some nl := ⟨_, List.getElem?_eq_getElem (by omega)⟩
  have hsl := (nodeB_parts (hnb p nl hnl)).1
  have hst : stableR ns = tagsR nl.ss := stableR_yes hok hp hnl
  have hpst : pastB (stableR ns) = true := by
    rw [hst]
    unfold tagsR
    rw [if_pos hsl]
    exact past_tags hsl
  have HSH : Hid (∀ (i j : Nat) n v, ns[i]? = some n → n.ss[j]? = some v → 0 < v.t → v.ts.length = 4 ∧ hangsB (stableR ns) v = withinB v.ts (stableR ns)) := fun i j n v hi hj ht => slot_hang hpst (storeB_slot (nodeB_parts (hnb i n hi)).1 hj) ht
  have HWH : Hid (∀ (i j : Nat) n v, ns[i]? = some n → n.ws[j]? = some v → v.ts.length = 4 ∧ hangsB (stableR ns) v = withinB v.ts (stableR ns)) := fun i j n v hi hj => ver_hang hpst ((nodeB_parts (hnb i n hi)).2.2 v (List.mem_of_getElem? hj))
  have HS4 : Hid (∀ (i : Nat) n, ns[i]? = some n → n.ss.length = 4) := fun i n hi => storeB_four (nodeB_parts (hnb i n hi)).1
  have HS6 : Hid (∀ (i : Nat) n, ns[i]? = some n → n.ws.length ≤ 6) := fun i n hi => (nodeB_parts (hnb i n hi)).2.1
  have HBAD : Hid (∀ (i j : Nat) n v, ns[i]? = some n → (n.ss[j]? = some v ∨ n.ws[j]? = some v) → hangsB (stableR ns) v = false → causesB ns = false) := fun i j n v hi hj h => causesB_bad hi hj h
  have HEND : Hid ((∀ (i : Nat) n, ns[i]? = some n → (∀ (j : Nat) v, n.ss[j]? = some v → hangsB (stableR ns) v = true) ∧ ∀ (j : Nat) v, n.ws[j]? = some v → hangsB (stableR ns) v = true) → causesB ns = true) := causes_end
  have HL4 := hide (pastB_four hpst)
  rcases hC with h0 | ⟨G, cur, rfl, hG⟩
  · rw [h0] at h1; simp at h1
  have HG := hide hG
  have CS : Hid (∀ W, Below w.heap.size w W → Calls Tryz.prog 95 #[.agg #[.slice (some ⟨G, 0, none⟩) ns.length c]] W (Answer W (stableR ns))) := fun W hW => by
    rw [hp, hst]
    exact l3Stable_any G c p ns cur nl W (by omega) (hG.on hW) hnl hsl
  have S0 := (Inv.start w).box 32 #[.slice (some ⟨G, 0, none⟩) ns.length c]
  simp only [World.size_alloc] at S0
  have c0 := (S0.nth 0 rfl).one.1
  clear hnb hnl hsl hst hpst hp hG hok
  generalize stableR ns = st at *
  generalize hnn : ns.length = n at *
  have HN := hide hnn
  clear hnn
  go_enter Tryz.func55, Tryz.ntmps55
  go_wp2_with fail
  with_reducible refine (CS.out _ S0.below).mono ?_
  rintro e w1 ⟨A1, cap1, rfl, R1, hb1⟩
  rw [HL4.out]
  have HS1 := hide R1.tg
  have I1 := ((S0.on hb1).top).box 94 #[.slice A1 4 cap1]
  have HTS : Hid (∀ W, Below w1.heap.size w1 W → Tg W W.heap.size A1 st) := fun W hW => (HS1.out.on hW).up hW.size
  have z1 := hb1.size
  simp only [World.size_alloc] at I1 z1
  have bA := hide (below_alloc1 w1 (.cells #[.slice A1 4 cap1] 94))
  clear S0 c0 R1 hb1 CS
  go_wp2
  generalize hW2 : w1.alloc (.cells #[.slice A1 4 cap1] 94) = W2 at I1 bA ⊢
  clear hW2
  go_loopw [4] (fun i wo => ∃ k : Nat, k ≤ n ∧ i = .int .i64 (k : Int) ∧ Hid (∀ (i : Nat) n, i < k → ns[i]? = some n → (∀ (j : Nat) v, n.ss[j]? = some v → hangsB st v = true) ∧ ∀ (j : Nat) v, n.ws[j]? = some v → hangsB st v = true) ∧ Inv w (w1.heap.size + 1) [(w1.heap.size, 94, #[.slice A1 4 cap1]), (w.heap.size, 32, #[.slice (some ⟨G, 0, none⟩) n c])] wo ∧ Below w1.heap.size w1 wo) (fun i _ => n - (intOf i).toNat)
  case atStart => exact ⟨0, Nat.zero_le _, rfl, fun i n hi => absurd hi (by omega), I1, bA.out⟩
  case round =>
    rename World => wo
    obtain ⟨k, hk, rfl, hall, hI, hL1⟩ := hrel
    clear I1 bA
    have c1 := (hI.nth 1 rfl).one.1
    by_cases hlt : k < n
    · obtain ⟨nd, hnd⟩ : ∃ nd, ns[k]? = some nd := ⟨_, List.getElem?_eq_getElem (by have := HN.out; omega)⟩
      have HND := hide hnd
      have H4 := hide (HS4.out k nd hnd)
      have hw6 := HS6.out k nd hnd
      have HSHk := hide (fun j v => HSH.out k j nd v hnd)
      have HWHk := hide (fun j v => HWH.out k j nd v hnd)
      have HBADk := hide (fun j v => HBAD.out k j nd v hnd)
      have HN0 : Hid (∀ W, Below w.heap.size w W → W.cell? ⟨G, k * 2, none⟩ = some (.slice nd.sa 4 nd.sc)) := fun W hW => by
        have := ((HG.out.on hW).blk.at (k * 2)).trans ((HG.out.on hW).at' k nd hnd).1
        rw [H4.out] at this
        exact this
      have HN1 : Hid (∀ W, Below w.heap.size w W → W.cell? ⟨G, k * 2 + 1, none⟩ = some (.slice nd.wa nd.ws.length nd.wc)) := fun W hW => ((HG.out.on hW).blk.at _).trans ((HG.out.on hW).at' k nd hnd).2
      have HVS := hide (HG.out.store k nd hnd)
      have HVW := hide (HG.out.wait k nd hnd)
      obtain ⟨sa, sc, ss, wa, wc, ws⟩ := nd
      simp only at H4 hw6 HSHk HWHk HBADk HN0 HN1 HVS HVW
      have i1 : (0 : Int) ≤ (k : Int) := by omega
      have i2 : (k : Int) < (n : Int) := by omega
      clear hnd
      go_wp2
      clear c1
      go_loopw [5] (fun i wi => ∃ q : Nat, q ≤ 4 ∧ i = .int .i64 (q : Int) ∧ Hid (∀ (j : Nat) v, j < q → ss[j]? = some v → hangsB st v = true) ∧ Inv w (w1.heap.size + 1) [(w1.heap.size, 94, #[.slice A1 4 cap1]), (w.heap.size, 32, #[.slice (some ⟨G, 0, none⟩) n c])] wi ∧ Below w1.heap.size w1 wi) (fun i _ => 4 - (intOf i).toNat)
      case atStart => exact ⟨0, by omega, rfl, fun j v hj => absurd hj (by omega), hI, hL1⟩
      case round =>
        rename World => wi
        obtain ⟨q, hq, rfl, hno, hIi, hLi⟩ := hrel
        clear hI hL1
        by_cases hltq : q < 4
        · have hql : q < ss.length := by have := H4.out; omega
          rcases HVS.out with h0 | ⟨b, off, rfl, hb, hx⟩
          · rw [h0] at hql; simp at hql
          obtain ⟨hS, hT⟩ := hx q _ (List.getElem?_eq_getElem hql)
          have HY := hide (List.getElem?_eq_getElem hql)
          generalize ss[q] = v at hS hT HY
          have Q1 := (hS.keep hb fun _ hp => hIi.below.cell hp)
          have HT := hide (show ∀ W, Below w.heap.size w W → Tg W W.heap.size v.a v.ts from fun W hW => (hT.on hW).up hW.size)
          have HH := hide (HSHk.out q v HY.out)
          have HB := hide (fun h => HBADk.out q v (.inl HY.out) h)
          have c2 := (hIi.nth 1 rfl).one.1
          have n0 := HN0.out _ hIi.below
          have HSTEP : Hid (hangsB st v = true → ∀ (j : Nat) x, j < q + 1 → ss[j]? = some x → hangsB st x = true) := fun h j x hj hx => by
            by_cases e : j = q
            · subst e
              have h1 := HY.out
              rw [h1] at hx
              injection hx with hx
              subst hx
              exact h
            · exact hno.out j x (by omega) hx
          have HEA := hide (@hang_early st v)
          obtain ⟨vk, vt, vu, va, vc, vts, vs', vg⟩ := v
          simp only at Q1 HT HH HEA
          have j1 : (0 : Int) ≤ (q : Int) := by omega
          have j2 : (q : Int) < 4 := by omega
          clear hS hT hx
          by_cases ht : 0 < vt
          · obtain ⟨h4, hw⟩ := HH.out ht
            obtain ⟨s0, s1, s2, s3, s4, s5⟩ := Q1
            simp only at s0 s1 s2 s3 s4 s5
            rw [h4] at s3
            have CW : Hid (∀ W, Below w1.heap.size w1 W → Below w.heap.size w W → Calls Tryz.prog 96 #[.agg #[.slice va 4 vc], .agg #[.slice A1 4 cap1]] W fun e w' => e = .returned (.bool (withinB vts st)) ∧ Below W.heap.size W w') := fun W hW1 hW => l1Within_any va A1 vc cap1 vts st W h4 HL4.out (HT.out W hW) (HTS.out W hW1)
            have X1 := (hIi.top).box 96 (verC vk vt vu va 4 vc vs' vg)
            have bX := hide (hLi.trans ((below_alloc1 wi (.cells (verC vk vt vu va 4 vc vs' vg) 96)).mono hLi.size))
            have p1 := (X1.nth 1 rfl).one.1
            have HRM := hide hIi.room
            have HW := hide hw
            clear h4 hw HH
            go_wp2_with fail
            generalize wi.alloc (.cells (verC vk vt vu va 4 vc vs' vg) 96) = W3 at X1 bX p1 ⊢
            with_reducible refine (CW.out _ bX.out X1.below).mono ?_
            rintro e w4 ⟨rfl, hb4⟩
            have X4 := X1.on hb4
            have bX4 := hide (bX.out.trans (hb4.mono bX.out.size))
            clear X1 p1 CW hb4
            cases hq' : withinB vts st
            · have HX := hide (HB.out (HW.out.trans hq'))
              clear hq'
              go_wp2
              go_ret
              exact ⟨ret_bool HX.out.symm, X4.below⟩
            · have HX := hide (HSTEP.out (HW.out.trans hq'))
              have X5 : Hid (Inv w (w1.heap.size + 1) [(w1.heap.size, 94, #[.slice A1 4 cap1]), (w.heap.size, 32, #[.slice (some ⟨G, 0, none⟩) n c])] w4) := ⟨X4.below, by have := HRM.out; have := X4.room; have := X4.base; have := bX4.out.size; have := (X4.nth 1 rfl).inside; omega, fun x hx => ⟨by
                simp only [List.mem_cons, List.not_mem_nil, or_false] at hx
                rcases hx with rfl | rfl <;> simp only <;> omega, by
                simp only [List.mem_cons, List.not_mem_nil, or_false] at hx
                rcases hx with rfl | rfl <;> simp only <;> omega, by
                simp only [List.mem_cons, List.not_mem_nil, or_false] at hx
                rcases hx with rfl | rfl
                · exact X4.nth 1 rfl
                · exact X4.nth 2 rfl⟩⟩
              clear hq' X4
              go_wp2
              exact ⟨⟨q + 1, by omega, by go_num, HX, X5.out, bX4.out⟩, by simp [intOf]; omega⟩
          · have HX := hide (HSTEP.out (HEA.out ht))
            have X4 := hIi.alloc (.cells (verC vk vt vu va vts.length vc vs' vg) 96)
            have bX := hide (hLi.trans ((below_alloc1 wi (.cells (verC vk vt vu va vts.length vc vs' vg) 96)).mono hLi.size))
            have HX4 := hide X4
            clear X4 HH
            go_wp2
            exact ⟨⟨q + 1, by omega, by go_num, HX, HX4.out, bX.out⟩, by simp [intOf]; omega⟩
        · have hq4 : q = 4 := by omega
          have HALLS : Hid (∀ (j : Nat) v, ss[j]? = some v → hangsB st v = true) := fun j v hj => hno.out j v (by have := (List.getElem?_eq_some_iff.1 hj).1; have := H4.out; omega) hj
          have hq4i : ¬ ((q : Int) < 4) := by omega
          clear hno hltq hq hq4
          go_wp2
          clear hq4i
          go_loopw [7] (fun i wj => ∃ q : Nat, q ≤ ws.length ∧ i = .int .i64 (q : Int) ∧ Hid (∀ (j : Nat) v, j < q → ws[j]? = some v → hangsB st v = true) ∧ Inv w (w1.heap.size + 1) [(w1.heap.size, 94, #[.slice A1 4 cap1]), (w.heap.size, 32, #[.slice (some ⟨G, 0, none⟩) n c])] wj ∧ Below w1.heap.size w1 wj) (fun i _ => ws.length - (intOf i).toNat)
          case atStart => exact ⟨0, Nat.zero_le _, rfl, fun j v hj => absurd hj (by omega), hIi, hLi⟩
          case round =>
            rename World => wj
            obtain ⟨q, hq, rfl, hno, hIj, hLj⟩ := hrel
            clear hIi hLi
            have c2 := (hIj.nth 1 rfl).one.1
            have n1 := HN1.out _ hIj.below
            by_cases hltq : q < ws.length
            · rcases HVW.out with h0 | ⟨b, off, rfl, hb, hx⟩
              · rw [h0] at hltq; simp at hltq
              obtain ⟨hS, hT⟩ := hx q _ (List.getElem?_eq_getElem hltq)
              have HY := hide (List.getElem?_eq_getElem hltq)
              generalize ws[q] = v at hS hT HY
              have HSX := hide (show ∀ W, Below w.heap.size w W → Six W b (off + q * 6) v from fun W hW => hS.keep hb fun _ hp => hW.cell hp)
              have HT := hide (show ∀ W, Below w.heap.size w W → Tg W W.heap.size v.a v.ts from fun W hW => (hT.on hW).up hW.size)
              have HH := hide (HWHk.out q v HY.out)
              have HB := hide (fun h => HBADk.out q v (.inr HY.out) h)
              have HSTEP : Hid (hangsB st v = true → ∀ (j : Nat) x, j < q + 1 → ws[j]? = some x → hangsB st x = true) := fun h j x hj hx => by
                by_cases e : j = q
                · subst e
                  have h1 := HY.out
                  rw [h1] at hx
                  injection hx with hx
                  subst hx
                  exact h
                · exact hno.out j x (by omega) hx
              obtain ⟨vk, vt, vu, va, vc, vts, vs', vg⟩ := v
              simp only at HSX HT HH
              obtain ⟨h4, hw⟩ := HH.out
              have HSX4 : Hid (∀ W, Below w.heap.size w W → W.cell? ⟨b, off + q * 6 + 3, none⟩ = some (.slice va 4 vc)) := fun W hW => by
                have := (HSX.out W hW).2.2.2.1
                simp only at this
                rw [h4] at this
                exact this
              have CW : Hid (∀ W, Below w1.heap.size w1 W → Below w.heap.size w W → Calls Tryz.prog 96 #[.agg #[.slice va 4 vc], .agg #[.slice A1 4 cap1]] W fun e w' => e = .returned (.bool (withinB vts st)) ∧ Below W.heap.size W w') := fun W hW1 hW => l1Within_any va A1 vc cap1 vts st W h4 HL4.out (HT.out W hW) (HTS.out W hW1)
              have HW := hide hw
              have j1 : (0 : Int) ≤ (q : Int) := by omega
              have j2 : (q : Int) < (ws.length : Int) := by omega
              generalize ws.length = nw at *
              clear hS hT hx h4 hw HH
              go_wp2_with fail
              refine wp_region_noPanic ?_
              refine wp_region_held_drew (S := (fun w' => w'.cell? ⟨w.heap.size, 0, none⟩ = some (.slice (some ⟨G, 0, none⟩) n c) ∧ w'.cell? ⟨G, k * 2 + 1, none⟩ = some (.slice (some ⟨b, off, none⟩) nw wc) ∧ w'.cell? ⟨b, off + q * 6 + 3, none⟩ = some (.slice va 4 vc) ∧ w'.cell? ⟨w1.heap.size, 0, none⟩ = some (.slice A1 4 cap1) ∧ Inv w (w1.heap.size + 1) [(w1.heap.size, 94, #[.slice A1 4 cap1]), (w.heap.size, 32, #[.slice (some ⟨G, 0, none⟩) n c])] w' ∧ Below w1.heap.size w1 w')) (by kernel_rfl) (by exact ⟨(hIj.drew.nth 1 rfl).one.1, HN1.out _ hIj.drew.below, HSX4.out _ hIj.drew.below, (hIj.drew.nth 0 rfl).one.1, hIj.drew, hLj.drew⟩) (fun hHeld => ?_)
              refine mvR 0 (some 53) hHeld ?_
              refine mvR 1 (some 54) hHeld ?_
              refine mvR 2 (some 55) hHeld ?_
              refine mvR 3 (some 56) hHeld ?_
              refine mvR 4 (some 57) hHeld ?_
              refine mvR 5 (some 58) hHeld ?_
              refine mvR 6 (some 59) hHeld ?_
              refine mvR 7 (some 60) hHeld ?_
              refine mvR 8 (some 61) hHeld ?_
              refine mvR 9 (some 62) hHeld ?_
              refine mvR 10 (some 63) hHeld ?_
              refine take_one 11 (by kernel_rfl) rfl (fun K hK => ?_)
              go_simp
              ((with_reducible refine (CW.out _ hHeld.2.2.2.2.2 hHeld.2.2.2.2.1.below).mono ?_); rintro e w4 ⟨rfl, hb⟩)
              try go_wp2_with fail
              refine hK.out _ _ (by exact ⟨((hHeld.2.2.2.2.1.on hb).nth 1 rfl).one.1, HN1.out _ (hHeld.2.2.2.2.1.on hb).below, HSX4.out _ (hHeld.2.2.2.2.1.on hb).below, ((hHeld.2.2.2.2.1.on hb).nth 0 rfl).one.1, hHeld.2.2.2.2.1.on hb, hHeld.2.2.2.2.2.trans (hb.mono hHeld.2.2.2.2.2.size)⟩) (fun hHeld => ?_)
              clear hK K
              refine mvR 12 (some 65) hHeld ?_
              refine wpAnyH_done (by kernel_rfl) ?_ _
              refine NoPanic.normal ?_
              have X4 := hide hHeld.2.2.2.2.1
              have bX4 := hide hHeld.2.2.2.2.2
              clear hHeld hIj hLj n1 CW c2
              cases hq' : withinB vts st
              · have HX := hide (HB.out (HW.out.trans hq'))
                clear hq'
                go_wp2
                go_ret
                exact ⟨ret_bool HX.out.symm, X4.out.below⟩
              · have HX := hide (HSTEP.out (HW.out.trans hq'))
                clear hq'
                go_wp2
                exact ⟨⟨q + 1, by omega, by go_num, HX, X4.out, bX4.out⟩, by simp [intOf]; omega⟩
            · have hqn : q = ws.length := by omega
              have HALLW : Hid (∀ (j : Nat) v, ws[j]? = some v → hangsB st v = true) := fun j v hj => hno.out j v (by have := (List.getElem?_eq_some_iff.1 hj).1; omega) hj
              have HA : Hid (∀ (i : Nat) n, i < k + 1 → ns[i]? = some n → (∀ (j : Nat) v, n.ss[j]? = some v → hangsB st v = true) ∧ ∀ (j : Nat) v, n.ws[j]? = some v → hangsB st v = true) := fun i n hi hn => by
                by_cases e : i = k
                · subst e
                  have h1 := HND.out
                  rw [h1] at hn
                  injection hn with hn
                  subst hn
                  exact ⟨HALLS.out, HALLW.out⟩
                · exact hall.out i n (by omega) hn
              have HI9 := hide hIj
              have HL9 := hide hLj
              have hng : ¬ ((q : Int) < (ws.length : Int)) := by omega
              generalize ws.length = nw at *
              clear hno hltq hqn hq hIj hLj
              go_wp2
              exact ⟨⟨k + 1, by omega, by go_num, HA, HI9.out, HL9.out⟩, by simp [intOf]; omega⟩
    · have hkn : k = n := by omega
      subst hkn
      clear hlt
      have HX := hide (HEND.out (fun i n hn => hall.out i n (by have := (List.getElem?_eq_some_iff.1 hn).1; have := HN.out; omega) hn))
      go_wp2
      go_ret
      exact ⟨ret_bool HX.out.symm, hI.below⟩
end Go.Proofs.YtnaggcdhimcilaaGreat
/- Contract of whether a place is valid, in the model. Condition: sizes that memory holds. -/
namespace Go.Proofs.YtnaggcdhimcilaaGreat
open Go.RowKit Go.Joins
attribute [local go_sem ↓] Go.wp_at_zero Go.wp_at_succ

theorem plB_no {p : Pl} (h : (0 ≤ p.me ∧ p.me ≤ 2) → chainB p.ns = true → clockB p.ck p.ns = true → causesB p.ns = true → logB p.log p.me = true → gotB p.me (p.gs.map Lg.vs) = true → False) : plB p = false := by
  cases hx : plB p with
  | false => rfl
  | true =>
    obtain ⟨h1, h2, h3, h4, h5, h6⟩ := plB_parts hx
    exact absurd (h h1 h2 h3 h4 h5 h6) id
theorem plB_mk {p : Pl} (h1 : 0 ≤ p.me ∧ p.me ≤ 2) (h2 : chainB p.ns = true) (h3 : clockB p.ck p.ns = true) (h4 : causesB p.ns = true) (h5 : logB p.log p.me = true) (h6 : gotB p.me (p.gs.map Lg.vs) = true) : plB p = true := by
  unfold plB placeB
  rw [decide_eq_true h1, h2, h3, h4, h5, h6]
  rfl
theorem clockB_range {c : Int} {ns : List Nd} (h : clockB c ns = true) : 0 ≤ c ∧ c ≤ 999 := by
  unfold clockB at h
  rw [Bool.and_eq_true, decide_eq_true_eq] at h
  exact h.1
theorem clockB_at {c : Int} {ns : List Nd} {n : Nd} {j : Nat} {v : V} (h : clockB c ns = true) (hn : ns[0]? = some n) (hv : n.ss[j]? = some v) : v.t ≤ c := by
  unfold clockB at h
  rw [hn, Bool.and_eq_true, List.all_eq_true] at h
  exact of_decide_eq_true (h.2 v (List.mem_of_getElem? hv))
theorem clockB_mk {c : Int} {ns : List Nd} {n : Nd} (h : 0 ≤ c ∧ c ≤ 999) (hn : ns[0]? = some n) (hv : ∀ (j : Nat) v, n.ss[j]? = some v → v.t ≤ c) : clockB c ns = true := by
  unfold clockB
  rw [hn, decide_eq_true h, Bool.true_and, List.all_eq_true]
  intro v hv'
  obtain ⟨j, hj⟩ := List.getElem?_of_mem hv'
  exact decide_eq_true (hv j v hj)
theorem gotB_len3 {me : Int} {gs : List Lg} (h : gotB me (gs.map Lg.vs) = true) : gs.length = 3 := by
  unfold gotB at h
  rw [Bool.and_eq_true, decide_eq_true_eq, List.length_map] at h
  exact h.1
theorem gotB_log {me : Int} {gs : List Lg} {i : Nat} {l : Lg} (h : gotB me (gs.map Lg.vs) = true) (hi : gs[i]? = some l) : logB l.vs (i : Int) = true ∧ ((i : Int) = me → l.vs.length = 0) := by
  unfold gotB at h
  rw [Bool.and_eq_true, decide_eq_true_eq, List.length_map, List.all_eq_true] at h
  have := h.2 i (List.mem_range.2 (List.getElem?_eq_some_iff.1 hi).1)
  rw [List.getElem?_map, hi] at this
  simp only [Option.map_some, Bool.and_eq_true, Bool.or_eq_true, decide_eq_true_eq] at this
  exact ⟨this.1, fun e => by rcases this.2 with h | h; exact absurd e h; exact h⟩
theorem gotB_make {me : Int} {gs : List Lg} (h3 : gs.length = 3) (h : ∀ (i : Nat) l, i < 3 → gs[i]? = some l → logB l.vs (i : Int) = true ∧ ((i : Int) = me → l.vs.length = 0)) : gotB me (gs.map Lg.vs) = true := by
  unfold gotB
  rw [List.length_map, decide_eq_true h3, Bool.true_and, List.all_eq_true]
  intro i hi
  have hi3 : i < 3 := by rw [← h3]; exact List.mem_range.1 hi
  obtain ⟨l, hl⟩ : ∃ l, gs[i]? = some l := ⟨_, List.getElem?_eq_getElem (by omega)⟩
  obtain ⟨h1, h2⟩ := h i l hi3 hl
  rw [List.getElem?_map, hl]
  simp only [Option.map_some]
  rw [h1, Bool.true_and]
  by_cases e : (i : Int) = me
  · rw [decide_eq_true (h2 e), Bool.or_true]
  · rw [decide_eq_true e, Bool.true_or]
set_option maxRecDepth 100000 in
set_option maxHeartbeats 8000000 in
theorem l4Ok_any (p : Pl) (w : World) (hm : SmP p) (hC : Cp w p) :
    Calls Tryz.prog 20 #[.agg (plCells p)] w fun e w' => e = .returned (.bool (plB p)) ∧ Below w.heap.size w w' := by
  have CCH : Hid (∀ W, Below w.heap.size w W → Calls Tryz.prog 54 #[.agg #[.slice p.ca p.ns.length p.cc]] W fun e w' => e = .returned (.bool (chainB p.ns)) ∧ Below W.heap.size W w') := fun W hW => l3Ok_any p.ca p.cc p.ns W hm.1.1 hm.1.2 (hC.1.on hW)
  have CCA : Hid (∀ W, Below w.heap.size w W → chainB p.ns = true → Calls Tryz.prog 55 #[.agg #[.slice p.ca p.ns.length p.cc]] W fun e w' => e = .returned (.bool (causesB p.ns)) ∧ Below W.heap.size W w') := fun W hW hc => l4Causes_any p.ca p.cc p.ns W hc (hC.1.on hW)
  have CLO : Hid (∀ W, Below w.heap.size w W → Calls Tryz.prog 56 #[.slice p.la p.log.length p.lc, .int .i64 p.me] W fun e w' => e = .returned (.bool (logB p.log p.me)) ∧ Below W.heap.size W w') := fun W hW => l4Log_any p.la p.lc p.log p.me W hm.2.1.1 hm.2.1.2 ((hC.2.1.on hW).up hW.size)
  have HNO := hide (plB_no (p := p))
  have HMK := hide (plB_mk (p := p))
  have HSG := hide hm.2.2.2
  have HG := hide hC.2.2
  have HCC := hide hC.1
  have HCP := hide (chainB_parts (ns := p.ns))
  obtain ⟨me, ck, ca, cc, ns, la, lc, log, ga, gc, gs, fell⟩ := p
  simp only at CCH CCA CLO HNO HMK HSG HG HCC HCP
  change Calls _ _ #[.agg (plAt me ck ca ns.length cc la log.length lc ga gs.length gc fell)] _ _
  generalize hgn : gs.length = gn
  have HGN := hide hgn
  have S0 := (Inv.start w).box 36 (plAt me ck ca ns.length cc la log.length lc ga gn gc fell)
  simp only [World.size_alloc] at S0
  have q0 := (S0.nth 0 rfl).six
  clear hm hC hgn
  go_enter Tryz.func20, Tryz.ntmps20
  go_wp2_with fail
  refine (l1In_any me 0 2 _).mono ?_
  rintro e w1 ⟨rfl, rfl⟩
  cases h1 : decide (0 ≤ me ∧ me ≤ 2)
  · have HX := hide (HNO.out fun a _ _ _ _ _ => absurd a (of_decide_eq_false h1))
    clear h1
    go_wp2
    go_ret
    exact ⟨ret_bool HX.out.symm, S0.below⟩
  have H1 := hide (of_decide_eq_true h1)
  clear h1
  go_wp2_with fail
  refine (l1In_any ck 0 999 _).mono ?_
  rintro e w1 ⟨rfl, rfl⟩
  cases h2 : decide (0 ≤ ck ∧ ck ≤ 999)
  · have HX := hide (HNO.out fun _ _ a _ _ _ => absurd (clockB_range a) (of_decide_eq_false h2))
    clear h2
    go_wp2
    go_ret
    exact ⟨ret_bool HX.out.symm, S0.below⟩
  have H2 := hide (of_decide_eq_true h2)
  clear h2
  by_cases h3 : gn = 3
  rotate_left
  · have HX := hide (HNO.out fun _ _ _ _ _ a => h3 (HGN.out.symm.trans (gotB_len3 a)))
    have hne : ((gn : Int) != 3) = true := by simp; omega
    clear h3
    go_wp2
    go_ret
    exact ⟨ret_bool HX.out.symm, S0.below⟩
  subst h3
  have H3 := hide HGN.out
  have CMK := hide (gotB_make (me := me) (gs := gs) H3.out)
  go_wp2_with fail
  with_reducible refine (CCH.out _ S0.below).mono ?_
  rintro e w1 ⟨rfl, hb1⟩
  have S1 := S0.on hb1
  have q1 := (S1.nth 0 rfl).six
  clear S0 q0 CCH hb1
  cases h4 : chainB ns
  · have HX := hide (HNO.out fun _ a _ _ _ _ => by rw [h4] at a; cases a)
    clear h4
    go_wp2
    go_ret
    exact ⟨ret_bool HX.out.symm, S1.below⟩
  have H4 := hide h4
  clear h4
  go_wp2_with fail
  with_reducible refine (CCA.out _ S1.below H4.out).mono ?_
  rintro e w2 ⟨rfl, hb2⟩
  have S2 := S1.on hb2
  have q2 := (S2.nth 0 rfl).six
  clear S1 q1 CCA hb2
  cases h5 : causesB ns
  · have HX := hide (HNO.out fun _ _ _ a _ _ => by rw [h5] at a; cases a)
    clear h5
    go_wp2
    go_ret
    exact ⟨ret_bool HX.out.symm, S2.below⟩
  have H5 := hide h5
  clear h5
  go_wp2_with fail
  with_reducible refine (CLO.out _ S2.below).mono ?_
  rintro e w3 ⟨rfl, hb3⟩
  have S3 := S2.on hb3
  have q3 := (S3.nth 0 rfl).six
  clear S2 q2 CLO hb3
  cases h6 : logB log me
  · have HX := hide (HNO.out fun _ _ _ _ a _ => by rw [h6] at a; cases a)
    clear h6
    go_wp2
    go_ret
    exact ⟨ret_bool HX.out.symm, S3.below⟩
  have H6 := hide h6
  clear h6
  rcases HG.out with h0 | ⟨b, off, rfl, hb0, hx⟩
  · have := H3.out; rw [h0] at this; simp at this
  have HXX := hide hx
  clear hx HG
  go_wp2
  go_loopw [3] (fun i wo => ∃ k : Nat, k ≤ 3 ∧ i = .int .i64 (k : Int) ∧ Hid (∀ (i : Nat) l, i < k → gs[i]? = some l → logB l.vs (i : Int) = true ∧ ((i : Int) = me → l.vs.length = 0)) ∧ Inv w (w.heap.size + 1) [(w.heap.size, 36, plAt me ck ca ns.length cc la log.length lc (some ⟨b, off, none⟩) 3 gc fell)] wo) (fun i _ => 3 - (intOf i).toNat)
  case atStart => exact ⟨0, by omega, rfl, fun i l hi => absurd hi (by omega), S3⟩
  case round =>
    rename World => wo
    obtain ⟨k, hk, rfl, hall, hI⟩ := hrel
    clear S3 q3
    have q1 := (hI.nth 0 rfl).six
    by_cases hlt : k < 3
    · obtain ⟨y, hy⟩ : ∃ y, gs[k]? = some y := ⟨_, List.getElem?_eq_getElem (by have := H3.out; omega)⟩
      obtain ⟨hcy, hvy⟩ := HXX.out k y hy
      have HYC := hide (show ∀ W, Below w.heap.size w W → W.cell? ⟨b, off + k, none⟩ = some (.slice y.a y.vs.length y.c) from fun W hW => (hW.cell (p := ⟨b, off + k, none⟩) hb0).trans hcy)
      have c0 := HYC.out _ hI.below
      have CY := hide (l4Log_any y.a y.c y.vs (k : Int) wo (HSG.out y (List.mem_of_getElem? hy)).1 (HSG.out y (List.mem_of_getElem? hy)).2 ((hvy.on hI.below).up hI.base))
      have HYY := hide hy
      obtain ⟨ya, yc, ys⟩ := y
      simp only at c0 CY HYC
      have j1 : (0 : Int) ≤ (k : Int) := by omega
      have j2 : (k : Int) < 3 := by omega
      clear hcy hvy hy
      go_wp2_with fail
      with_reducible refine CY.out.mono ?_
      rintro e w4 ⟨rfl, hb4⟩
      have I4 := hI.on hb4
      have q4 := (I4.nth 0 rfl).six
      have c4 := HYC.out _ I4.below
      clear c0 CY hb4 q1 hI
      cases h7 : logB ys (k : Int)
      · have HX := hide (HNO.out fun _ _ _ _ _ a => by have := (gotB_log a HYY.out).1; simp only at this; rw [h7] at this; cases this)
        clear h7
        go_wp2
        go_ret
        exact ⟨ret_bool HX.out.symm, I4.below⟩
      have H7 := hide h7
      clear h7
      by_cases hkm : (k : Int) = me
      · have hke : ((k : Int) == me) = true := by simpa using hkm
        by_cases h8 : ys.length = 0
        · have hng : ¬ ((ys.length : Int) > 0) := by omega
          have HA : Hid (∀ (i : Nat) l, i < k + 1 → gs[i]? = some l → logB l.vs (i : Int) = true ∧ ((i : Int) = me → l.vs.length = 0)) := fun i l hi hl => by
            by_cases e : i = k
            · subst e
              have := HYY.out
              rw [this] at hl
              injection hl with hl
              subst hl
              exact ⟨H7.out, fun _ => h8⟩
            · exact hall.out i l (by omega) hl
          clear hkm h8
          go_wp2
          exact ⟨⟨k + 1, by omega, by go_num, HA, I4⟩, by simp [intOf]; omega⟩
        · have hng : ((ys.length : Int) > 0) := by omega
          have HX := hide (HNO.out fun _ _ _ _ _ a => by have := (gotB_log a HYY.out).2 hkm; simp only at this; exact h8 this)
          clear hkm h8
          go_wp2
          go_ret
          exact ⟨ret_bool HX.out.symm, I4.below⟩
      · have hke : ((k : Int) == me) = false := by simpa using hkm
        have HA : Hid (∀ (i : Nat) l, i < k + 1 → gs[i]? = some l → logB l.vs (i : Int) = true ∧ ((i : Int) = me → l.vs.length = 0)) := fun i l hi hl => by
          by_cases e : i = k
          · subst e
            have := HYY.out
            rw [this] at hl
            injection hl with hl
            subst hl
            exact ⟨H7.out, fun h => absurd h hkm⟩
          · exact hall.out i l (by omega) hl
        clear hkm
        go_wp2
        exact ⟨⟨k + 1, by omega, by go_num, HA, I4⟩, by simp [intOf]; omega⟩
    · have hk3 : k = 3 := by omega
      have HGO := hide (CMK.out (fun i l hi hl => hall.out i l (by omega) hl))
      have hk3i : ¬ ((k : Int) < 3) := by omega
      clear hlt hall CMK hk3 hk
      rcases HCC.out with h0 | ⟨G, cur, rfl, hG⟩
      · have := (HCP.out H4.out).1.1; rw [h0] at this; simp at this
      have hl1 := (HCP.out H4.out).1.1
      obtain ⟨nd, hnd⟩ : ∃ nd, ns[0]? = some nd := ⟨_, List.getElem?_eq_getElem (by omega)⟩
      have hs4 := storeB_four (nodeB_parts ((HCP.out H4.out).2.1 0 nd hnd)).1
      have HND := hide hnd
      have hGw := hG.on hI.below
      have n0 := (hGw.blk.at (0 * 2)).trans (hGw.at' 0 nd hnd).1
      have HVS := hide (hG.store 0 nd hnd)
      have HCMK := hide (clockB_mk (ns := ns) H2.out hnd)
      obtain ⟨sa, sc, ss, wa, wc, ws⟩ := nd
      simp only at hs4 n0 HVS HCMK
      rw [hs4] at n0
      have HS4 := hide hs4
      have i0 : (0 : Int) < (ns.length : Int) := by omega
      have X1 := (hI.top).box 88 #[.slice sa 4 sc]
      simp only [World.size_alloc] at X1
      have HX1 := hide X1
      clear hnd hGw hG hs4 X1
      go_wp2
      clear n0 q1 hk3i
      go_loopw [5] (fun i wi => ∃ q : Nat, q ≤ 4 ∧ i = .int .i64 (q : Int) ∧ Hid (∀ (j : Nat) v, j < q → ss[j]? = some v → v.t ≤ ck) ∧ Inv w (wo.heap.size + 1) [(wo.heap.size, 88, #[.slice sa 4 sc]), (w.heap.size, 36, plAt me ck (some ⟨G, 0, none⟩) ns.length cc la log.length lc (some ⟨b, off, none⟩) 3 gc fell)] wi) (fun i _ => 4 - (intOf i).toNat)
      case atStart => exact ⟨0, by omega, rfl, fun j v hj => absurd hj (by omega), HX1.out⟩
      case round =>
        obtain ⟨q, hq, rfl, hno, hJ⟩ := hrel
        clear hI HX1
        by_cases hltq : q < 4
        · have hql : q < ss.length := by have := HS4.out; omega
          rcases HVS.out with h0 | ⟨b1, off1, rfl, hb1, hx1⟩
          · rw [h0] at hql; simp at hql
          obtain ⟨hS, -⟩ := hx1 q _ (List.getElem?_eq_getElem hql)
          have HY := hide (List.getElem?_eq_getElem hql)
          generalize ss[q] = v at hS HY
          have HSX := hide (show ∀ W, Below w.heap.size w W → Six W b1 (off1 + q * 6) v from fun W hW => hS.keep hb1 fun _ hp => hW.cell hp)
          obtain ⟨vk, vt, vu, va, vc, vts, vs', vg⟩ := v
          have j1 : (0 : Int) ≤ (q : Int) := by omega
          have j2 : (q : Int) < 4 := by omega
          clear hS hx1
          by_cases ht : vt ≤ ck
          · have HA : Hid (∀ (j : Nat) v, j < q + 1 → ss[j]? = some v → v.t ≤ ck) := fun j x hj hx => by
              by_cases e : j = q
              · subst e
                have h1 := HY.out
                rw [h1] at hx
                injection hx with hx
                subst hx
                exact ht
              · exact hno.out j x (by omega) hx
            have hgt : decide (vt > ck) = false := decide_eq_false (by omega)
            have hgt2 : decide (ck < vt) = false := decide_eq_false (by omega)
            clear ht
            go_wp2_with fail
            refine wp_region_noPanic ?_
            refine wp_region_held_drew (S := (fun w' => (w'.cell? ⟨wo.heap.size, 0, none⟩ = some (.slice (some ⟨b1, off1, none⟩) 4 sc)) ∧ w'.cell? ⟨w.heap.size, 1, none⟩ = some (.int .i64 ck) ∧ Six w' b1 (off1 + q * 6) ⟨vk, vt, vu, va, vc, vts, vs', vg⟩ ∧ Inv w (wo.heap.size + 1) [(wo.heap.size, 88, #[.slice (some ⟨b1, off1, none⟩) 4 sc]), (w.heap.size, 36, plAt me ck (some ⟨G, 0, none⟩) ns.length cc la log.length lc (some ⟨b, off, none⟩) 3 gc fell)] w')) (by kernel_rfl) (by exact ⟨(hJ.drew.nth 0 rfl).one.1, (hJ.drew.nth 1 rfl).at 1, HSX.out _ hJ.drew.below, hJ.drew⟩) (fun hHeld => ?_)
            refine mvR 0 (some 79) hHeld ?_
            refine mvR 1 (some 80) hHeld ?_
            refine mvR 2 (some 81) hHeld ?_
            refine mvR 3 (some 82) hHeld ?_
            refine mvR 4 (some 83) hHeld ?_
            refine mvR 5 (some 84) hHeld ?_
            refine mvR 6 (some 85) hHeld ?_
            refine mvR 7 (some 86) hHeld ?_
            refine mvR 8 (some 87) hHeld ?_
            refine mvR 9 (some 88) hHeld ?_
            refine wpAnyH_done (by kernel_rfl) ?_ _
            refine NoPanic.normal ?_
            have hJ2 := hide hHeld.2.2.2
            clear hHeld hJ
            go_wp2
            exact ⟨⟨q + 1, by omega, by go_num, HA, hJ2.out⟩, by simp [intOf]; omega⟩
          · have HX := hide (HNO.out fun _ _ a _ _ _ => ht (clockB_at a HND.out HY.out))
            have hgt : decide (vt > ck) = true := decide_eq_true (by omega)
            have hgt2 : decide (ck < vt) = true := decide_eq_true (by omega)
            clear ht
            go_wp2_with fail
            refine wp_region_noPanic ?_
            refine wp_region_held_drew (S := (fun w' => (w'.cell? ⟨wo.heap.size, 0, none⟩ = some (.slice (some ⟨b1, off1, none⟩) 4 sc)) ∧ w'.cell? ⟨w.heap.size, 1, none⟩ = some (.int .i64 ck) ∧ Six w' b1 (off1 + q * 6) ⟨vk, vt, vu, va, vc, vts, vs', vg⟩ ∧ Inv w (wo.heap.size + 1) [(wo.heap.size, 88, #[.slice (some ⟨b1, off1, none⟩) 4 sc]), (w.heap.size, 36, plAt me ck (some ⟨G, 0, none⟩) ns.length cc la log.length lc (some ⟨b, off, none⟩) 3 gc fell)] w')) (by kernel_rfl) (by exact ⟨(hJ.drew.nth 0 rfl).one.1, (hJ.drew.nth 1 rfl).at 1, HSX.out _ hJ.drew.below, hJ.drew⟩) (fun hHeld => ?_)
            refine mvR 0 (some 79) hHeld ?_
            refine mvR 1 (some 80) hHeld ?_
            refine mvR 2 (some 81) hHeld ?_
            refine mvR 3 (some 82) hHeld ?_
            refine mvR 4 (some 83) hHeld ?_
            refine mvR 5 (some 84) hHeld ?_
            refine mvR 6 (some 85) hHeld ?_
            refine mvR 7 (some 86) hHeld ?_
            refine mvR 8 (some 87) hHeld ?_
            refine mvR 9 (some 88) hHeld ?_
            refine wpAnyH_done (by kernel_rfl) ?_ _
            refine NoPanic.normal ?_
            have hJ2 := hide hHeld.2.2.2
            clear hHeld hJ
            go_wp2
            go_ret
            exact ⟨ret_bool HX.out.symm, hJ2.out.below⟩
        · have hq4 : q = 4 := by omega
          have HX := hide (HMK.out H1.out H4.out (HCMK.out (fun j v hj => hno.out j v (by have := (List.getElem?_eq_some_iff.1 hj).1; have := HS4.out; omega) hj)) H5.out H6.out HGO.out)
          subst hq4
          clear hltq hno
          go_wp2
          go_ret
          exact ⟨ret_bool HX.out.symm, hJ.below⟩
end Go.Proofs.YtnaggcdhimcilaaGreat
/- Contract of the model's ChainPass. Condition: sizes that memory holds. -/
namespace Go.Proofs.YtnaggcdhimcilaaGreat
open Go.RowKit Go.Joins
attribute [local go_sem ↓] Go.wp_at_zero Go.wp_at_succ

end Go.Proofs.YtnaggcdhimcilaaGreat
/- Contract of PlacePass, in the model. Condition: sizes that memory holds. -/
namespace Go.Proofs.YtnaggcdhimcilaaGreat
open Go.RowKit Go.Joins
attribute [local go_sem ↓] Go.wp_at_zero Go.wp_at_succ

set_option maxRecDepth 100000 in
set_option maxHeartbeats 4000000 in
theorem specPlacePass_any (p : Pl) (k : Int) (w : World) (hm : SmP p) (hC : Cp w p) :
    Calls Tryz.prog 7 #[.agg (plCells p), .int .i64 k] w (AnswerPB w (passP p k) (passPK p k)) := by
  have HOK : Hid (∀ W, Below w.heap.size w W → Calls Tryz.prog 20 #[.agg (plCells p)] W fun e w' => e = .returned (.bool (plB p)) ∧ Below W.heap.size W w') := fun W hW => l4Ok_any p W hm (hC.on hW)
  have HCP : Hid (∀ W, Below w.heap.size w W → Calls Tryz.prog 21 #[.agg (plCells p)] W (OwnedP W p)) := fun W hW => l4Copy_any p W hm (hC.on hW)
  have HNO : Hid (plB p = false → passP p k = noP ∧ passPK p k = false) := fun h => passP_no h
  have HCB : Hid (plB p = true → FineN p.ns ∧ 0 < p.ns.length ∧ p.log.length ≤ 60) := fun h => ⟨(plB_fine h).1.1, by have := (chainB_parts (plB_parts h).2.1).1.1; omega, (plB_fine h).2⟩
  have HCN : Hid (plB p = true → ∀ W, Below w.heap.size w W → Calls Tryz.prog 22 #[.agg #[.slice p.ca p.ns.length p.cc], .int .i64 k] W fun e w' => e = .returned (.bool (decide (0 ≤ k) && canB p.ns k.toNat)) ∧ Below W.heap.size W w') := fun h W hW => by
    obtain ⟨h1, h4⟩ := (chainB_parts (plB_parts h).2.1).1
    rcases hC.1 with h0 | ⟨G, cur, e, hG⟩
    · rw [h0] at h1; simp at h1
    · rw [e]
      exact l3Can_any G p.cc p.ns cur k W (hG.on hW) h4
  have HFU : Hid (plB p = true → (decide (0 ≤ k) && canB p.ns k.toNat) = false → ∀ q, LP q p → LP q (passP p k) ∧ passPK p k = false) := fun h hc q hq => by
    have e := passN_not (k := k) (plB_parts h).2.1 (fun x => by rw [decide_eq_true x.1, x.2] at hc; cases hc)
    have e2 := passP_not (p := p) (k := k) h e.2
    rw [e2.1, e2.2, e.1]
    exact ⟨hq, rfl⟩
  have HYE : Hid (plB p = true → ∀ kn : Nat, k = (kn : Int) → canB p.ns kn = true → passP p k = noteP (chP p (goN p.ns kn)) ∧ passPK p k = true) := fun h kn hk hc => by
    subst hk
    have e := passN_yes (k := (kn : Int)) (plB_parts h).2.1 (by omega) (by rw [Int.toNat_natCast]; exact hc)
    have e2 := passP_yes (p := p) (k := (kn : Int)) h e.2
    rw [e2.1, e2.2, e.1, Int.toNat_natCast]
    exact ⟨rfl, rfl⟩
  clear hm hC
  generalize hrp : passP p k = rp at HNO HFU HYE ⊢
  generalize hrb : passPK p k = rb at HNO HFU HYE ⊢
  generalize plB p = ok at *
  clear hrp hrb
  obtain ⟨me, ck, ca, cc, ns, la, lc, log, ga, gc, gs, fell⟩ := p
  simp only at HCB HCN HFU HYE
  change Calls _ _ #[.agg (plAt me ck ca ns.length cc la log.length lc ga gs.length gc fell), _] _ _
  have S0 := ((Inv.start w).box 36 (plAt me ck ca ns.length cc la log.length lc ga gs.length gc fell)).box 36 (plAt 0 0 none 0 0 none 0 0 none 0 0 false)
  simp only [World.size_alloc] at S0
  have q0 := (S0.nth 1 rfl).six
  go_enter Tryz.func7, Tryz.ntmps7
  go_wp2_with fail
  generalize hW0 : (w.alloc (.cells (plAt me ck ca ns.length cc la log.length lc ga gs.length gc fell) 36)).alloc (.cells (plAt 0 0 none 0 0 none 0 0 none 0 0 false) 36) = W0 at S0 q0 ⊢
  have zW0 : W0.heap.size = w.heap.size + 2 := by rw [← hW0]; simp
  clear hW0
  with_reducible refine (HOK.out _ S0.below).mono ?_
  rintro e w1 ⟨rfl, hb1⟩
  have S1 := S0.on hb1
  have q1 := (S1.nth 1 rfl).six
  have p1 := (S1.nth 0 rfl).six
  have z1 := hb1.size
  clear S0 q0 hb1
  cases ok
  · have HX := hide (HNO.out rfl)
    have HL := hide S1.below
    clear S1 q1
    go_wp2
    refine bodyPost_ret (v := .tuple #[.agg (plAt 0 0 none 0 0 none 0 0 none 0 0 false), .bool false]) (by simp [results, Tryz.results7, go_sem, p1]) rfl ?_
    rw [HX.out.1, HX.out.2]
    exact ⟨noP, rfl, lp_refl _, noP_res _ _ _, below_set6 HL.out (by omega) _ _ _ _ _ _⟩
  · clear p1
    go_wp2_with fail
    with_reducible refine (HCP.out _ S1.below).mono ?_
    rintro e w2 ⟨q, M1, M2, rfl, hq, ho, hb2⟩
    have z2 := hb2.size
    have HQ := hide hq
    have HO := hide ho.q
    have S2 := S1.on hb2
    have HN := hide hq.2.2.1
    have HLL := hide hq.2.2.2.1.1
    have HLN := hide hq.2.2.1.1
    obtain ⟨hfn, hpos, hl60⟩ := HCB.out trivial
    have HFN := hide hfn
    have hn4 := hfn.1
    have S3 := S2.alloc (.cells (plCells q) 36)
    have V3 := Blk.made w2 36 (plCells q)
    have HO3 := hide (HO.out.on (below_alloc1 w2 (.cells (plCells q) 36)))
    have hz3 : (w2.alloc (.cells (plCells q) 36)).heap.size = w2.heap.size + 1 := by simp
    clear hq ho hb2 S1 q1 hfn HCB HCP HOK
    obtain ⟨me2, ck2, ca2, cc2, us, la2, lc2, log2, ga2, gc2, gs2, fell2⟩ := q
    simp only at HN HLL HLN
    have r3 := (S3.nth 1 rfl).six
    have HCA := hide (HCN.out trivial _ S3.below)
    go_wp2_with fail
    with_reducible refine HCA.out.mono ?_
    rintro e w3 ⟨rfl, hb3⟩
    have S4 := S3.on hb3
    have V4 := V3.on hb3
    have HO4 := hide (HO3.out.on hb3)
    have z3 := hb3.size
    rw [hz3] at z3
    have p4 := (S4.nth 0 rfl).six
    have v4 := V4.six
    clear S3 V3 HO3 HCA hb3 r3 HCN
    cases hcan : (decide (0 ≤ k) && canB ns k.toNat)
    · have HX := hide (HFU.out trivial hcan _ HQ.out)
      have HL9 := hide S4.below
      clear hcan S2 S4 V4 HFU HYE HNO
      go_wp2
      refine bodyPost_ret (v := .tuple #[.agg (plAt me2 ck2 ca2 us.length cc2 la2 log2.length lc2 ga2 gs2.length gc2 fell2), .bool false]) (by simp [results, Tryz.results7, go_sem, p4]) rfl ?_
      rw [HX.out.2]
      refine ⟨⟨me2, ck2, ca2, cc2, us, la2, lc2, log2, ga2, gc2, gs2, fell2⟩, rfl, HX.out.1, ?_, below_set6 HL9.out (by omega) _ _ _ _ _ _⟩
      exact (HO4.out.turned (turn_w6 _ (w.heap.size + 1) _ _ _ _ _ _) (fun g hf e => by have := HO4.out.foot hf; omega)).pres.wide (by omega) (Nat.le_refl _)
    · obtain ⟨hk0, hcb⟩ : 0 ≤ k ∧ canB ns k.toNat = true := by
        rw [Bool.and_eq_true, decide_eq_true_eq] at hcan
        exact hcan
      obtain ⟨kn, rfl⟩ : ∃ kn : Nat, k = (kn : Int) := ⟨k.toNat, by omega⟩
      simp only [Int.toNat_natCast] at hcb hcan
      have HX := hide (HYE.out trivial kn rfl hcb)
      have HFG := hide (goN_fine HFN.out hcb)
      obtain ⟨G2, hca2⟩ : ∃ G2, ca2 = some ⟨G2, 0, none⟩ := by
        rcases HO.out.chain.res.2.cg with h0 | ⟨G', cur', e, h⟩
        · have := HLN.out
          simp only at h0
          rw [h0] at this
          simp at this
          omega
        · exact ⟨G', e⟩
      subst hca2
      have hfu := HFN.out.like HN.out
      have CP := hide (l3PassF_can_sh w1.heap.size G2 cc2 kn us w3 HO4.out.chain ((canB_like HN.out kn).trans hcb) hfu.1 (fun i m hi => shN_of (hfu.2 i m hi)))
      clear hcan hcb S2 HFU HYE HNO hk0 hfu
      go_wp2_with fail
      with_reducible refine CP.out.mono ?_
      rintro e w5 ⟨us', rfl, hul, hg5, -, hT5, hF5⟩
      have HUL := hide hul
      have hlen : us'.length = us.length := hul.1.trans (goN_len us kn)
      have HLE := hide hlen
      have HO5 := hide (HO4.out.swap (A := some ⟨G2, 0, none⟩) (cap := cc2) (us := us') (by rw [hlen]; exact hg5) hT5 (fun y e => .inl e) hF5)
      have HFQ := hide (OwnQ.swapFoot (q := ⟨me2, ck2, some ⟨G2, 0, none⟩, cc2, us, la2, lc2, log2, ga2, gc2, gs2, fell2⟩) (A := some ⟨G2, 0, none⟩) (cap := cc2) (us := us') hF5)
      have hPr : ∀ y, FootGr G2 cc2 us y → w1.heap.size ≤ y ∧ y < w2.heap.size := fun y e => HO.out.foot (.inl e)
      have S5 := S4.turned hT5 (fun y h => by have := hPr y h; omega) (fun x hx h => by
        have := hPr _ h
        simp only [List.mem_cons, List.not_mem_nil, or_false] at hx
        rcases hx with rfl | rfl <;> simp only at this <;> omega)
      have V5 := V4.turned hT5 (fun e => by have := hPr _ e; omega)
      have z5 := hT5.size
      have v5 := V5.six
      have hfeet : Hid (∀ y, FootQ ⟨me2, ck2, some ⟨G2, 0, none⟩, cc2, us', la2, lc2, log2, ga2, gc2, gs2, fell2⟩ y → w1.heap.size ≤ y ∧ y ≠ w2.heap.size) := fun y hy => by
        rcases HFQ.out y hy with h | h
        · have := HO.out.foot h; omega
        · omega
      have HO6 := hide (HO5.out.turned ((Turn.refl (fun y => y = w2.heap.size) w5).set (p := ⟨w2.heap.size, 2, none⟩) rfl (.slice (some ⟨G2, 0, none⟩) us.length cc2)) (fun y hf e => (hfeet.out y hf).2 e))
      have S6 := S5.set (p := ⟨w2.heap.size, 2, none⟩) (by simp only; omega) (by simp only; omega) (.slice (some ⟨G2, 0, none⟩) us.length cc2)
      have V6 := V5.put 2 (.slice (some ⟨G2, 0, none⟩) us.length cc2)
      simp only [List.setIfInBounds_toArray, List.set_cons_zero, List.set_cons_succ] at V6
      have hlg : log2.length ≤ 60 := by rw [HLL.out]; exact hl60
      have CN := hide (l4Note_any w1.heap.size ⟨me2, ck2, some ⟨G2, 0, none⟩, cc2, us', la2, lc2, log2, ga2, gc2, gs2, fell2⟩ _ HO6.out (HFG.out.like (nl_trans HUL.out (goN_like HN.out kn))) (by show 1 ≤ us'.length; have := HLN.out; omega) hlg)
      simp only [plCells, hlen] at CN
      have q6 := V6.six
      have z6 : (w5.setCell ⟨w2.heap.size, 2, none⟩ (.slice (some ⟨G2, 0, none⟩) us.length cc2)).heap.size = w5.heap.size := by simp [World.setCell]
      clear S4 S5 V4 V5 CP hul hg5 hT5 hF5 hPr hlen v4 p4 HO4
      go_wp2_with fail
      with_reducible refine CN.out.mono ?_
      rintro e w7 ⟨q7, rfl, hq7, ho7, hT7⟩
      have hPv : ∀ y, FootV la2 lc2 log2 y → w1.heap.size ≤ y := fun y h => (HO.out.foot (.inr (.inl h))).1
      have S7 := S6.turned hT7 (fun y h => by have := hPv y h; omega) (fun x hx h => by
        have := hPv _ h
        simp only [List.mem_cons, List.not_mem_nil, or_false] at hx
        rcases hx with rfl | rfl <;> simp only at this <;> omega)
      have p7 := (S7.nth 0 rfl).six
      have HQ7 := hide hq7
      have HO7 := hide ho7
      have HL7 := hide S7.below
      clear S6 V6 q6 v5 S7 CN hq7 ho7 hT7
      obtain ⟨me7, ck7, ca7, cc7, ns7, la7, lc7, log7, ga7, gc7, gs7, fell7⟩ := q7
      go_wp2
      refine bodyPost_ret (v := .tuple #[.agg (plAt me7 ck7 ca7 ns7.length cc7 la7 log7.length lc7 ga7 gs7.length gc7 fell7), .bool true]) (by simp [results, Tryz.results7, go_sem, p7]) rfl ?_
      rw [HX.out.1, HX.out.2]
      refine ⟨⟨me7, ck7, ca7, cc7, ns7, la7, lc7, log7, ga7, gc7, gs7, fell7⟩, rfl, lp_trans HQ7.out (noteP_like ⟨HQ.out.1, HQ.out.2.1, nl_trans HUL.out (goN_like HN.out kn), HQ.out.2.2.2.1, HQ.out.2.2.2.2.1, HQ.out.2.2.2.2.2⟩), ?_, below_set6 HL7.out (by omega) _ _ _ _ _ _⟩
      exact (HO7.out.turned (turn_w6 _ (w.heap.size + 1) _ _ _ _ _ _) (fun g hf e => by have := (HO7.out.foot hf).1; omega)).pres.wide (by omega) (Nat.le_refl _)
end Go.Proofs.YtnaggcdhimcilaaGreat
/- What the exact laws over a place share: marks of a copy are few; an answer for a place that says the same. No condition. -/
namespace Go.Proofs.YtnaggcdhimcilaaGreat
open Go.RowKit Go.Joins

theorem totL_lls {us ls : List Lg} (h : LLs us ls) : totL us = totL ls := by
  unfold totL
  congr 1
  apply List.ext_getElem?
  intro i
  rw [List.getElem?_map, List.getElem?_map]
  cases hx : us[i]? with
  | none =>
    have : ls[i]? = none := by
      rw [List.getElem?_eq_none_iff] at hx ⊢
      rw [← h.1]
      exact hx
    rw [this]
  | some v =>
    obtain ⟨v', hv', hl⟩ := lls_at h hx
    rw [hv']
    simp [totG, tot_ll hl, hl.1]
theorem wtL_tot (ls : List Lg) : wtL ls ≤ 5 * (totL ls : Int) := by
  induction ls with
  | nil => simp [wtL, totL]
  | cons n r ih =>
    have h1 := wts_tot n.vs
    unfold wtL totL at *
    simp only [List.map_cons, List.sum_cons, totG] at *
    omega
theorem wtP_few {q p : Pl} (h : LP q p) (hs : totP p ≤ 1048576) : (1 : Int) + wtP q ≤ 8388000 ∧ 0 ≤ wtP q := by
  obtain ⟨-, -, h3, h4, h5, -⟩ := h
  have a := wtNs_tot q.ns
  have b := wts_tot q.log
  have c := wtL_tot q.gs
  rw [totNs_nl h3] at a
  rw [tot_ll h4, h4.1] at b
  rw [totL_lls h5] at c
  have a' := wtNs_pos q.ns
  have b' := wts_pos q.log
  have c' := wtL_pos q.gs
  unfold totP totC totLg totGt at hs
  unfold wtP
  omega
theorem answerPB_like {w w' : World} {r r' : Pl} {b b' : Bool} {e : Ending} (h : AnswerPB w r b e w') (hl : LP r r' ∧ b = b') : AnswerPB w r' b' e w' := by
  obtain ⟨q, he, h1, h2, h3⟩ := h
  exact ⟨q, by rw [he, hl.2], lp_trans h1 hl.1, h2, h3⟩
end Go.Proofs.YtnaggcdhimcilaaGreat
