/- Contract of the program's pass: the first that waits at a node of a chain of the caller's own comes to the next one, if that has room. Condition: at most four nodes, all valid. -/
import Derived.Test.YtjnloillcgeodaaJLackPure
namespace Go.Proofs.Ytjnloillcgeodaa
open Go.RowKit Go.Joins
attribute [local go_sem ↓] Go.wp_at_zero Go.wp_at_succ

/-- What pass leaves. -/
def PassedP (w : World) (base G xc : Nat) (us : List Nd) (k : Nat) (e : Ending) (w' : World) : Prop :=
  ∃ us' : List Nd, e = .returned (.bool (canB us k)) ∧ NL us' (if canB us k = true then goN us k else us) ∧ GRow base w' (.slice (some ⟨G, 0, none⟩) us.length xc) us' ∧ Turn (TouchC w base) w w'
theorem passed_no {w w' : World} {base G xc : Nat} {us : List Nd} {k : Nat} (hG : GRow base w (.slice (some ⟨G, 0, none⟩) us.length xc) us) (hc : canB us k = false) (hb : Below w.heap.size w w') : PassedP w base G xc us k (.returned (.bool false)) w' :=
  ⟨us, by rw [hc], by rw [hc]; exact nl_refl us, hG.on hb, .below hb⟩
theorem GRow.cgs {base : Nat} {w : World} {G xc : Nat} {us : List Nd} (hG : GRow base w (.slice (some ⟨G, 0, none⟩) us.length xc) us) (h1 : 0 < us.length) : ∃ cur, Cg w G us cur := by
  obtain ⟨_, hR⟩ := hG.res
  rcases hR with h0 | ⟨G', cur, e, hR⟩
  · rw [h0] at h1; simp at h1
  · injection e with e
    injection e with e
    subst e
    exact ⟨cur, hR.cg⟩
/-- What waits, where something does. -/
theorem CRow.first {base : Nat} {w : World} {A : Option Addr} {c : Nat} {v : V} {r : List V} (h : CRow base w (.slice A (r.length + 1) c) (v :: r)) : ∃ g : Nat, A = some ⟨g, 0, none⟩ ∧ g < w.heap.size ∧ r.length + 1 ≤ c ∧ Six w g 0 v ∧ Vg w w.heap.size (some ⟨g, 6, none⟩) r ∧ Own1 w 0 w.heap.size v := by
  obtain ⟨A', cap', e', hR⟩ := h.resS
  injection e' with e' _ _
  subst e'
  have hvg := hR.vg
  rcases h.row.2 with ⟨_, e⟩ | ⟨g, cap, cr, e, q1, q2, q3, _⟩
  · simp at e
  · injection e with e _ e2
    subst e2
    subst e
    have hlt : g < w.heap.size := Blk.inside (show Blk w g 32 cr from q2)
    refine ⟨g, rfl, hlt, q3, ?_, by have := hvg.tail; simpa using this, (h.own 0 v rfl).low (Nat.zero_le _)⟩
    rcases hvg with q | ⟨b, off, e, _, hx⟩
    · cases q
    · injection e with e
      injection e with e1 e2
      subst e1 e2
      exact (hx 0 v rfl).1
set_option maxRecDepth 100000 in
set_option maxHeartbeats 4000000 in
theorem pass_any (B L base G xc k : Nat) (us : List Nd) (n : Nd) (w : World) (hG : GRow base w (.slice (some ⟨G, 0, none⟩) us.length xc) us) (hL : LinkAt w B L (some ⟨G, 0, none⟩) G us.length xc k) (hk : us[k]? = some n) (hl : us.length ≤ 4) (hB : ∀ (i : Nat) m, us[i]? = some m → nodeB m = true) :
    Calls Try.prog 51 #[.pointer (some ⟨L, 0, none⟩)] w (PassedP w base G xc us k) := by
  have hkl := (List.getElem?_eq_some_iff.1 hk).1
  obtain ⟨cur, hcg⟩ := hG.cgs (by omega)
  obtain ⟨b1, b2, -, -, -, hL1, hL2, hL3⟩ := hL
  have CT := hide (next_any G us.length xc k b1 b2 w (by omega) (by omega) hL2 hL3)
  have q0 := hL1.two.1
  have q1 : w.cell? ⟨L, 1, none⟩ = some (.func (.func 70) #[] #[.pointer (some ⟨b1, 0, none⟩), .pointer (some ⟨b2, 0, none⟩)]) := hL1.at 1
  have HL1 := hide hL1
  have HG := hide hG
  have HCG := hide hcg
  have HK := hide hk
  have HB := hide hB
  clear hG hcg hk hB hL1 hL2 hL3
  go_enter Try.func51, Try.ntmps51
  go_wp2_with fail
  with_reducible refine CT.out.mono ?_
  rintro e w1 ⟨hE, hb1⟩
  have HE := hide hE
  have HB1 := hide hb1
  clear hE hb1 CT q0 q1
  by_cases hlt : k + 1 < us.length
  · have hq := HE.out
    rw [if_pos hlt] at hq
    obtain ⟨L', rfl, hL'⟩ := hq
    have HL' := hide hL'
    clear hL' HE
    obtain ⟨m, hm⟩ : ∃ m, us[k + 1]? = some m := ⟨_, List.getElem?_eq_getElem hlt⟩
    have HCA := hide (canB_at HK.out hm)
    have HMM := hide hm
    have p0 : w1.cell? ⟨L, 0, none⟩ = some (.pointer (some ⟨G, k * 2, none⟩)) := (HL1.out.on HB1.out).two.1
    have HC1 := hide (HCG.out.on HB1.out)
    have n1 : w1.cell? ⟨G, k * 2 + 1, none⟩ = some (.slice n.wa n.ws.length n.wc) := (HC1.out.blk.at _).trans (HC1.out.at' k n HK.out).2
    clear hm
    by_cases h0 : n.ws.length = 0
    · have HNO : Hid (canB us k = false) := by unfold Hid; rw [HCA.out, h0]; rfl
      have e0 : ((n.ws.length : Int) == 0) = true := by rw [h0]; rfl
      clear h0
      go_wp2
      go_ret
      exact passed_no HG.out HNO.out HB1.out
    · have e0 : ((n.ws.length : Int) == 0) = false := by rw [beq_eq_false_iff_ne]; omega
      obtain ⟨v, r, hw⟩ : ∃ v r, n.ws = v :: r := by
        cases hq : n.ws with
        | nil => rw [hq] at h0; simp at h0
        | cons v r => exact ⟨v, r, rfl⟩
      have CF := hide (linkFull_any w.heap.size L' G xc (k + 1) us.length us cur m w1 HC1.out HL'.out HMM.out)
      have hcr := (HG.out.on HB1.out).own k n HK.out
      rw [hw] at hcr n1 e0
      simp only [List.length_cons] at hcr n1 e0
      obtain ⟨gw, hwa, hgl, hc1, hsix, -, hov⟩ := hcr.first
      rw [hwa] at n1
      have HV := hide hov
      have HW := hide hw
      have HVV := hide ((nodeB_parts (HB.out k n HK.out)).2.2 v (by rw [hw]; exact List.mem_cons_self))
      clear hcr hwa hov hw h0
      by_cases h6 : m.ws.length ≥ 6
      · have HNO : Hid (canB us k = false) := by unfold Hid; rw [HCA.out, decide_eq_false (p := m.ws.length < 6) (by omega), Bool.and_false]
        rw [decide_eq_true h6] at CF
        clear h6
        go_wp2_with fail
        with_reducible refine CF.out.mono ?_
        rintro e w2 ⟨rfl, rfl⟩
        clear CF
        go_wp2
        go_ret
        exact passed_no HG.out HNO.out HB1.out
      · have HYES : Hid (canB us k = true) := by unfold Hid; rw [HCA.out, HW.out, decide_eq_true (p := m.ws.length < 6) (by omega)]; simp
        rw [decide_eq_false h6] at CF
        clear h6
        have CA := hide (apply_any w.heap.size L' base G xc (k + 1) us m v w1 (HG.out.on HB1.out) HL'.out HMM.out hl (HB.out (k + 1) m HMM.out) HVV.out HV.out)
        have i1 : (0 : Int) < ((r.length + 1 : Nat) : Int) := by omega
        obtain ⟨s0, s1, s2, s3, s4, s5⟩ := hsix
        simp only [Nat.zero_add] at s1 s2 s3 s4 s5
        go_wp2_with fail
        with_reducible refine CF.out.mono ?_
        rintro e w2 ⟨rfl, rfl⟩
        clear CF
        go_wp2_with fail
        with_reducible refine CA.out.mono ?_
        rintro e w3 ⟨us', rfl, hul3, hg3, hT3⟩
        have HT3 := hide (Turn.touch HB1.out hT3)
        have BL3 := (HL1.out.on HB1.out).turned hT3 (touch_no (HL1.out.on HB1.out) (by decide) (by decide))
        have hadd : (addN us (k + 1) v)[k]? = some n := by rw [addN_at HMM.out, List.getElem?_set_ne (by omega)]; exact HK.out
        obtain ⟨n2, hn2⟩ : ∃ n2, us'[k]? = some n2 := ⟨_, List.getElem?_eq_getElem (by rw [hul3.1]; exact (List.getElem?_eq_some_iff.1 hadd).1)⟩
        have hln := hul3.2 k n2 n hn2 hadd
        obtain ⟨v2, r2, hw2⟩ : ∃ v2 r2, n2.ws = v2 :: r2 := by
          cases hq : n2.ws with
          | nil => have := hln.2.2.1; rw [hq, HW.out] at this; simp at this
          | cons v r => exact ⟨v, r, rfl⟩
        have hlen : us'.length = us.length := by rw [hul3.1, addN_at HMM.out, List.length_set]
        have hg3' : GRow base w3 (.slice (some ⟨G, 0, none⟩) us'.length xc) us' := by rw [hlen]; exact hg3
        obtain ⟨cur3, hcg3⟩ := hg3'.cgs (by omega)
        have hcr3 := hg3.own k n2 hn2
        have c3 := (hcg3.at' k n2 hn2).2
        rw [hw2] at hcr3 c3
        simp only [List.length_cons] at hcr3 c3
        obtain ⟨g2, hwa2, hgl2, hc2, -, hvg2, -⟩ := hcr3.first
        rw [hwa2] at c3
        have hnb2 : nodeB n2 = true := (nodeB_like hln).trans (HB.out k n HK.out)
        have hsm : r2.length ≤ 5 ∧ ∀ x ∈ r2, x.ts.length ≤ 1048576 := by
          obtain ⟨_, h6, h3⟩ := nodeB_parts hnb2
          rw [hw2] at h6 h3
          simp only [List.length_cons] at h6
          exact ⟨by omega, fun x hx => by have := pastB_len4 (verB_parts (h3 x (List.mem_cons_of_mem _ hx))).2.2.2; omega⟩
        have HC3 := hide c3
        have BG3 := hcg3.blk
        have HG3 := hide hg3'
        have HN2 := hide hn2
        have HLN := hide hln
        have HW2 := hide hw2
        have HUL3 := hide hul3
        have HLEN := hide hlen
        have HVG := hide (Vg.on hvg2 ((Below.refl w3.heap.size w3).drew))
        have HVE : Hid (r2.length = 0 → ∀ a : Option Addr, Vg w3.drew w3.drew.heap.size a r2) := fun h0 a => .inl (List.length_eq_zero_iff.1 h0)
        clear s0 s1 s2 s3 s4 s5 i1 CA hcr3 c3 hg3 hg3' hcg3 hn2 hln hw2 hul3 hlen hvg2 hnb2 hT3 hadd n1 p0 e0 HC1 hwa2
        obtain ⟨aT, haT⟩ : ∃ aT, (if n2.wc = 1 then some (⟨g2, 0, none⟩ : Addr) else some ⟨g2, 6, none⟩) = aT := ⟨_, rfl⟩
        have HVT : Hid (Vg w3.drew w3.drew.heap.size aT r2) := by
          unfold Hid
          rw [← haT]
          split
          · exact HVE.out (by omega) _
          · exact HVG.out
        have CCV := hide (copyVers_any aT (n2.wc - 1) r2 w3.drew (by omega) hsm.2 HVT.out)
        have j1 : (1 : Int) ≤ (r2.length : Int) + 1 := by omega
        have q1 : w3.drew.cell? ⟨G, k * 2 + 1, none⟩ = some (.slice (some ⟨g2, 0, none⟩) (r2.length + 1) n2.wc) := (BG3.drew.at _).trans HC3.out
        have hLG : L ≠ G := fun e => by subst e; exact absurd (blk_one BL3 BG3) (by decide)
        go_wp2_with fail
        refine wp_region_noPanic ?_
        refine wp_region_held_drew (S := (fun w' => w'.cell? ⟨L, 0, none⟩ = some (.pointer (some ⟨G, k * 2, none⟩)) ∧ Blk w' L 75 #[.pointer (some ⟨G, k * 2, none⟩), .func (.func 70) #[] #[.pointer (some ⟨b1, 0, none⟩), .pointer (some ⟨b2, 0, none⟩)]])) (by kernel_rfl) (by exact ⟨BL3.drew.at 0, BL3.drew⟩) (fun hHeld => ?_)
        refine take_run 0 (some 37) (v := ?_) rfl rfl (by kernel_rfl) (by kernel_rfl) (by kernel_rfl) (fun _ _ _ h => h) (by rfl) ?_ hHeld ?_
        rotate_left
        · ((intro w hSw); (try dsimp only at hSw); go_simp <;> with_reducible rfl)
        simp only [Act.put, List.setIfInBounds_toArray, List.set_cons_zero, List.set_cons_succ]
        refine take_run 1 (some 38) (v := ?_) rfl rfl (by kernel_rfl) (by kernel_rfl) (by kernel_rfl) (fun _ _ _ h => h) (by rfl) ?_ hHeld ?_
        rotate_left
        · ((intro w hSw); (try dsimp only at hSw); go_simp <;> with_reducible rfl)
        simp only [Act.put, List.setIfInBounds_toArray, List.set_cons_zero, List.set_cons_succ]
        refine take_run 2 (some 39) (v := ?_) rfl rfl (by kernel_rfl) (by kernel_rfl) (by kernel_rfl) (fun _ _ _ h => h) (by rfl) ?_ hHeld ?_
        rotate_left
        · ((intro w hSw); (try dsimp only at hSw); go_simp <;> with_reducible rfl)
        simp only [Act.put, List.setIfInBounds_toArray, List.set_cons_zero, List.set_cons_succ]
        refine take_run 3 (some 40) (v := ?_) rfl rfl (by kernel_rfl) (by kernel_rfl) (by kernel_rfl) (fun _ _ _ h => h) (by rfl) ?_ hHeld ?_
        rotate_left
        · ((intro w hSw); (try dsimp only at hSw); go_simp <;> with_reducible rfl)
        simp only [Act.put, List.setIfInBounds_toArray, List.set_cons_zero, List.set_cons_succ]
        refine take_run 4 (some 41) (v := ?_) rfl rfl (by kernel_rfl) (by kernel_rfl) (by kernel_rfl) (fun _ _ _ h => h) (by rfl) ?_ hHeld ?_
        rotate_left
        · ((intro w hSw); (try dsimp only at hSw); go_simp <;> with_reducible rfl)
        simp only [Act.put, List.setIfInBounds_toArray, List.set_cons_zero, List.set_cons_succ]
        refine take_run 5 (some 42) (v := ?_) rfl rfl (by kernel_rfl) (by kernel_rfl) (by kernel_rfl) (fun _ _ _ h => h) (by rfl) ?_ hHeld ?_
        rotate_left
        · ((intro w hSw); (try dsimp only at hSw); go_simp <;> with_reducible rfl)
        simp only [Act.put, List.setIfInBounds_toArray, List.set_cons_zero, List.set_cons_succ]
        refine take_run 6 (some 43) (v := ?_) rfl rfl (by kernel_rfl) (by kernel_rfl) (by kernel_rfl) (fun _ _ _ h => h) (by rfl) ?_ hHeld ?_
        rotate_left
        · ((intro w hSw); (try dsimp only at hSw); go_simp <;> with_reducible rfl)
        simp only [Act.put, List.setIfInBounds_toArray, List.set_cons_zero, List.set_cons_succ]
        refine take_run 7 (some 44) (v := ?_) rfl rfl (by kernel_rfl) (by kernel_rfl) (by kernel_rfl) (fun _ _ _ h => h) (by rfl) ?_ hHeld ?_
        rotate_left
        · ((intro w hSw); (try dsimp only at hSw); go_simp <;> with_reducible rfl)
        simp only [Act.put, List.setIfInBounds_toArray, List.set_cons_zero, List.set_cons_succ]
        refine take_run 8 (some 45) (v := ?_) rfl rfl (by kernel_rfl) (by kernel_rfl) (by kernel_rfl) (fun _ _ _ h => h) (by rfl) ?_ hHeld ?_
        rotate_left
        · ((intro w hSw); (try dsimp only at hSw); go_simp <;> with_reducible rfl)
        simp only [Act.put, List.setIfInBounds_toArray, List.set_cons_zero, List.set_cons_succ]
        refine take_run 9 (some 46) (v := ?_) rfl rfl (by kernel_rfl) (by kernel_rfl) (by kernel_rfl) (fun _ _ _ h => h) (by rfl) ?_ hHeld ?_
        rotate_left
        · ((intro w hSw); (try dsimp only at hSw); go_simp <;> with_reducible rfl)
        simp only [Act.put, List.setIfInBounds_toArray, List.set_cons_zero, List.set_cons_succ]
        refine take_one 10 (by kernel_rfl) rfl (fun K hK => ?_)
        go_simp
        refine hK.out _ _ (by exact hHeld) (fun hHeld => ?_)
        clear hK K
        refine take_run 11 (some 48) (v := ?_) rfl rfl (by kernel_rfl) (by kernel_rfl) (by kernel_rfl) (fun _ _ _ h => h) (by rfl) ?_ hHeld ?_
        rotate_left
        · ((intro w hSw); (try dsimp only at hSw); go_simp <;> with_reducible rfl)
        simp only [Act.put, List.setIfInBounds_toArray, List.set_cons_zero, List.set_cons_succ]
        refine take_one 12 (by kernel_rfl) rfl (fun K hK => ?_)
        go_simp
        ((with_reducible refine CCV.out.mono ?_); rintro e w4 ⟨x, ws, rfl, hl4, hli4, hcr4, hb4⟩; obtain ⟨A4, cap4, rfl, -⟩ := hcr4.resS; have HLL : Hid (LL ws r2) := ⟨hl4, hli4⟩; have HCR4 := hide hcr4; have HB4 := hide hb4; have N4 := BG3.drew.on hb4; have q5 := (N4.at (k * 2 + 1)).trans HC3.out; have f5 := N4.loose (k * 2 + 1); clear hl4 hli4 hcr4)
        try go_wp2_with fail
        refine hK.out _ _ (by exact ⟨(hHeld.2.on HB4.out).at 0, hHeld.2.on HB4.out⟩) (fun hHeld => ?_)
        clear hK K
        refine take_run 13 (some 50) (v := ?_) rfl rfl (by kernel_rfl) (by kernel_rfl) (by kernel_rfl) (fun _ _ _ h => h) (by rfl) ?_ hHeld ?_
        rotate_left
        · ((intro w hSw); (try dsimp only at hSw); go_simp <;> with_reducible rfl)
        simp only [Act.put, List.setIfInBounds_toArray, List.set_cons_zero, List.set_cons_succ]
        refine take_run 14 (some 51) (v := ?_) rfl rfl (by kernel_rfl) (by kernel_rfl) (by kernel_rfl) (fun _ _ _ h => h) (by rfl) ?_ hHeld ?_
        rotate_left
        · ((intro w hSw); (try dsimp only at hSw); go_simp <;> with_reducible rfl)
        simp only [Act.put, List.setIfInBounds_toArray, List.set_cons_zero, List.set_cons_succ]
        refine take_one 15 (by kernel_rfl) rfl (fun K hK => ?_)
        go_simp
        refine hK.out _ _ (by exact ⟨(hHeld.2.aside (by show L ≠ G; exact hLG) _).at 0, hHeld.2.aside (by show L ≠ G; exact hLG) _⟩) (fun hHeld => ?_)
        clear hK K
        refine wpAnyH_done (by kernel_rfl) ?_ _
        refine NoPanic.normal ?_
        have GG := (HG3.out.on (Below.refl _ _).drew).newWait (A := A4) (cap := cap4) (ws := ws) HN2.out HB4.out (HCR4.out.down (by have := HG3.out.lo; exact this)) (fun y hy => .inr (HCR4.out.footLo hy))
        rw [HLEN.out] at GG
        have HGG := hide GG
        have HT9 := hide ((HT3.out.trans ((Turn.below (P := TouchC w base) (Below.refl _ _).drew).trans (.below HB4.out))).set (p := ⟨G, k * 2 + 1, none⟩) (by obtain ⟨cs, b1, b2, _⟩ := HG.out.typed G rfl; exact ⟨b2, cs, .inr b1⟩) (.slice A4 ws.length cap4))
        clear GG N4 q1 q5 f5 hHeld BL3 BG3
        generalize w4.setCell ⟨G, k * 2 + 1, none⟩ (.slice A4 ws.length cap4) = W9 at HGG HT9 ⊢
        go_wp2
        go_ret
        refine ⟨_, by rw [HYES.out]; rfl, ?_, HGG.out, HT9.out⟩
        rw [if_pos HYES.out, goN_at HK.out HW.out, ← addN_set (by omega)]
        have ht := ll_tail (us := n2.ws) (vs := n.ws) ⟨HLN.out.2.2.1, HLN.out.2.2.2⟩
        rw [HW2.out] at ht
        have hl := ll_trans HLL.out ht
        exact nl_set HUL3.out ⟨HLN.out.1, HLN.out.2.1, hl.1, hl.2⟩
  · have hq := HE.out
    rw [if_neg hlt] at hq
    subst hq
    have HNO := hide (canB_end (ns := us) (k := k) (by omega))
    clear HE
    go_wp2
    go_ret
    exact passed_no HG.out HNO.out HB1.out
end Go.Proofs.Ytjnloillcgeodaa
/- Contract of the program's ChainPass. Condition: sizes that memory holds. -/
namespace Go.Proofs.Ytjnloillcgeodaa
open Go.RowKit Go.Joins
attribute [local go_sem ↓] Go.wp_at_zero Go.wp_at_succ

set_option maxRecDepth 100000 in
set_option maxHeartbeats 2000000 in
/-- There is no such node. -/
theorem linkAt_out (G n c : Nat) (k : Int) (w : World) (hk : k < 0 ∨ (n : Int) ≤ k) :
    Calls Try.prog 30 #[.slice (some ⟨G, 0, none⟩) n c, .int .i64 k] w fun e w' => e = .returned (.pointer none) ∧ Below w.heap.size w w' := by
  have S0 := ((Inv.start w).box 23 #[.slice (some ⟨G, 0, none⟩) n c]).box 3 #[.int .i64 k]
  simp only [World.size_alloc] at S0
  by_cases h0 : k < 0
  · go_enter Try.func30, Try.ntmps30
    go_wp2
    go_ret
    exact ⟨rfl, S0.below⟩
  · have h1 : k ≥ (n : Int) := by omega
    go_enter Try.func30, Try.ntmps30
    go_wp2
    go_ret
    exact ⟨rfl, S0.below⟩
set_option maxRecDepth 100000 in
set_option maxHeartbeats 4000000 in
theorem implChainPass_any (A : Option Addr) (c : Nat) (ns : List Nd) (k : Int) (w : World) (hn : ns.length ≤ 1048576) (hm : SmN ns) (hC : CgA w A ns) :
    Calls Try.prog 17 #[.agg #[.slice A ns.length c], .int .i64 k] w (AnswerCB w (passN ns k) (passK ns k)) := by
  have S0 := ((Inv.start w).box 25 #[.slice A ns.length c]).box 25 #[.slice none 0 0]
  simp only [World.size_alloc] at S0
  have C0 := hide (implChainOk_any A c ns ((w.alloc (.cells #[.slice A ns.length c] 25)).alloc (.cells #[.slice none 0 0] 25)) hn hm (hC.on S0.below))
  have CC : Hid (∀ W, Below w.heap.size w W → Calls Try.prog 29 #[.agg #[.slice A ns.length c]] W (ClonedC W ns)) := fun W hW => chainClone_any A c ns W hn hm (hC.on hW)
  have k0 := (S0.nth 1 rfl).one.1
  clear hm hC
  cases ho : chainB ns
  · have HE := hide (passN_no (k := k) ho)
    rw [ho] at C0
    clear ho
    go_enter Try.func17, Try.ntmps17
    go_wp2_with fail
    with_reducible refine C0.out.mono ?_
    rintro e w1 ⟨rfl, hb1⟩
    have S1 := S0.on hb1
    have q1 := (S1.nth 0 rfl).one
    clear S0 C0 k0
    go_wp2
    refine bodyPost_ret (v := .tuple #[.agg #[.slice none 0 0], .bool false]) (by simp [results, Try.results17, go_sem, q1]) rfl ?_
    exact answerCB_none HE.out (S1.below.setCell (by simp only; omega) _)
  · have HOK := hide ho
    rw [ho] at C0
    clear ho
    go_enter Try.func17, Try.ntmps17
    go_wp2_with fail
    with_reducible refine C0.out.mono ?_
    rintro e w2 ⟨rfl, hb1⟩
    have S2 := S0.on hb1
    have k2 := (S2.nth 1 rfl).one.1
    have zr := S2.room
    have zb := S2.base
    clear S0 C0 k0 hb1
    go_wp2_with fail
    with_reducible refine (CC.out _ S2.below).mono ?_
    rintro e w3 hcl
    obtain ⟨G, xc, us, rfl, hul, hu4, hB, hu1, hgr, hb3⟩ := cloned_at hcl HOK.out
    have HUL := hide hul
    have HB := hide hB
    have HLN := hide hul.1
    have HCB := hide (canB_like hul k.toNat)
    have z3 := hb3.size
    have S3 := (S2.on hb3).alloc (.cells #[.slice (some ⟨G, 0, none⟩) us.length xc] 25)
    have V0 := Blk.made w3 25 #[.slice (some ⟨G, 0, none⟩) us.length xc]
    have HGR := hide (hgr.on (below_alloc1 w3 (.cells #[.slice (some ⟨G, 0, none⟩) us.length xc] 25)))
    have v0 := V0.one.1
    clear S2 k2 hb3 hul hgr hcl hB CC
    by_cases hin : 0 ≤ k ∧ k < (us.length : Int)
    · obtain ⟨kn, rfl⟩ : ∃ kn : Nat, k = (kn : Int) := ⟨k.toNat, by omega⟩
      obtain ⟨n, hn0⟩ : ∃ n, us[kn]? = some n := ⟨_, List.getElem?_eq_getElem (by omega)⟩
      have HN0 := hide hn0
      clear hn0
      go_wp2_with fail
      generalize hW0 : w3.alloc (.cells #[.slice (some ⟨G, 0, none⟩) us.length xc] 25) = W0 at V0 v0 HGR S3 ⊢
      have zA : w3.heap.size < W0.heap.size := by rw [← hW0]; simp
      clear hW0
      have CT := hide (linkAt_any G us.length xc kn W0 (by omega) (by omega))
      with_reducible refine CT.out.mono ?_
      rintro e w4 ⟨hE, hb4⟩
      rw [if_pos (by omega)] at hE
      obtain ⟨L, rfl, hL⟩ := hE
      have HL := hide hL
      have HGR4 := hide (HGR.out.on hb4)
      have V4 := V0.on hb4
      have S4 := S3.on hb4
      have z4 := hb4.size
      have CP := hide (pass_any W0.heap.size L w2.heap.size G xc kn us n w4.drew (HGR4.out.on (Below.refl _ _).drew) (HL.out.on (Below.refl _ _).drew) HN0.out hu4 HB.out)
      have J4 : Inv w (w.heap.size + 1) [(w.heap.size, 25, #[.slice A ns.length c])] w4 := ⟨S4.below, by omega, fun x hx => by
        simp only [List.mem_cons, List.not_mem_nil, or_false] at hx
        subst hx
        exact ⟨Nat.le_refl _, by simp, S4.nth 1 rfl⟩⟩
      have B4 := S4.nth 0 rfl
      have hz4 : w4.drew.heap.size = w4.heap.size := rfl
      have HEN : Hid ((canB us kn = true → passN ns (kn : Int) = goN ns kn ∧ passK ns (kn : Int) = true) ∧ (canB us kn = false → passN ns (kn : Int) = ns ∧ passK ns (kn : Int) = false)) := by
        have hq := HCB.out
        simp only [Int.toNat_natCast] at hq
        refine ⟨fun h => ?_, fun h => ?_⟩
        · have := passN_yes (k := (kn : Int)) HOK.out (by omega) (by simpa using hq.symm.trans h)
          simpa using this
        · exact passN_not (k := (kn : Int)) HOK.out (fun q => by
            have q2 := q.2
            simp only [Int.toNat_natCast] at q2
            rw [hq, q2] at h
            cases h)
      clear CT HGR V0 v0 S3 hb4 hL S4
      go_wp2_with fail
      refine wp_region_noPanic ?_
      refine wp_region_held_drew (S := (fun w' => w'.cell? ⟨w3.heap.size, 0, none⟩ = some (.slice (some ⟨G, 0, none⟩) us.length xc) ∧ Blk w' w3.heap.size 25 #[.slice (some ⟨G, 0, none⟩) us.length xc] ∧ Inv w (w.heap.size + 1) [(w.heap.size, 25, #[.slice A ns.length c])] w' ∧ (∃ y, Blk w' (w.heap.size + 1) 25 #[y]))) (by kernel_rfl) (by exact ⟨V4.drew.at 0, V4.drew, J4.drew, ⟨_, B4.drew⟩⟩) (fun hHeld => ?_)
      refine take_run 0 (some 21) (v := ?_) rfl rfl (by kernel_rfl) (by kernel_rfl) (by kernel_rfl) (fun _ _ _ h => h) (by rfl) ?_ hHeld ?_
      rotate_left
      · ((intro w hSw); (try dsimp only at hSw); go_simp <;> with_reducible rfl)
      simp only [Act.put, List.setIfInBounds_toArray, List.set_cons_zero, List.set_cons_succ]
      refine take_run 1 (some 22) (v := ?_) rfl rfl (by kernel_rfl) (by kernel_rfl) (by kernel_rfl) (fun _ _ _ h => h) (by rfl) ?_ hHeld ?_
      rotate_left
      · ((intro w hSw); (try dsimp only at hSw); go_simp <;> with_reducible rfl)
      simp only [Act.put, List.setIfInBounds_toArray, List.set_cons_zero, List.set_cons_succ]
      refine take_one 2 (by kernel_rfl) rfl (fun K hK => ?_)
      go_simp
      ((with_reducible refine CP.out.mono ?_); rintro e w5 ⟨us', rfl, hul5, hg5, hT5⟩; have HUL5 := hide hul5; have HG5 := hide hg5; have HT5 := hide hT5; have I5 := hHeld.2.2.1.turned hT5 (fun g h => by have h' := h.1; omega) (fun x hx h => by have h' := h.1; simp only [List.mem_cons, List.not_mem_nil, or_false] at hx; subst hx; simp only at h'; omega); obtain ⟨y5, hy5⟩ := hHeld.2.2.2; have B5 := hy5.turned hT5 (fun h => by have h' := h.1; omega); have V5 := hHeld.2.1.turned hT5 (touch_no hHeld.2.1 (by decide) (by decide)); have HB9 := hide B5; have q5 := B5.one; have z5 := hT5.size; clear hul5 hg5 hT5)
      try go_wp2_with fail
      refine hK.out _ _ (by exact ⟨V5.at 0, V5, I5, ⟨y5, B5⟩⟩) (fun hHeld => ?_)
      clear hK K
      refine take_one 3 (by kernel_rfl) rfl (fun K hK => ?_)
      go_simp
      refine hK.out _ _ (by exact ⟨(V5.aside (by show w3.heap.size ≠ w.heap.size + 1; omega) _).at 0, V5.aside (by show w3.heap.size ≠ w.heap.size + 1; omega) _, I5.set (p := ⟨w.heap.size + 1, 0, none⟩) (by simp) (by simp) _, ⟨_, B5.put 0 _⟩⟩) (fun hHeld => ?_)
      clear hK K
      refine take_run 4 (some 5) (v := ?_) rfl rfl (by kernel_rfl) (by kernel_rfl) (by kernel_rfl) (fun _ _ _ h => h) (by rfl) ?_ hHeld ?_
      rotate_left
      · ((intro w hSw); (try dsimp only at hSw); go_simp <;> with_reducible rfl)
      simp only [Act.put, List.setIfInBounds_toArray, List.set_cons_zero, List.set_cons_succ]
      refine wpAnyH_done (by kernel_rfl) ?_ _
      refine NoPanic.normal ?_
      obtain ⟨-, -, I9, -⟩ := hHeld
      have B9 := HB9.out.put 0 (.slice (some ⟨G, 0, none⟩) us.length xc)
      simp only [List.setIfInBounds_toArray, List.set_cons_zero] at B9
      have q9 := B9.one
      have HG9 := hide (HG5.out.aside (p := ⟨w.heap.size + 1, 0, none⟩) (by simp only; omega) (.slice (some ⟨G, 0, none⟩) us.length xc))
      clear V4 J4 B4 I5 hy5 B5 q5 V5
      generalize w5.setCell ⟨w.heap.size + 1, 0, none⟩ (.slice (some ⟨G, 0, none⟩) us.length xc) = W9 at I9 B9 q9 HG9 ⊢
      cases hcan : canB us kn
      · have HE := hide (HEN.out.2 hcan)
        have HNL := hide (show NL us' us by have := HUL5.out; rw [hcan] at this; simpa using this)
        clear hcan
        go_wp2
        refine bodyPost_ret (v := .tuple #[.agg #[.slice (some ⟨G, 0, none⟩) us.length xc], .bool false]) (by simp [results, Try.results17, go_sem, q9]) rfl ?_
        rw [HE.out.1, HE.out.2]
        exact answerCB_row (HG9.out.down zb) (nl_trans HNL.out HUL.out) I9.below
      · have HE := hide (HEN.out.1 hcan)
        have HNL := hide (show NL us' (goN us kn) by have := HUL5.out; rw [hcan] at this; simpa using this)
        clear hcan
        go_wp2
        refine bodyPost_ret (v := .tuple #[.agg #[.slice (some ⟨G, 0, none⟩) us.length xc], .bool true]) (by simp [results, Try.results17, go_sem, q9]) rfl ?_
        rw [HE.out.1, HE.out.2]
        exact answerCB_row (HG9.out.down zb) (nl_trans HNL.out (goN_like HUL.out kn)) I9.below
    · have HE := hide (passN_not (k := k) HOK.out (fun q => hin ⟨q.1, by
        by_cases h9 : k < (us.length : Int)
        · exact h9
        · have := canB_end (ns := ns) (k := k.toNat) (by have := HLN.out; omega)
          rw [this] at q
          cases q.2⟩))
      have CT := hide (linkAt_out G us.length xc k (w3.alloc (.cells #[.slice (some ⟨G, 0, none⟩) us.length xc] 25)) (by omega))
      clear hin
      go_wp2_with fail
      with_reducible refine CT.out.mono ?_
      rintro e w4 ⟨rfl, hb4⟩
      have HGR4 := hide (HGR.out.on hb4)
      have V4 := V0.on hb4
      have S4 := S3.on hb4
      have z4 := hb4.size
      have v4 := V4.one.1
      have q4 := (S4.nth 0 rfl).one
      clear CT HGR V0 v0 S3 hb4
      go_wp2
      refine bodyPost_ret (v := .tuple #[.agg #[.slice (some ⟨G, 0, none⟩) us.length xc], .bool false]) (by simp [results, Try.results17, go_sem, q4]) rfl ?_
      rw [HE.out.1, HE.out.2]
      exact answerCB_row ((HGR4.out.aside (p := ⟨w.heap.size + 1, 0, none⟩) (by simp only; omega) _).down zb) HUL.out (S4.below.setCell (by simp only; omega) _)
end Go.Proofs.Ytjnloillcgeodaa
/- Contracts of the model's l3Can and l3Pass. Condition: at most four nodes, all valid. -/
namespace Go.Proofs.Ytjnloillcgeodaa
open Go.RowKit Go.Joins
attribute [local go_sem ↓] Go.wp_at_zero Go.wp_at_succ

set_option maxRecDepth 100000 in
set_option maxHeartbeats 2000000 in
theorem l3Can_any (G c : Nat) (ns : List Nd) (cur : Array Value) (k : Int) (w : World) (hC : Cg w G ns cur) (hl : ns.length ≤ 4) :
    Calls Try.prog 52 #[.agg #[.slice (some ⟨G, 0, none⟩) ns.length c], .int .i64 k] w fun e w' => e = .returned (.bool (decide (0 ≤ k) && canB ns k.toNat)) ∧ Below w.heap.size w w' := by
  have L0 := below_alloc1 w (.cells #[.slice (some ⟨G, 0, none⟩) ns.length c] 25)
  have k0 := (Blk.made w 25 #[.slice (some ⟨G, 0, none⟩) ns.length c]).one.1
  have HC := hide (hC.on L0)
  have kw : IntKind.i64.wrap ((ns.length : Int) - 2) = (ns.length : Int) - 2 := by rw [IntKind.wrap_i64]; omega
  have CI := hide (l1In_any k 0 ((ns.length : Int) - 2) (w.alloc (.cells #[.slice (some ⟨G, 0, none⟩) ns.length c] 25)))
  clear hC
  by_cases hin : 0 ≤ k ∧ k ≤ (ns.length : Int) - 2
  · obtain ⟨kn, rfl⟩ : ∃ kn : Nat, k = (kn : Int) := ⟨k.toNat, by omega⟩
    obtain ⟨n, hn⟩ : ∃ n, ns[kn]? = some n := ⟨_, List.getElem?_eq_getElem (by omega)⟩
    obtain ⟨m, hm⟩ : ∃ m, ns[kn + 1]? = some m := ⟨_, List.getElem?_eq_getElem (by omega)⟩
    have n1 := (HC.out.blk.at (kn * 2 + 1)).trans (HC.out.at' kn n hn).2
    have m1 := (HC.out.blk.at ((kn + 1) * 2 + 1)).trans (HC.out.at' (kn + 1) m hm).2
    rw [decide_eq_true hin] at CI
    have HCA : Hid ((decide (0 ≤ (kn : Int)) && canB ns (kn : Int).toNat) = (decide (0 < n.ws.length) && decide (m.ws.length < 6))) := by
      unfold Hid
      rw [Int.toNat_natCast, canB_at hn hm, decide_eq_true (p := 0 ≤ (kn : Int)) (by omega), Bool.true_and]
    rw [HCA.out]
    have i1 : (0 : Int) ≤ (kn : Int) := by omega
    have i2 : (kn : Int) < (ns.length : Int) := by omega
    have i3 : (0 : Int) ≤ (kn : Int) + 1 := by omega
    have i4 : (kn : Int) + 1 < (ns.length : Int) := by omega
    have iw : IntKind.i64.wrap ((kn : Int) + 1) = (kn : Int) + 1 := by rw [IntKind.wrap_i64]; omega
    have it : ((kn : Int) + 1).toNat = kn + 1 := by omega
    clear hn hm hin
    by_cases h0 : 0 < n.ws.length
    · have z0 : (n.ws.length : Int) > 0 := by omega
      rw [decide_eq_true h0]
      by_cases h6 : m.ws.length < 6
      · have z6 : (m.ws.length : Int) < 6 := by omega
        rw [decide_eq_true h6]
        clear h0 h6
        go_enter Try.func52, Try.ntmps52
        go_wp2_with fail
        with_reducible refine CI.out.mono ?_
        rintro e w1 ⟨rfl, rfl⟩
        go_wp2
        go_ret
        exact ⟨by simp, L0⟩
      · have z6 : ¬ ((m.ws.length : Int) < 6) := by omega
        rw [decide_eq_false h6]
        clear h0 h6
        go_enter Try.func52, Try.ntmps52
        go_wp2_with fail
        with_reducible refine CI.out.mono ?_
        rintro e w1 ⟨rfl, rfl⟩
        go_wp2
        go_ret
        exact ⟨by simp [z6], L0⟩
    · have z0 : ¬ ((n.ws.length : Int) > 0) := by omega
      rw [decide_eq_false h0, Bool.false_and]
      clear h0
      go_enter Try.func52, Try.ntmps52
      go_wp2_with fail
      with_reducible refine CI.out.mono ?_
      rintro e w1 ⟨rfl, rfl⟩
      go_wp2
      go_ret
      exact ⟨rfl, L0⟩
  · have HNO : Hid ((decide (0 ≤ k) && canB ns k.toNat) = false) := by
      unfold Hid
      by_cases h0 : 0 ≤ k
      · rw [canB_end (by omega), Bool.and_false]
      · rw [decide_eq_false h0, Bool.false_and]
    rw [HNO.out]
    rw [decide_eq_false hin] at CI
    clear hin
    go_enter Try.func52, Try.ntmps52
    go_wp2_with fail
    with_reducible refine CI.out.mono ?_
    rintro e w1 ⟨rfl, rfl⟩
    go_wp2
    go_ret
    exact ⟨rfl, L0⟩
theorem flat6_one (us : List V) : ∀ u ∈ flat6 us, u.oneCell' = true := fun u hu => by
  simp only [flat6, List.mem_flatMap] at hu
  obtain ⟨x, _, hx⟩ := hu
  simp only [cells6, List.mem_cons, List.not_mem_nil, or_false] at hx
  rcases hx with rfl | rfl | rfl | rfl | rfl | rfl <;> rfl
theorem CRow.news {base : Nat} {w : World} {g c : Nat} {v : V} {r : List V} (h : CRow base w (.slice (some ⟨g, 0, none⟩) (r.length + 1) c) (v :: r)) : ∀ (j : Nat) u, (flat6 r)[j]? = some u → w.cell? ⟨g, 6 + j, none⟩ = some u := fun j u hu => by
  have hj := (List.getElem?_eq_some_iff.1 hu).1
  rw [flat6_len] at hj
  have := World.ownsRow.cellAt (n := r.length + 1) (by simpa using h.row) (6 + j) (by omega)
  rw [this]
  have e : flat6 (v :: r) = cells6 v ++ flat6 r := by simp [flat6]
  rw [e, List.getElem?_append_right (by simp [cells6])]
  simpa [cells6] using hu
theorem below_rows {w w1 w2 : World} {g : Nat} (h : Below w.heap.size w w1) (hg : w1.grownBy w2 (some g)) (hw : w.heap.size ≤ g) : Below w.heap.size w w2 :=
  ⟨hg.os.trans h.os, hg.tape.trans h.tape, hg.output.trans h.output, Nat.le_trans h.size hg.size, fun k hk => (hg.block k (Nat.lt_of_lt_of_le hk h.size) (by intro e; injection e with e; omega)).trans (h.block k hk)⟩
theorem own_not_node {w : World} {v : V} {G g : Nat} {cs : Array Value} (h : Own1 w 0 w.heap.size v) (hG : Blk w G 45 cs) (ha : v.a = some ⟨g, 0, none⟩) (hn : v.ts ≠ []) : g ≠ G := fun e => by
  subst e
  rcases h with q | ⟨g', _, e1, _, _, q3, _⟩
  · exact hn q
  · rw [ha] at e1
    injection e1 with e1
    injection e1 with e1
    subst e1
    exact absurd (blk_one q3 hG) (by decide)
theorem touch_trans {base : Nat} {w w1 w2 : World} (h : Turn (TouchC w base) w w1) (k : Turn (TouchC w1 base) w1 w2) : Turn (TouchC w base) w w2 :=
  ⟨k.os.trans h.os, k.tape.trans h.tape, k.output.trans h.output, Nat.le_trans h.size k.size, fun i hi hn => (k.block i (Nat.lt_of_lt_of_le hi h.size) (fun ⟨hb, cs, hc⟩ => hn ⟨hb, cs, by
    have e := h.block i hi hn
    rcases hc with hc | hc
    · exact .inl (e.symm.trans hc)
    · exact .inr (e.symm.trans hc)⟩)).trans (h.block i hi hn)⟩
/-- What comes to the next node, the one ahead having changed. -/
theorem passAdd (base G xc kn : Nat) (us : List Nd) (n' m : Nd) (v : V) (w : World) (hG : GRow base w (.slice (some ⟨G, 0, none⟩) us.length xc) (us.set kn n')) (hm : us[kn + 1]? = some m) (hl : us.length ≤ 4) (hnb : shN m) (hvv : shV v) (hv : Own1 w 0 w.heap.size v) :
    Calls Try.prog 37 #[.agg #[.slice (some ⟨G, 0, none⟩) us.length xc], .int .i64 ((kn : Int) + 1), .agg (verC v.k v.t v.u v.a v.ts.length v.c v.s v.g)] w (fun e w' => ∃ us' : List Nd, e = .returned (.agg #[.slice (some ⟨G, 0, none⟩) us.length xc]) ∧ NL us' (addN (us.set kn n') (kn + 1) v) ∧ GRow base w' (.slice (some ⟨G, 0, none⟩) us.length xc) us' ∧ Turn (TouchC w base) w w') := by
  have C := l3Add_sh base G xc (kn + 1) (us.set kn n') m v w (by rw [List.length_set]; exact hG) (by rw [List.getElem?_set_ne (by omega)]; exact hm) (by rw [List.length_set]; exact hl) hnb.1 hnb.2.1 hvv hv
  unfold AddedC at C
  rw [List.length_set] at C
  exact C
/-- What l3Pass leaves. -/
def PassedC (w : World) (base G xc : Nat) (us : List Nd) (k : Nat) (e : Ending) (w' : World) : Prop :=
  ∃ us' : List Nd, e = .returned (.agg #[.slice (some ⟨G, 0, none⟩) us.length xc]) ∧ NL us' (goN us k) ∧ GRow base w' (.slice (some ⟨G, 0, none⟩) us.length xc) us' ∧ Turn (TouchC w base) w w'
set_option maxRecDepth 100000 in
set_option maxHeartbeats 4000000 in
theorem l3Pass_sh (base G xc kn : Nat) (us : List Nd) (n m : Nd) (v : V) (r : List V) (w : World) (hG : GRow base w (.slice (some ⟨G, 0, none⟩) us.length xc) us) (hk : us[kn]? = some n) (hm : us[kn + 1]? = some m) (hl : us.length ≤ 4) (hB : ∀ (i : Nat) m, us[i]? = some m → shN m) (hw : n.ws = v :: r) :
    Calls Try.prog 53 #[.agg #[.slice (some ⟨G, 0, none⟩) us.length xc], .int .i64 (kn : Int)] w (PassedC w base G xc us kn) := by
  obtain ⟨j0, hj0, hy0, hy1, hy2⟩ := info_parts ver_info
  have J0 := hide hj0
  have J1 := hide hy0
  have J2 := hide hy1
  have J3 := hide hy2
  clear hj0 hy0 hy1 hy2
  have hkl := (List.getElem?_eq_some_iff.1 hk).1
  obtain ⟨cur, hcg⟩ := hG.cgs (by omega)
  have S0 := (((Inv.start w).box 25 #[.slice (some ⟨G, 0, none⟩) us.length xc]).box 25 #[.slice none 0 0]).box 32 (verC v.k v.t v.u v.a v.ts.length v.c v.s v.g)
  simp only [World.size_alloc] at S0
  have hcr := hG.own kn n hk
  have c3 := (hcg.at' kn n hk).2
  have HCRW := hide hcr
  rw [hw] at hcr c3
  simp only [List.length_cons] at hcr c3
  obtain ⟨gw, hwa, hgl, hcc, hsix, -, hov⟩ := hcr.first
  rw [hwa] at c3 hcr
  obtain ⟨adT, haT, hadd⟩ : ∃ adT : Addr, (if n.wc = 1 then some (⟨gw, 0, none⟩ : Addr) else some ⟨gw, 6, none⟩) = some adT ∧ (r = [] ∨ adT = ⟨gw, 6, none⟩) := by
    by_cases h1 : n.wc = 1
    · rw [if_pos h1]
      exact ⟨_, rfl, .inl (List.length_eq_zero_iff.1 (by omega))⟩
    · rw [if_neg h1]
      exact ⟨_, rfl, .inr rfl⟩
  have HNEWS : Hid (∀ W, Below w.heap.size w W → ∀ (j : Nat) u, (flat6 r)[j]? = some u → W.cell? (adT.add j) = some u) := fun W hW j u hu => by
    rcases hadd with rfl | rfl
    · simp [flat6] at hu
    · have hq : (⟨gw, 6, none⟩ : Addr).add j = ⟨gw, 6 + j, none⟩ := by unfold Addr.add; split <;> simp_all
      rw [hq]
      exact (hcr.on hW).news j u hu
  have hr5 : r.length ≤ 5 := by
    obtain ⟨_, h6, _⟩ := hB kn n hk
    rw [hw] at h6
    simp only [List.length_cons] at h6
    omega
  have HVV := hide ((hB kn n hk).2.2 v (by rw [hw]; exact List.mem_cons_self))
  have hS2 := (Inv.start w).box 25 #[.slice (some ⟨G, 0, none⟩) us.length xc] |>.box 25 #[.slice none 0 0]
  simp only [World.size_alloc] at hS2
  have c3' : ((w.alloc (.cells #[.slice (some ⟨G, 0, none⟩) us.length xc] 25)).alloc (.cells #[.slice none 0 0] 25)).cell? ⟨G, kn * 2 + 1, none⟩ = some (.slice (some ⟨gw, 0, none⟩) (r.length + 1) n.wc) := ((hcg.on hS2.below).blk.at _).trans c3
  obtain ⟨s0, s1, s2, s3, s4, s5⟩ := hsix.keep hgl (fun _ hp => hS2.below.cell hp)
  simp only [Nat.zero_add] at s1 s2 s3 s4 s5
  have k0 := (hS2.nth 1 rfl).one.1
  have i1 : (0 : Int) ≤ (kn : Int) := by omega
  have i2 : (kn : Int) < (us.length : Int) := by omega
  have i3 : (0 : Int) < ((r.length + 1 : Nat) : Int) := by omega
  have i4 : (0 : Int) < (r.length : Int) + 1 := by omega
  have i5 : (1 : Int) ≤ (r.length : Int) + 1 := by omega
  have gin := hcg.blk.inside
  have hbs := hG.lo
  have HG := hide hG
  have HK := hide hk
  have HMM := hide hm
  have HB := hide hB
  have HW := hide hw
  have HC3 := hide c3
  have BG := hide hcg.blk
  have HV := hide hov
  have HCR := hide hcr
  have HWA := hide hwa
  clear hG hk hm hB hw c3 hov hcr hcg hS2 hwa hadd hsix
  go_enter Try.func53, Try.ntmps53
  go_wp2_with fail
  clear s0 s1 s2 s3 s4 s5 c3' k0
  generalize ((w.alloc (.cells #[.slice (some ⟨G, 0, none⟩) us.length xc] 25)).alloc (.cells #[.slice none 0 0] 25)).alloc (.cells (verC v.k v.t v.u v.a v.ts.length v.c v.s v.g) 32) = W1 at S0 ⊢
  have B3 := S0.nth 2 rfl
  have B5 := S0.nth 0 rfl
  have B6 := S0.nth 1 rfl
  have HB1 := hide S0.below
  have z1 := S0.room
  have N1 := BG.out.on HB1.out
  have q1 := (N1.at (kn * 2 + 1)).trans HC3.out
  have N2 := N1.more (.cells #[] 32)
  have q2 := (N2.at (kn * 2 + 1)).trans HC3.out
  have HB2 : Hid (Below w.heap.size w (W1.alloc (.cells #[] 32)).drew) := HB1.out.trans (((below_alloc1 W1 _).drew).mono HB1.out.size)
  have HOW : Hid ((W1.alloc (.cells #[] 32)).drew.ownsRow base 32 6 (.slice (some ⟨W1.heap.size, 0, none⟩) 0 0) 0 []) := World.ownsRow_made (base := base) (e := 32) (size := 6) W1 #[] 0 (by omega) (by unfold maxLen; omega) rfl
  refine wp_region_noPanic ?_
  refine wp_region_held_drew (S := (fun w' => w'.cell? ⟨w.heap.size, 0, none⟩ = some (.slice (some ⟨G, 0, none⟩) us.length xc) ∧ (Blk w' w.heap.size 25 #[.slice (some ⟨G, 0, none⟩) us.length xc] ∧ Blk w' (w.heap.size + 1) 25 #[.slice none 0 0] ∧ Blk w' (w.heap.size + 1 + 1) 32 (verC v.k v.t v.u v.a v.ts.length v.c v.s v.g)))) (by kernel_rfl) (by exact ⟨B3.drew.at 0, B3.drew, B6.drew, B5.drew⟩) (fun hHeld => ?_)
  refine take_run 0 (some 14) (v := ?_) rfl rfl (by kernel_rfl) (by kernel_rfl) (by kernel_rfl) (fun _ _ _ h => h) (by rfl) ?_ hHeld ?_
  rotate_left
  · ((intro w hSw); (try dsimp only at hSw); go_simp <;> with_reducible rfl)
  simp only [Act.put, List.setIfInBounds_toArray, List.set_cons_zero, List.set_cons_succ]
  refine take_run 1 (some 15) (v := ?_) rfl rfl (by kernel_rfl) (by kernel_rfl) (by kernel_rfl) (fun _ _ _ h => h) (by rfl) ?_ hHeld ?_
  rotate_left
  · ((intro w hSw); (try dsimp only at hSw); go_simp <;> with_reducible rfl)
  simp only [Act.put, List.setIfInBounds_toArray, List.set_cons_zero, List.set_cons_succ]
  refine take_run 2 (some 16) (v := ?_) rfl rfl (by kernel_rfl) (by kernel_rfl) (by kernel_rfl) (fun _ _ _ h => h) (by rfl) ?_ hHeld ?_
  rotate_left
  · ((intro w hSw); (try dsimp only at hSw); go_simp <;> with_reducible rfl)
  simp only [Act.put, List.setIfInBounds_toArray, List.set_cons_zero, List.set_cons_succ]
  refine take_run 4 (some 18) (v := ?_) rfl rfl (by kernel_rfl) (by kernel_rfl) (by kernel_rfl) (fun _ _ _ h => h) (by rfl) ?_ hHeld ?_
  rotate_left
  · ((intro w hSw); (try dsimp only at hSw); go_simp <;> with_reducible rfl)
  simp only [Act.put, List.setIfInBounds_toArray, List.set_cons_zero, List.set_cons_succ]
  refine take_run 5 (some 19) (v := ?_) rfl rfl (by kernel_rfl) (by kernel_rfl) (by kernel_rfl) (fun _ _ _ h => h) (by rfl) ?_ hHeld ?_
  rotate_left
  · ((intro w hSw); (try dsimp only at hSw); go_simp <;> with_reducible rfl)
  simp only [Act.put, List.setIfInBounds_toArray, List.set_cons_zero, List.set_cons_succ]
  refine take_run 6 (some 20) (v := ?_) rfl rfl (by kernel_rfl) (by kernel_rfl) (by kernel_rfl) (fun _ _ _ h => h) (by rfl) ?_ hHeld ?_
  rotate_left
  · ((intro w hSw); (try dsimp only at hSw); go_simp <;> with_reducible rfl)
  simp only [Act.put, List.setIfInBounds_toArray, List.set_cons_zero, List.set_cons_succ]
  refine take_run 7 (some 21) (v := ?_) rfl rfl (by kernel_rfl) (by kernel_rfl) (by kernel_rfl) (fun _ _ _ h => h) (by rfl) ?_ hHeld ?_
  rotate_left
  · ((intro w hSw); (try dsimp only at hSw); go_simp <;> with_reducible rfl)
  simp only [Act.put, List.setIfInBounds_toArray, List.set_cons_zero, List.set_cons_succ]
  refine take_run 8 (some 22) (v := ?_) rfl rfl (by kernel_rfl) (by kernel_rfl) (by kernel_rfl) (fun _ _ _ h => h) (by rfl) ?_ hHeld ?_
  rotate_left
  · ((intro w hSw); (try dsimp only at hSw); go_simp <;> with_reducible rfl)
  simp only [Act.put, List.setIfInBounds_toArray, List.set_cons_zero, List.set_cons_succ]
  refine wpAnyH_ready (rs := [3, 9]) (by kernel_rfl) (by simp) ?_
  refine AllReadyH.cons rfl (fun K hK => ?_) (AllReadyH.cons rfl (fun K hK => ?_) AllReadyH.nil)
  · skip
    go_simp
    refine hK.out _ _ (by exact ⟨(hHeld.2.1.more _).at 0, hHeld.2.1.more _, hHeld.2.2.1.more _, hHeld.2.2.2.more _⟩) (fun hHeld => ?_)
    clear hK K
    refine take_one 9 (by kernel_rfl) rfl (fun K hK => ?_)
    go_simp
    refine hK.out _ _ (by exact hHeld) (fun hHeld => ?_)
    clear hK K
    refine take_run 10 (some 24) (v := ?_) rfl rfl (by kernel_rfl) (by kernel_rfl) (by kernel_rfl) (fun _ _ _ h => h) (by rfl) ?_ hHeld ?_
    rotate_left
    · ((intro w hSw); (try dsimp only at hSw); go_simp <;> with_reducible rfl)
    simp only [Act.put, List.setIfInBounds_toArray, List.set_cons_zero, List.set_cons_succ]
    refine take_one 11 (by kernel_rfl) rfl (fun K hK => ?_)
    (refine step_append_more _ (by rfl) _ _ _ (by rfl) base 32 j0 _ 6 72 Try.underlying41 J0.out J1.out J2.out J3.out rfl (by omega) W1.heap.size 0 0 [] (by rfl) HOW.out (some adT) r.length (n.wc - 1) (flat6 r) (by rfl) (flat6_len r) (fun _ => ⟨adT, rfl, HNEWS.out _ HB2.out⟩) (flat6_one r) (by unfold maxLen; omega) (by omega) (by simp; omega) _ rfl ?_; intro g cap w8 hown2 hgrow hat; rw [Nat.zero_add] at hown2 ⊢; rw [List.nil_append] at hown2; have N8 := N2.drew.kept hgrow (by intro e; injection e with e; omega); have q5 := (N8.at (kn * 2 + 1)).trans HC3.out; have f5 := N8.loose (kn * 2 + 1); have OW := hide hown2; have GW := hide hgrow; have HAT := hide hat; clear hown2 hat)
    simp only [List.getElem_toArray, List.getElem_cons_zero, List.getElem_cons_succ, Act.put, List.setIfInBounds_toArray, List.set_cons_zero, List.set_cons_succ]
    refine hK.out _ _ (by exact ⟨(hHeld.2.1.kept hgrow (by intro e; injection e with e; omega)).at 0, hHeld.2.1.kept hgrow (by intro e; injection e with e; omega), hHeld.2.2.1.kept hgrow (by intro e; injection e with e; omega), hHeld.2.2.2.kept hgrow (by intro e; injection e with e; omega)⟩) (fun hHeld => ?_)
    clear hK K
    refine take_run 12 (some 26) (v := ?_) rfl rfl (by kernel_rfl) (by kernel_rfl) (by kernel_rfl) (fun _ _ _ h => h) (by rfl) ?_ hHeld ?_
    rotate_left
    · ((intro w hSw); (try dsimp only at hSw); go_simp <;> with_reducible rfl)
    simp only [Act.put, List.setIfInBounds_toArray, List.set_cons_zero, List.set_cons_succ]
    refine take_run 13 (some 27) (v := ?_) rfl rfl (by kernel_rfl) (by kernel_rfl) (by kernel_rfl) (fun _ _ _ h => h) (by rfl) ?_ hHeld ?_
    rotate_left
    · ((intro w hSw); (try dsimp only at hSw); go_simp <;> with_reducible rfl)
    simp only [Act.put, List.setIfInBounds_toArray, List.set_cons_zero, List.set_cons_succ]
    refine take_one 14 (by kernel_rfl) rfl (fun K hK => ?_)
    go_simp
    refine hK.out _ _ (by exact ⟨(hHeld.2.1.aside (by show w.heap.size ≠ G; omega) _).at 0, hHeld.2.1.aside (by show w.heap.size ≠ G; omega) _, hHeld.2.2.1.aside (by show w.heap.size + 1 ≠ G; omega) _, hHeld.2.2.2.aside (by show w.heap.size + 1 + 1 ≠ G; omega) _⟩) (fun hHeld => ?_)
    clear hK K
    refine wpAnyH_done (by kernel_rfl) ?_ _
    refine NoPanic.normal ?_
    obtain ⟨-, E3, E6, E5⟩ := hHeld
    have hg0 : w.heap.size ≤ g := by
      rcases HAT.out with q | q <;> (rw [q]; first | omega | (simp; omega))
    have BL8 := hide (below_rows HB2.out GW.out (by omega))
    have GG := HG.out.newWait (A := some ⟨g, 0, none⟩) (cap := cap) (ws := r) HK.out BL8.out (HCR.out.tail BL8.out OW.out) (HCRW.out.tailFoot HW.out hg0)
    have HGG := hide GG
    have HT9 := hide ((Turn.below (P := TouchC w base) BL8.out).set (p := ⟨G, kn * 2 + 1, none⟩) (by obtain ⟨cs, b1, b2, _⟩ := HG.out.typed G rfl; exact ⟨b2, cs, .inr b1⟩) (.slice (some ⟨g, 0, none⟩) r.length cap))
    have HV9 : Hid (Own1 (w8.setCell ⟨G, kn * 2 + 1, none⟩ (.slice (some ⟨g, 0, none⟩) r.length cap)) 0 (w8.setCell ⟨G, kn * 2 + 1, none⟩ (.slice (some ⟨g, 0, none⟩) r.length cap)).heap.size v) := ((HV.out.on BL8.out).turned ((Turn.refl (fun y => y = G) w8).set (p := ⟨G, kn * 2 + 1, none⟩) rfl (.slice (some ⟨g, 0, none⟩) r.length cap)) (fun g' h1 _ _ hn e => own_not_node HV.out BG.out h1 hn e)).wide (by have := BL8.out.size; simpa [World.setCell] using this)
    clear GG N1 N2 N8 q1 q2 q5 f5 B3 B5 B6
    generalize w8.setCell ⟨G, kn * 2 + 1, none⟩ (.slice (some ⟨g, 0, none⟩) r.length cap) = W9 at E3 E5 E6 HGG HT9 HV9 ⊢
    have CA := hide (passAdd base G xc kn us ⟨n.sa, n.sc, n.ss, some ⟨g, 0, none⟩, cap, r⟩ m v W9 HGG.out HMM.out hl (HB.out (kn + 1) m HMM.out) HVV.out HV9.out)
    have e3 := E3.one.1
    have e5 := E5.six.1
    go_wp2_with fail
    with_reducible refine CA.out.mono ?_
    rintro e w10 ⟨us', rfl, hul, hg10, hT10⟩
    have HUL := hide hul
    have HG10 := hide hg10
    have HT10 := hide (touch_trans HT9.out hT10)
    have E6' := E6.turned hT10 (touch_no E6 (by decide) (by decide))
    have e6 := E6'.one
    clear hul hg10 hT10 CA e3 e5 E3 E5
    go_wp2
    refine bodyPost_ret (v := .agg #[.slice (some ⟨G, 0, none⟩) us.length xc]) (by simp [results, Try.results53, go_sem, e6]) rfl ?_
    refine ⟨us', rfl, ?_, HG10.out.asideT (p := ⟨w.heap.size + 1, 0, none⟩) E6' _, HT10.out.far (by simp only; omega) _⟩
    rw [goN_at HK.out HW.out]
    have HLT : Nd.like ⟨n.sa, n.sc, n.ss, some ⟨g, 0, none⟩, cap, r⟩ (tailNd n) := ⟨rfl, like_refl _, by show r.length = n.ws.tail.length; rw [HW.out]; rfl, by show Like r n.ws.tail; rw [HW.out]; exact like_refl _⟩
    exact nl_trans HUL.out (addN_like (nl_set (nl_refl us) HLT) (vlike_refl v) (kn + 1))
  · skip
    go_simp
    refine hK.out _ _ (by exact hHeld) (fun hHeld => ?_)
    clear hK K
    refine take_run 10 (some 24) (v := ?_) rfl rfl (by kernel_rfl) (by kernel_rfl) (by kernel_rfl) (fun _ _ _ h => h) (by rfl) ?_ hHeld ?_
    rotate_left
    · ((intro w hSw); (try dsimp only at hSw); go_simp <;> with_reducible rfl)
    simp only [Act.put, List.setIfInBounds_toArray, List.set_cons_zero, List.set_cons_succ]
    refine take_one 3 (by kernel_rfl) rfl (fun K hK => ?_)
    go_simp
    refine hK.out _ _ (by exact ⟨(hHeld.2.1.more _).at 0, hHeld.2.1.more _, hHeld.2.2.1.more _, hHeld.2.2.2.more _⟩) (fun hHeld => ?_)
    clear hK K
    refine take_one 11 (by kernel_rfl) rfl (fun K hK => ?_)
    (refine step_append_more _ (by rfl) _ _ _ (by rfl) base 32 j0 _ 6 72 Try.underlying41 J0.out J1.out J2.out J3.out rfl (by omega) W1.heap.size 0 0 [] (by rfl) HOW.out (some adT) r.length (n.wc - 1) (flat6 r) (by rfl) (flat6_len r) (fun _ => ⟨adT, rfl, HNEWS.out _ HB2.out⟩) (flat6_one r) (by unfold maxLen; omega) (by omega) (by simp; omega) _ rfl ?_; intro g cap w8 hown2 hgrow hat; rw [Nat.zero_add] at hown2 ⊢; rw [List.nil_append] at hown2; have N8 := N2.drew.kept hgrow (by intro e; injection e with e; omega); have q5 := (N8.at (kn * 2 + 1)).trans HC3.out; have f5 := N8.loose (kn * 2 + 1); have OW := hide hown2; have GW := hide hgrow; have HAT := hide hat; clear hown2 hat)
    simp only [List.getElem_toArray, List.getElem_cons_zero, List.getElem_cons_succ, Act.put, List.setIfInBounds_toArray, List.set_cons_zero, List.set_cons_succ]
    refine hK.out _ _ (by exact ⟨(hHeld.2.1.kept hgrow (by intro e; injection e with e; omega)).at 0, hHeld.2.1.kept hgrow (by intro e; injection e with e; omega), hHeld.2.2.1.kept hgrow (by intro e; injection e with e; omega), hHeld.2.2.2.kept hgrow (by intro e; injection e with e; omega)⟩) (fun hHeld => ?_)
    clear hK K
    refine take_run 12 (some 26) (v := ?_) rfl rfl (by kernel_rfl) (by kernel_rfl) (by kernel_rfl) (fun _ _ _ h => h) (by rfl) ?_ hHeld ?_
    rotate_left
    · ((intro w hSw); (try dsimp only at hSw); go_simp <;> with_reducible rfl)
    simp only [Act.put, List.setIfInBounds_toArray, List.set_cons_zero, List.set_cons_succ]
    refine take_run 13 (some 27) (v := ?_) rfl rfl (by kernel_rfl) (by kernel_rfl) (by kernel_rfl) (fun _ _ _ h => h) (by rfl) ?_ hHeld ?_
    rotate_left
    · ((intro w hSw); (try dsimp only at hSw); go_simp <;> with_reducible rfl)
    simp only [Act.put, List.setIfInBounds_toArray, List.set_cons_zero, List.set_cons_succ]
    refine take_one 14 (by kernel_rfl) rfl (fun K hK => ?_)
    go_simp
    refine hK.out _ _ (by exact ⟨(hHeld.2.1.aside (by show w.heap.size ≠ G; omega) _).at 0, hHeld.2.1.aside (by show w.heap.size ≠ G; omega) _, hHeld.2.2.1.aside (by show w.heap.size + 1 ≠ G; omega) _, hHeld.2.2.2.aside (by show w.heap.size + 1 + 1 ≠ G; omega) _⟩) (fun hHeld => ?_)
    clear hK K
    refine wpAnyH_done (by kernel_rfl) ?_ _
    refine NoPanic.normal ?_
    obtain ⟨-, E3, E6, E5⟩ := hHeld
    have hg0 : w.heap.size ≤ g := by
      rcases HAT.out with q | q <;> (rw [q]; first | omega | (simp; omega))
    have BL8 := hide (below_rows HB2.out GW.out (by omega))
    have GG := HG.out.newWait (A := some ⟨g, 0, none⟩) (cap := cap) (ws := r) HK.out BL8.out (HCR.out.tail BL8.out OW.out) (HCRW.out.tailFoot HW.out hg0)
    have HGG := hide GG
    have HT9 := hide ((Turn.below (P := TouchC w base) BL8.out).set (p := ⟨G, kn * 2 + 1, none⟩) (by obtain ⟨cs, b1, b2, _⟩ := HG.out.typed G rfl; exact ⟨b2, cs, .inr b1⟩) (.slice (some ⟨g, 0, none⟩) r.length cap))
    have HV9 : Hid (Own1 (w8.setCell ⟨G, kn * 2 + 1, none⟩ (.slice (some ⟨g, 0, none⟩) r.length cap)) 0 (w8.setCell ⟨G, kn * 2 + 1, none⟩ (.slice (some ⟨g, 0, none⟩) r.length cap)).heap.size v) := ((HV.out.on BL8.out).turned ((Turn.refl (fun y => y = G) w8).set (p := ⟨G, kn * 2 + 1, none⟩) rfl (.slice (some ⟨g, 0, none⟩) r.length cap)) (fun g' h1 _ _ hn e => own_not_node HV.out BG.out h1 hn e)).wide (by have := BL8.out.size; simpa [World.setCell] using this)
    clear GG N1 N2 N8 q1 q2 q5 f5 B3 B5 B6
    generalize w8.setCell ⟨G, kn * 2 + 1, none⟩ (.slice (some ⟨g, 0, none⟩) r.length cap) = W9 at E3 E5 E6 HGG HT9 HV9 ⊢
    have CA := hide (passAdd base G xc kn us ⟨n.sa, n.sc, n.ss, some ⟨g, 0, none⟩, cap, r⟩ m v W9 HGG.out HMM.out hl (HB.out (kn + 1) m HMM.out) HVV.out HV9.out)
    have e3 := E3.one.1
    have e5 := E5.six.1
    go_wp2_with fail
    with_reducible refine CA.out.mono ?_
    rintro e w10 ⟨us', rfl, hul, hg10, hT10⟩
    have HUL := hide hul
    have HG10 := hide hg10
    have HT10 := hide (touch_trans HT9.out hT10)
    have E6' := E6.turned hT10 (touch_no E6 (by decide) (by decide))
    have e6 := E6'.one
    clear hul hg10 hT10 CA e3 e5 E3 E5
    go_wp2
    refine bodyPost_ret (v := .agg #[.slice (some ⟨G, 0, none⟩) us.length xc]) (by simp [results, Try.results53, go_sem, e6]) rfl ?_
    refine ⟨us', rfl, ?_, HG10.out.asideT (p := ⟨w.heap.size + 1, 0, none⟩) E6' _, HT10.out.far (by simp only; omega) _⟩
    rw [goN_at HK.out HW.out]
    have HLT : Nd.like ⟨n.sa, n.sc, n.ss, some ⟨g, 0, none⟩, cap, r⟩ (tailNd n) := ⟨rfl, like_refl _, by show r.length = n.ws.tail.length; rw [HW.out]; rfl, by show Like r n.ws.tail; rw [HW.out]; exact like_refl _⟩
    exact nl_trans HUL.out (addN_like (nl_set (nl_refl us) HLT) (vlike_refl v) (kn + 1))
theorem l3Pass_can_sh (base G xc kn : Nat) (us : List Nd) (w : World) (hG : GRow base w (.slice (some ⟨G, 0, none⟩) us.length xc) us) (hc : canB us kn = true) (hl : us.length ≤ 4) (hB : ∀ (i : Nat) m, us[i]? = some m → shN m) :
    Calls Try.prog 53 #[.agg #[.slice (some ⟨G, 0, none⟩) us.length xc], .int .i64 (kn : Int)] w (PassedC w base G xc us kn) := by
  have h1 : kn + 1 < us.length := by
    by_cases h : kn + 1 < us.length
    · exact h
    · rw [canB_end (by omega)] at hc
      cases hc
  obtain ⟨n, hn⟩ : ∃ n, us[kn]? = some n := ⟨_, List.getElem?_eq_getElem (by omega)⟩
  obtain ⟨m, hm⟩ : ∃ m, us[kn + 1]? = some m := ⟨_, List.getElem?_eq_getElem h1⟩
  rw [canB_at hn hm, Bool.and_eq_true, decide_eq_true_eq] at hc
  cases hw : n.ws with
  | nil => rw [hw] at hc; simp at hc
  | cons v r => exact l3Pass_sh base G xc kn us n m v r w hG hn hm hl hB hw
end Go.Proofs.Ytjnloillcgeodaa
