/- Contracts of whether two versions, two stores are the same, in the model. Condition: valid ones. -/
import Derived.Test.YtnaggcdhimcilaaGreatJChainSz
import Derived.Test.YtnaggcdhimcilaaGreatJNodes
namespace Go.Proofs.YtnaggcdhimcilaaGreat
open Go.RowKit Go.Joins
attribute [local go_sem ↓] Go.wp_at_zero Go.wp_at_succ

theorem verB_gone {k t u : Int} {ts : List (Int × Int)} {s : ByteArray} {g : Bool} (h : verB k t u ts s g = true) (hg : g = true) : s.toList.isEmpty = true := by
  cases hs : s.toList.isEmpty with
  | true => rfl
  | false =>
    rw [verB_f (.inr (.inr (.inr (.inr (.inl ⟨hg, hs⟩)))))] at h
    cases h
theorem text_none {s s' : ByteArray} (h : s.toList.isEmpty = true) (h' : s'.toList.isEmpty = true) : s = s' := by
  rw [List.isEmpty_iff, ByteArray.toList_eq] at h h'
  exact bl_inj (h.trans h'.symm)
theorem pastB_len4 {ts : List (Int × Int)} (h : pastB ts = true) : ts.length = 4 := by
  unfold pastB at h
  rw [Bool.and_eq_true, decide_eq_true_eq] at h
  exact h.1
/-- Valid versions are told apart by how they are written. -/
theorem verS_same {kn tn un kn' tn' un' : Nat} {a a' : Option Addr} {c c' : Nat} {ts ts' : List (Int × Int)} {s s' : ByteArray} {g g' : Bool} (h : verB kn tn un ts s g = true) (h' : verB kn' tn' un' ts' s' g' = true) :
    decide (verS kn tn un ts s g = verS kn' tn' un' ts' s' g') = likeB ⟨kn, tn, un, a, c, ts, s, g⟩ ⟨kn', tn', un', a', c', ts', s', g'⟩ := by
  rw [Bool.eq_iff_iff, decide_eq_true_eq, likeB_iff]
  obtain ⟨_, _, _, h4⟩ := verB_parts h
  obtain ⟨_, _, _, h4'⟩ := verB_parts h'
  have p1 := lowT_past h4
  have p2 := lowT_past h4'
  constructor
  · intro e
    obtain ⟨e1, e2, e3, e4, e5, e6⟩ := verS_inj ((pastB_len4 h4).trans (pastB_len4 h4').symm) (fun x hx => ⟨(p1.2 x hx).1.1, (p1.2 x hx).2.1⟩) (fun x hx => ⟨(p2.2 x hx).1.1, (p2.2 x hx).2.1⟩) e
    refine ⟨by simp only; omega, by simp only; omega, by simp only; omega, e4, ?_, e5⟩
    cases hg : g with
    | false => exact e6 hg
    | true => exact text_none (verB_gone h hg) (verB_gone h' (by rw [← e5]; exact hg))
  · rintro ⟨e1, e2, e3, e4, e5, e6⟩
    simp only at e1 e2 e3 e4 e5 e6
    have e1' : kn = kn' := by omega
    have e2' : tn = tn' := by omega
    have e3' : un = un' := by omega
    rw [e1', e2', e3', e4, e5, e6]
theorem textB_size {s : ByteArray} (h : textB s = true) : s.size ≤ 8 := by
  unfold textB at h
  rw [Bool.and_eq_true, decide_eq_true_eq] at h
  exact h.1
set_option maxRecDepth 100000 in
set_option maxHeartbeats 2000000 in
theorem l2Same_any (k t u : Int) (a : Option Addr) (c : Nat) (ts : List (Int × Int)) (s : ByteArray) (g : Bool) (k' t' u' : Int) (a' : Option Addr) (c' : Nat) (ts' : List (Int × Int)) (s' : ByteArray) (g' : Bool) (w : World) (hb : verB k t u ts s g = true) (hb' : verB k' t' u' ts' s' g' = true) (ht : Tg w w.heap.size a ts) (ht' : Tg w w.heap.size a' ts') :
    Calls Tryz.prog 151 #[.agg (verC k t u a ts.length c s g), .agg (verC k' t' u' a' ts'.length c' s' g')] w fun e w' => e = .returned (.bool (likeB ⟨k, t, u, a, c, ts, s, g⟩ ⟨k', t', u', a', c', ts', s', g'⟩)) ∧ Below w.heap.size w w' := by
  obtain ⟨h1, h2, h3, h4⟩ := verB_parts hb
  obtain ⟨h1', h2', h3', h4'⟩ := verB_parts hb'
  have h5 := okB_i h3
  have h5' := okB_i h3'
  obtain ⟨kn, rfl⟩ := Int.eq_ofNat_of_zero_le h1.1
  obtain ⟨tn, rfl⟩ := Int.eq_ofNat_of_zero_le (show 0 ≤ t by omega)
  obtain ⟨un, rfl⟩ := Int.eq_ofNat_of_zero_le (show 0 ≤ u by omega)
  obtain ⟨kn', rfl⟩ := Int.eq_ofNat_of_zero_le h1'.1
  obtain ⟨tn', rfl⟩ := Int.eq_ofNat_of_zero_le (show 0 ≤ t' by omega)
  obtain ⟨un', rfl⟩ := Int.eq_ofNat_of_zero_le (show 0 ≤ u' by omega)
  have C1 : ∀ W : World, Below w.heap.size w W → Calls Tryz.prog 170 #[.agg (verC (kn : Int) (tn : Int) (un : Int) a ts.length c s g)] W fun e w' => e = .returned (.string (verS kn tn un ts s g)) ∧ Below W.heap.size W w' := fun W hW =>
    l2Put_any kn tn un a c ts s g W (by omega) (by omega) (by omega) (lowT_past h4) (by have := textB_size h2; omega) ((ht.on hW).up hW.size)
  have C2 : ∀ W : World, Below w.heap.size w W → Calls Tryz.prog 170 #[.agg (verC (kn' : Int) (tn' : Int) (un' : Int) a' ts'.length c' s' g')] W fun e w' => e = .returned (.string (verS kn' tn' un' ts' s' g')) ∧ Below W.heap.size W w' := fun W hW =>
    l2Put_any kn' tn' un' a' c' ts' s' g' W (by omega) (by omega) (by omega) (lowT_past h4') (by have := textB_size h2'; omega) ((ht'.on hW).up hW.size)
  have HE := hide (verS_same (a := a) (a' := a') (c := c) (c' := c') hb hb')
  have D1 := hide C1
  have D2 := hide C2
  clear C1 C2 hb hb' ht ht' h1 h2 h3 h4 h5 h1' h2' h3' h4' h5'
  generalize verS kn tn un ts s g = x at D1 HE
  generalize verS kn' tn' un' ts' s' g' = y at D2 HE
  have hse := str_same x y
  have S0 := ((Inv.start w).box 96 (verC (kn : Int) (tn : Int) (un : Int) a ts.length c s g)).box 96 (verC (kn' : Int) (tn' : Int) (un' : Int) a' ts'.length c' s' g')
  simp only [World.size_alloc] at S0
  go_enter Tryz.func151, Tryz.ntmps151
  go_wp2_with fail
  generalize (w.alloc (.cells (verC (kn : Int) (tn : Int) (un : Int) a ts.length c s g) 96)).alloc (.cells (verC (kn' : Int) (tn' : Int) (un' : Int) a' ts'.length c' s' g') 96) = W0 at S0 ⊢
  refine wp_region_noPanic ?_
  refine wp_region_held_drew (S := (fun w' => Six w' w.heap.size 0 ⟨(kn : Int), (tn : Int), (un : Int), a, c, ts, s, g⟩ ∧ Six w' (w.heap.size + 1) 0 ⟨(kn' : Int), (tn' : Int), (un' : Int), a', c', ts', s', g'⟩ ∧ Inv w (w.heap.size + 1 + 1) [(w.heap.size + 1, 96, (verC (kn' : Int) (tn' : Int) (un' : Int) a' ts'.length c' s' g')), (w.heap.size, 96, (verC (kn : Int) (tn : Int) (un : Int) a ts.length c s g))] w')) (by kernel_rfl) (by exact ⟨(S0.drew.nth 1 rfl).six.1, (S0.drew.nth 0 rfl).six.1, S0.drew⟩) (fun hHeld => ?_)
  refine mvR 0 (some 5) hHeld ?_
  refine mvR 2 (some 7) hHeld ?_
  refine take_one 1 (by kernel_rfl) rfl (fun K hK => ?_)
  go_simp
  ((with_reducible refine (D1.out _ hHeld.2.2.below).mono ?_); rintro e w1 ⟨rfl, hb⟩)
  try go_wp2_with fail
  refine hK.out _ _ (by exact ⟨((hHeld.2.2.on hb).nth 1 rfl).six.1, ((hHeld.2.2.on hb).nth 0 rfl).six.1, hHeld.2.2.on hb⟩) (fun hHeld => ?_)
  clear hK K
  refine take_one 3 (by kernel_rfl) rfl (fun K hK => ?_)
  go_simp
  ((with_reducible refine (D2.out _ hHeld.2.2.below).mono ?_); rintro e w2 ⟨rfl, hb⟩)
  try go_wp2_with fail
  refine hK.out _ _ (by exact ⟨((hHeld.2.2.on hb).nth 1 rfl).six.1, ((hHeld.2.2.on hb).nth 0 rfl).six.1, hHeld.2.2.on hb⟩) (fun hHeld => ?_)
  clear hK K
  refine mvR 4 (some 9) hHeld ?_
  refine mvR 5 (some 4) hHeld ?_
  refine wpAnyH_done (by kernel_rfl) ?_ _
  refine NoPanic.normal ?_
  have S1 := hHeld.2.2
  clear hHeld S0
  go_wp2
  go_ret
  exact ⟨ret_bool HE.out, S1.below⟩
theorem tagNe_yes {a b t u : Int} (h : eqB a b t u = false) (W : World) : (binOp .neq 91 (.agg #[.int .i64 a, .int .i64 b]) (.agg #[.int .i64 t, .int .i64 u])).run Tryz.prog W = .ok (.bool true) W := by
  rw [tagNe_at, h]
  rfl
theorem tagNe_no {a b t u : Int} (h : eqB a b t u = true) (W : World) : (binOp .neq 91 (.agg #[.int .i64 a, .int .i64 b]) (.agg #[.int .i64 t, .int .i64 u])).run Tryz.prog W = .ok (.bool false) W := by
  rw [tagNe_at, h]
  rfl
theorem storeB_slot {vs : List V} {i : Nat} {v : V} (h : storeB vs = true) (hi : vs[i]? = some v) : slotB i v = true := by
  cases hs : slotB i v with
  | true => rfl
  | false =>
    rw [storeB_bad hi hs] at h
    cases h
theorem slot_none {i : Nat} {v : V} (h : slotB i v = true) (ht : v.t = 0) : noneC v.k v.t v.u v.ts.length v.s v.g = true := by
  cases hn : noneC v.k v.t v.u v.ts.length v.s v.g with
  | true => rfl
  | false =>
    rw [slotB_bad hn (verB_f (.inr (.inr (.inr (.inl ht)))))] at h
    cases h
theorem slot_ver {i : Nat} {v : V} (h : slotB i v = true) (ht : ¬ v.t = 0) : verV v = true := by
  cases hn : verV v with
  | true => rfl
  | false =>
    rw [slotB_bad (noneC_f (.inr (.inl (fun e => ht e.1)))) hn] at h
    cases h
theorem none_like {v v' : V} (h : noneC v.k v.t v.u v.ts.length v.s v.g = true) (h' : noneC v'.k v'.t v'.u v'.ts.length v'.s v'.g = true) : V.like v v' := by
  unfold noneC at h h'
  simp only [Bool.and_eq_true, decide_eq_true_eq, Bool.not_eq_true'] at h h'
  obtain ⟨⟨⟨⟨h1, h2, h3⟩, h4⟩, h5⟩, h6⟩ := h
  obtain ⟨⟨⟨⟨k1, k2, k3⟩, k4⟩, k5⟩, k6⟩ := h'
  exact ⟨h1.trans k1.symm, h2.trans k2.symm, h3.trans k3.symm, (List.length_eq_zero_iff.1 h4).trans (List.length_eq_zero_iff.1 k4).symm, text_none h5 k5, h6.trans k6.symm⟩
set_option maxRecDepth 100000 in
set_option maxHeartbeats 4000000 in
theorem l3SameStore_any (a a' : Option Addr) (c c' : Nat) (us vs : List V) (w : World) (hu : storeB us = true) (hv : storeB vs = true) (gu : Vg w w.heap.size a us) (gv : Vg w w.heap.size a' vs) :
    Calls Tryz.prog 126 #[.agg #[.slice a 4 c], .agg #[.slice a' 4 c']] w fun e w' => e = .returned (.bool (likesB us vs)) ∧ Below w.heap.size w w' := by
  have HU4 := hide (storeB_four hu)
  have HV4 := hide (storeB_four hv)
  have HU := hide hu
  have HV := hide hv
  clear hu hv
  rcases gu with h0 | ⟨b, off, rfl, hb, hx⟩
  · have := HU4.out; rw [h0] at this; simp at this
  rcases gv with h0 | ⟨b', off', rfl, hb', hy⟩
  · have := HV4.out; rw [h0] at this; simp at this
  have HX := hide hx
  have HY := hide hy
  clear hx hy
  have S0 := ((Inv.start w).box 88 #[.slice (some ⟨b, off, none⟩) 4 c]).box 88 #[.slice (some ⟨b', off', none⟩) 4 c']
  simp only [World.size_alloc] at S0
  go_enter Tryz.func126, Tryz.ntmps126
  go_wp2
  generalize (w.alloc (.cells #[.slice (some ⟨b, off, none⟩) 4 c] 88)).alloc (.cells #[.slice (some ⟨b', off', none⟩) 4 c'] 88) = W0 at S0 ⊢
  go_loopw [5] (fun i wr => ∃ k : Nat, k ≤ 4 ∧ i = .int .i64 (k : Int) ∧ Hid (∀ (j : Nat) x y, j < k → us[j]? = some x → vs[j]? = some y → V.like x y) ∧ Inv w (w.heap.size + 1 + 1) [(w.heap.size + 1, 88, #[.slice (some ⟨b', off', none⟩) 4 c']), (w.heap.size, 88, #[.slice (some ⟨b, off, none⟩) 4 c])] wr) (fun i _ => 4 - (intOf i).toNat)
  case atStart => exact ⟨0, by omega, rfl, fun j x y hj => absurd hj (by omega), S0⟩
  case round =>
    obtain ⟨k, hk, rfl, heq, SL⟩ := hrel
    by_cases hlt : k < 4
    · have hkl : k < us.length := by have := HU4.out; omega
      have hkl' : k < vs.length := by have := HV4.out; omega
      obtain ⟨hS, hT⟩ := HX.out k _ (List.getElem?_eq_getElem hkl)
      obtain ⟨hS2, hT2⟩ := HY.out k _ (List.getElem?_eq_getElem hkl')
      have HI := hide (List.getElem?_eq_getElem hkl)
      have HJ := hide (List.getElem?_eq_getElem hkl')
      generalize us[k] = x at hS hT HI
      generalize vs[k] = y at hS2 hT2 HJ
      have HSX := hide (storeB_slot HU.out HI.out)
      have HSY := hide (storeB_slot HV.out HJ.out)
      obtain ⟨xk, xt, xu, xa, xc, xts, xs, xg⟩ := x
      obtain ⟨yk, yt, yu, ya, yc, yts, ys, yg⟩ := y
      have Q1 := hide hS
      have Q2 := hide hS2
      simp only at hT hT2
      have HT := hide hT
      have HT2 := hide hT2
      clear hS hS2 hT hT2
      have i1 : (0 : Int) ≤ (k : Int) := by omega
      have i2 : (k : Int) < 4 := by omega
      have HNX : Hid (V.like ⟨xk, xt, xu, xa, xc, xts, xs, xg⟩ ⟨yk, yt, yu, ya, yc, yts, ys, yg⟩ → ∀ (j : Nat) x y, j < k + 1 → us[j]? = some x → vs[j]? = some y → V.like x y) := fun hl j x y hj hx hy => by
        by_cases e : j = k
        · subst e
          have h1 := HI.out
          have h2 := HJ.out
          rw [h1] at hx
          rw [h2] at hy
          injection hx with hx
          injection hy with hy
          rw [← hx, ← hy]
          exact hl
        · exact heq.out j x y (by omega) hx hy
      have HNO : Hid (likeB ⟨xk, xt, xu, xa, xc, xts, xs, xg⟩ ⟨yk, yt, yu, ya, yc, yts, ys, yg⟩ = false → likesB us vs = false) := fun h => likesB_no HI.out HJ.out h
      cases hq : eqB xt xu yt yu
      · have hne := tagNe_yes hq
        have HF := hide (HNO.out (by unfold likeB; simp [hq]))
        clear hq
        · go_wp2_with fail
          refine wp_region_noPanic ?_
          refine wp_region_held_drew (S := (fun w' => Six w' b (off + k * 6) ⟨xk, xt, xu, xa, xc, xts, xs, xg⟩ ∧ Six w' b' (off' + k * 6) ⟨yk, yt, yu, ya, yc, yts, ys, yg⟩ ∧ w'.cell? ⟨w.heap.size, 0, none⟩ = some (.slice (some ⟨b, off, none⟩) 4 c) ∧ w'.cell? ⟨w.heap.size + 1, 0, none⟩ = some (.slice (some ⟨b', off', none⟩) 4 c') ∧ Inv w (w.heap.size + 1 + 1) [(w.heap.size + 1, 88, #[.slice (some ⟨b', off', none⟩) 4 c']), (w.heap.size, 88, #[.slice (some ⟨b, off, none⟩) 4 c])] w')) (by kernel_rfl) (by exact ⟨Q1.out.keep hb fun _ hp => SL.drew.below.cell hp, Q2.out.keep hb' fun _ hp => SL.drew.below.cell hp, (SL.drew.nth 1 rfl).at 0, (SL.drew.nth 0 rfl).at 0, SL.drew⟩) (fun hHeld => ?_)
          refine mvR 0 (some 10) hHeld ?_
          refine mvR 1 (some 11) hHeld ?_
          refine mvR 2 (some 12) hHeld ?_
          refine mvR 3 (some 13) hHeld ?_
          refine mvR 4 (some 14) hHeld ?_
          refine mvR 5 (some 15) hHeld ?_
          refine mvR 6 (some 16) hHeld ?_
          refine mvR 7 (some 17) hHeld ?_
          refine mvR 8 (some 18) hHeld ?_
          refine mvR 9 (some 19) hHeld ?_
          refine mvR 10 (some 20) hHeld ?_
          refine mvR 11 (some 21) hHeld ?_
          refine mvR 12 (some 22) hHeld ?_
          refine mvR 13 (some 23) hHeld ?_
          refine mvS 14 (some 24) hHeld ?_
          refine mvS 15 (some 25) hHeld ?_
          refine mvS 16 (some 26) hHeld ?_
          refine mvS 17 (some 27) hHeld ?_
          refine mvS 18 (some 28) hHeld ?_
          refine mvS 19 (some 29) hHeld ?_
          refine mvS 20 (some 30) hHeld ?_
          refine mvS 21 (some 31) hHeld ?_
          refine mvS 22 (some 32) hHeld ?_
          refine mvS 23 (some 33) hHeld ?_
          refine mvS 24 (some 34) hHeld ?_
          refine mvS 25 (some 35) hHeld ?_
          refine mvS 26 (some 36) hHeld ?_
          refine mvS 27 (some 37) hHeld ?_
          refine mvS 28 (some 38) hHeld ?_
          refine mvS 29 (some 39) hHeld ?_
          refine mvS 30 (some 40) hHeld ?_
          refine mvS 31 (some 41) hHeld ?_
          refine mvS 32 (some 42) hHeld ?_
          refine mvS 33 (some 43) hHeld ?_
          refine mvS 34 (some 44) hHeld ?_
          refine mvS 35 (some 45) hHeld ?_
          refine mvR 36 (some 46) hHeld ?_
          refine wpAnyH_done (by kernel_rfl) ?_ _
          refine NoPanic.normal ?_
          have S1 := hHeld.2.2.2.2
          clear hHeld
          go_wp2
          go_ret
          exact ⟨ret_bool HF.out.symm, S1.below⟩
      · have hne := tagNe_no hq
        have HQ := hide hq
        clear hq
        by_cases h0 : xt = 0
        · have HL : Hid (V.like ⟨xk, xt, xu, xa, xc, xts, xs, xg⟩ ⟨yk, yt, yu, ya, yc, yts, ys, yg⟩) := by
            have he : xt = yt ∧ xu = yu := by have := HQ.out; unfold eqB at this; simpa using this
            exact none_like (slot_none HSX.out h0) (slot_none HSY.out (he.1.symm.trans h0))
          have HNEW := hide (HNX.out HL.out)
          have hgt : decide (0 < xt) = false := decide_eq_false (by omega)
          clear h0
          go_wp2_with fail
          refine wp_region_noPanic ?_
          refine wp_region_held_drew (S := (fun w' => Six w' b (off + k * 6) ⟨xk, xt, xu, xa, xc, xts, xs, xg⟩ ∧ Six w' b' (off' + k * 6) ⟨yk, yt, yu, ya, yc, yts, ys, yg⟩ ∧ w'.cell? ⟨w.heap.size, 0, none⟩ = some (.slice (some ⟨b, off, none⟩) 4 c) ∧ w'.cell? ⟨w.heap.size + 1, 0, none⟩ = some (.slice (some ⟨b', off', none⟩) 4 c') ∧ Inv w (w.heap.size + 1 + 1) [(w.heap.size + 1, 88, #[.slice (some ⟨b', off', none⟩) 4 c']), (w.heap.size, 88, #[.slice (some ⟨b, off, none⟩) 4 c])] w')) (by kernel_rfl) (by exact ⟨Q1.out.keep hb fun _ hp => SL.drew.below.cell hp, Q2.out.keep hb' fun _ hp => SL.drew.below.cell hp, (SL.drew.nth 1 rfl).at 0, (SL.drew.nth 0 rfl).at 0, SL.drew⟩) (fun hHeld => ?_)
          refine mvR 0 (some 10) hHeld ?_
          refine mvR 1 (some 11) hHeld ?_
          refine mvR 2 (some 12) hHeld ?_
          refine mvR 3 (some 13) hHeld ?_
          refine mvR 4 (some 14) hHeld ?_
          refine mvR 5 (some 15) hHeld ?_
          refine mvR 6 (some 16) hHeld ?_
          refine mvR 7 (some 17) hHeld ?_
          refine mvR 8 (some 18) hHeld ?_
          refine mvR 9 (some 19) hHeld ?_
          refine mvR 10 (some 20) hHeld ?_
          refine mvR 11 (some 21) hHeld ?_
          refine mvR 12 (some 22) hHeld ?_
          refine mvR 13 (some 23) hHeld ?_
          refine mvR 14 (some 24) hHeld ?_
          refine mvR 15 (some 25) hHeld ?_
          refine mvR 16 (some 26) hHeld ?_
          refine mvR 17 (some 27) hHeld ?_
          refine mvR 18 (some 28) hHeld ?_
          refine mvR 19 (some 29) hHeld ?_
          refine mvR 20 (some 30) hHeld ?_
          refine mvR 21 (some 31) hHeld ?_
          refine mvR 22 (some 32) hHeld ?_
          refine mvS 23 (some 33) hHeld ?_
          refine mvS 24 (some 34) hHeld ?_
          refine mvS 25 (some 35) hHeld ?_
          refine mvS 26 (some 36) hHeld ?_
          refine mvS 27 (some 37) hHeld ?_
          refine mvS 28 (some 38) hHeld ?_
          refine mvS 29 (some 39) hHeld ?_
          refine mvS 30 (some 40) hHeld ?_
          refine mvS 31 (some 41) hHeld ?_
          refine mvS 32 (some 42) hHeld ?_
          refine mvS 33 (some 43) hHeld ?_
          refine mvS 34 (some 44) hHeld ?_
          refine mvR 35 (some 45) hHeld ?_
          refine mvR 36 (some 46) hHeld ?_
          refine wpAnyH_done (by kernel_rfl) ?_ _
          refine NoPanic.normal ?_
          have S1 := hHeld.2.2.2.2
          clear hHeld
          go_wp2
          exact ⟨⟨k + 1, by omega, by go_num, HNEW, S1⟩, by simp [intOf]; omega⟩
        · have he : xt = yt ∧ xu = yu := by have := HQ.out; unfold eqB at this; simpa using this
          have hv1 := slot_ver HSX.out h0
          have hv2 := slot_ver HSY.out (fun e => h0 (he.1.trans e))
          have hgt : decide (0 < xt) = true := decide_eq_true (by
            have := okB_i (verB_parts hv1).2.2.1
            simp only at this
            omega)
          have DS : Hid (∀ W : World, Below w.heap.size w W → Calls Tryz.prog 151 #[.agg (verC xk xt xu xa xts.length xc xs xg), .agg (verC yk yt yu ya yts.length yc ys yg)] W fun e w' => e = .returned (.bool (likeB ⟨xk, xt, xu, xa, xc, xts, xs, xg⟩ ⟨yk, yt, yu, ya, yc, yts, ys, yg⟩)) ∧ Below W.heap.size W w') := fun W hW =>
            l2Same_any xk xt xu xa xc xts xs xg yk yt yu ya yc yts ys yg W hv1 hv2 ((HT.out.on hW).up hW.size) ((HT2.out.on hW).up hW.size)
          clear h0 hv1 hv2 he
          go_wp2_with fail
          refine wp_region_noPanic ?_
          refine wp_region_held_drew (S := (fun w' => Six w' b (off + k * 6) ⟨xk, xt, xu, xa, xc, xts, xs, xg⟩ ∧ Six w' b' (off' + k * 6) ⟨yk, yt, yu, ya, yc, yts, ys, yg⟩ ∧ w'.cell? ⟨w.heap.size, 0, none⟩ = some (.slice (some ⟨b, off, none⟩) 4 c) ∧ w'.cell? ⟨w.heap.size + 1, 0, none⟩ = some (.slice (some ⟨b', off', none⟩) 4 c') ∧ Inv w (w.heap.size + 1 + 1) [(w.heap.size + 1, 88, #[.slice (some ⟨b', off', none⟩) 4 c']), (w.heap.size, 88, #[.slice (some ⟨b, off, none⟩) 4 c])] w')) (by kernel_rfl) (by exact ⟨Q1.out.keep hb fun _ hp => SL.drew.below.cell hp, Q2.out.keep hb' fun _ hp => SL.drew.below.cell hp, (SL.drew.nth 1 rfl).at 0, (SL.drew.nth 0 rfl).at 0, SL.drew⟩) (fun hHeld => ?_)
          refine mvR 0 (some 10) hHeld ?_
          refine mvR 1 (some 11) hHeld ?_
          refine mvR 2 (some 12) hHeld ?_
          refine mvR 3 (some 13) hHeld ?_
          refine mvR 4 (some 14) hHeld ?_
          refine mvR 5 (some 15) hHeld ?_
          refine mvR 6 (some 16) hHeld ?_
          refine mvR 7 (some 17) hHeld ?_
          refine mvR 8 (some 18) hHeld ?_
          refine mvR 9 (some 19) hHeld ?_
          refine mvR 10 (some 20) hHeld ?_
          refine mvR 11 (some 21) hHeld ?_
          refine mvR 12 (some 22) hHeld ?_
          refine mvR 13 (some 23) hHeld ?_
          refine mvR 14 (some 24) hHeld ?_
          refine mvR 15 (some 25) hHeld ?_
          refine mvR 16 (some 26) hHeld ?_
          refine mvR 17 (some 27) hHeld ?_
          refine mvR 18 (some 28) hHeld ?_
          refine mvR 19 (some 29) hHeld ?_
          refine mvR 20 (some 30) hHeld ?_
          refine mvR 21 (some 31) hHeld ?_
          refine mvR 22 (some 32) hHeld ?_
          refine mvR 23 (some 33) hHeld ?_
          refine mvR 24 (some 34) hHeld ?_
          refine mvR 25 (some 35) hHeld ?_
          refine mvR 26 (some 36) hHeld ?_
          refine mvR 27 (some 37) hHeld ?_
          refine mvR 28 (some 38) hHeld ?_
          refine mvR 29 (some 39) hHeld ?_
          refine mvR 30 (some 40) hHeld ?_
          refine mvR 31 (some 41) hHeld ?_
          refine mvR 32 (some 42) hHeld ?_
          refine take_one 33 (by kernel_rfl) rfl (fun K hK => ?_)
          go_simp
          ((with_reducible refine (DS.out _ hHeld.2.2.2.2.below).mono ?_); rintro e w3 ⟨rfl, hb3⟩)
          try go_wp2_with fail
          refine hK.out _ _ (by exact ⟨Q1.out.keep hb fun _ hp => (hHeld.2.2.2.2.on hb3).below.cell hp, Q2.out.keep hb' fun _ hp => (hHeld.2.2.2.2.on hb3).below.cell hp, ((hHeld.2.2.2.2.on hb3).nth 1 rfl).at 0, ((hHeld.2.2.2.2.on hb3).nth 0 rfl).at 0, hHeld.2.2.2.2.on hb3⟩) (fun hHeld => ?_)
          clear hK K
          refine mvR 34 (some 44) hHeld ?_
          refine mvR 35 (some 45) hHeld ?_
          refine mvR 36 (some 46) hHeld ?_
          refine wpAnyH_done (by kernel_rfl) ?_ _
          refine NoPanic.normal ?_
          have S1 := hHeld.2.2.2.2
          clear hHeld
          cases hq : likeB ⟨xk, xt, xu, xa, xc, xts, xs, xg⟩ ⟨yk, yt, yu, ya, yc, yts, ys, yg⟩
          · have HF := hide (HNO.out hq)
            clear hq
            go_wp2
            go_ret
            exact ⟨ret_bool HF.out.symm, S1.below⟩
          · have HNEW := hide (HNX.out ((likeB_iff _ _).1 hq))
            clear hq
            go_wp2
            exact ⟨⟨k + 1, by omega, by go_num, HNEW, S1⟩, by simp [intOf]; omega⟩
    · have hkn : k = 4 := by omega
      subst hkn
      clear hlt
      have hf : Hid (likesB us vs = true) := (likesB_iff us vs).2 ⟨HU4.out.trans HV4.out.symm, fun i x y hx hy => heq.out i x y (by have := (List.getElem?_eq_some_iff.1 hx).1; have := HU4.out; omega) hx hy⟩
      clear heq
      go_wp2
      go_ret
      exact ⟨ret_bool hf.out.symm, SL.below⟩
end Go.Proofs.YtnaggcdhimcilaaGreat
/- Contracts of StoreJoin, of program and model. Condition: as many versions and tags as a law lets by. -/
namespace Go.Proofs.YtnaggcdhimcilaaGreat
open Go.RowKit Go.Joins
attribute [local go_sem ↓] Go.wp_at_zero Go.wp_at_succ

/-- A row with all of another row let in. -/
def foldK (us bs : List V) : List V := bs.foldl keepL us
/-- What StoreJoin answers. -/
def joinR (vs bs : List V) : List V := if (storeB vs && storeB bs) = true then foldK vs bs else []
theorem store_slot {bs : List V} {i : Nat} {v : V} (h : storeB bs = true) (hi : bs[i]? = some v) : slotB i v = true := by
  apply Classical.byContradiction
  intro hn
  rw [storeB_bad hi (by simpa using hn)] at h
  cases h
theorem slot_late {i : Nat} {v : V} (h : slotB i v = true) (ht : ¬ 0 < v.t) : v.k = 0 ∧ v.t = 0 ∧ v.u = 0 := by
  cases hn : noneC v.k v.t v.u v.ts.length v.s v.g with
  | true =>
    unfold noneC at hn
    simp at hn
    omega
  | false =>
    exfalso
    cases hb : verB v.k v.t v.u v.ts v.s v.g with
    | false => rw [slotB_bad hn hb] at h; cases h
    | true =>
      have : verB v.k v.t v.u v.ts v.s v.g = false := by
        cases ho : okB v.t v.u with
        | false => exact verB_f (.inr (.inr (.inl ho)))
        | true =>
          have := okB_i ho
          exact verB_f (.inr (.inr (.inr (.inl (by omega)))))
      rw [this] at hb
      cases hb
/-- No tag is earlier than nothing. -/
def Late (us : List V) : Prop := ∀ x ∈ us, lessB x.t x.u 0 0 = false
theorem slot_ge {i : Nat} {v : V} (h : slotB i v = true) : lessB v.t v.u 0 0 = false := by
  by_cases ht : 0 < v.t
  · exact decide_eq_false (by omega)
  · obtain ⟨_, h1, h2⟩ := slot_late h ht
    rw [h1, h2]
    exact decide_eq_false (by omega)
/-- What letting a whole row in leaves. -/
def FoldL (w : World) (B G : Nat) (rs : List V) (x : Value) (e : Ending) (w' : World) : Prop :=
  ∃ (us' : List V) (cur' : Array Value), e = .returned x ∧ us'.length = rs.length ∧ Like us' rs ∧ ORow w' B w'.heap.size G us' cur' ∧ Turn (fun g => g = G) w w'

end Go.Proofs.YtnaggcdhimcilaaGreat
/- Contract of whether a node, with all that waits, is what the one ahead is, in the model. Condition: the one ahead is valid by itself. -/
namespace Go.Proofs.YtnaggcdhimcilaaGreat
open Go.RowKit Go.Joins
attribute [local go_sem ↓] Go.wp_at_zero Go.wp_at_succ

theorem store_put {us : List V} {v : V} {kn : Nat} (h : storeB us = true) (hv : verV v = true) (hk : v.k = (kn : Int)) : storeB (us.set kn v) = true := by
  refine storeB_ok (by rw [List.length_set]; exact storeB_four h) (fun i x hx => ?_)
  by_cases e : i = kn
  · subst e
    have hl := (List.getElem?_eq_some_iff.1 hx).1
    rw [List.length_set] at hl
    rw [List.getElem?_set_self hl] at hx
    injection hx with hx
    subst hx
    have hv' : verB v.k v.t v.u v.ts v.s v.g = true := hv
    unfold slotB
    rw [hv', decide_eq_true hk]
    simp
  · rw [List.getElem?_set_ne (fun e' => e e'.symm)] at hx
    exact storeB_slot h hx
theorem storeB_ll {us vs : List V} (h : LL us vs) (hs : storeB vs = true) : storeB us = true := by rw [storeB_like h.1 h.2]; exact hs
set_option maxRecDepth 100000 in
set_option maxHeartbeats 4000000 in
theorem l3Next_any (n m : Nd) (w : World) (hn : nodeB n = true) (hml : m.ss.length ≤ 1048576) (hms : Small m.ss) (gs : Vg w w.heap.size n.sa n.ss) (gw : Vg w w.heap.size n.wa n.ws) (gm : Vg w w.heap.size m.sa m.ss) :
    Calls Tryz.prog 94 #[.agg #[.slice n.sa n.ss.length n.sc, .slice n.wa n.ws.length n.wc], .agg #[.slice m.sa m.ss.length m.sc, .slice m.wa m.ws.length m.wc]] w fun e w' => e = .returned (.bool (storeB m.ss && linkB n m)) ∧ Below w.heap.size w w' := by
  have HNO := hide (nodeB_parts hn)
  have HFN : Hid (∀ j, walkL m.ss (n.ws.take j) = none → linkB n m = false) := fun j h => linkB_none h
  have HFS : Hid (∀ us', walkL m.ss n.ws = some us' → linkB n m = likesB us' n.ss) := fun us' h => linkB_some h
  generalize linkB n m = A at HFN HFS ⊢
  obtain ⟨sa, sc, ss, wa, wc, ws⟩ := n
  obtain ⟨ma, mc, ms, xa, xc, xs⟩ := m
  simp only at HNO HFN HFS hml hms gs gw gm ⊢
  have HGS := hide gs
  have HGW := hide gw
  have HS4 := hide (storeB_four HNO.out.1)
  clear gs gw hn
  generalize hnw : ws.length = nw at *
  have HW := hide hnw
  have hn6 : nw ≤ 6 := HNO.out.2.1
  clear hnw
  have HR0 : Hid (storeB ms = false → (storeB ms && A) = false) := fun h => by rw [h]; rfl
  have HR1 : Hid (storeB ms = true → (storeB ms && A) = A) := fun h => by rw [h]; exact Bool.true_and A
  generalize (storeB ms && A) = R at HR0 HR1 ⊢
  have S0 := ((Inv.start w).box 90 #[.slice sa ss.length sc, .slice wa nw wc]).box 90 #[.slice ma ms.length mc, .slice xa xs.length xc]
  simp only [World.size_alloc] at S0
  have k0 := (S0.nth 0 rfl).two.1
  go_enter Tryz.func94, Tryz.ntmps94
  go_wp2_with fail
  generalize (w.alloc (.cells #[.slice sa ss.length sc, .slice wa nw wc] 90)).alloc (.cells #[.slice ma ms.length mc, .slice xa xs.length xc] 90) = W0 at S0 ⊢
  have GM := hide ((gm.on S0.below).up S0.base)
  with_reducible refine (l2StoreOk_any ma mc ms W0 hml hms GM.out).mono ?_
  rintro e w1 ⟨rfl, hb1⟩
  have S1 := S0.on hb1
  have GM1 := hide ((GM.out.on hb1).up hb1.size)
  clear S0 k0 GM gm
  cases ho : storeB ms
  · have HF := hide (HR0.out ho)
    clear ho
    go_wp2
    go_ret
    exact ⟨ret_bool HF.out.symm, S1.below⟩
  · have HR := hide (HR1.out ho)
    have HO := hide ho
    have M4 := hide (storeB_four ho)
    clear ho
    have k1 := (S1.nth 0 rfl).two.1
    have zr := S1.room
    have zb := S1.base
    go_wp2_with fail
    have CT := l2CopyStore_any ma mc ms w1 hml (fun v hv => (hms v hv).1) GM1.out
    with_reducible refine CT.mono ?_
    rintro e w3 ⟨x, us, rfl, hul, hli, hCR, hb3⟩
    obtain ⟨G, cap, cur, rfl, hO⟩ := res_four hCR.res (hul.trans M4.out)
    have z3 := hb3.size
    have glo := hO.lo
    have ghi := hO.hi
    have S3 := ((S1.on hb3).top).box 88 #[.slice (some ⟨G, 0, none⟩) 4 cap]
    have HO3 := hide ((hO.on (below_alloc1 w3 (.cells #[.slice (some ⟨G, 0, none⟩) 4 cap] 88))).wide (show w3.heap.size ≤ (w3.alloc (.cells #[.slice (some ⟨G, 0, none⟩) 4 cap] 88)).heap.size by simp))
    have HU4 : Hid (us.length = 4) := hul.trans M4.out
    have HLL : Hid (LL us ms) := ⟨hul, hli⟩
    clear S1 k1 hb3 hul hli hCR hO CT
    go_wp2
    have HS3 := hide S3
    clear S3
    go_loopw [6] (fun i wr => ∃ (j : Nat) (us' : List V) (cur' : Array Value), j ≤ nw ∧ i = .int .i64 (j : Int) ∧ Hid (us'.length = 4) ∧ Hid (storeB us' = true) ∧ Hid (∃ z, walkL ms (ws.take j) = some z ∧ LL us' z) ∧ Hid (ORow wr w1.heap.size wr.heap.size G us' cur') ∧ Inv w (w3.heap.size + 1) [(w3.heap.size, 88, #[.slice (some ⟨G, 0, none⟩) 4 cap]), (w.heap.size + 1, 90, #[.slice ma ms.length mc, .slice xa xs.length xc]), (w.heap.size, 90, #[.slice sa ss.length sc, .slice wa nw wc])] wr) (fun i _ => nw - (intOf i).toNat)
    case atStart => exact ⟨0, us, cur, Nat.zero_le _, rfl, HU4.out, storeB_ll HLL.out HO.out, ⟨ms, rfl, HLL.out⟩, HO3.out, by simpa using HS3.out⟩
    case round =>
    obtain ⟨j, us', cur', hj, rfl, HL', HSB, HWK, HO', hI⟩ := hrel
    clear HS3 HO3
    have hbl := hI.below
    have hz := hI.base
    have hrm := hI.room
    have q3 : wr.cell? ⟨w.heap.size, 1, none⟩ = some (.slice wa nw wc) := (hI.nth 2 rfl).at 1
    by_cases hlt : j < nw
    · rcases HGW.out with h0 | ⟨b, off, rfl, hb, hx⟩
      · have := HW.out; subst h0; simp at this; omega
      have hjl : j < ws.length := by have := HW.out; omega
      obtain ⟨hS, hT⟩ := hx j _ (List.getElem?_eq_getElem hjl)
      have HV := hide (List.getElem?_eq_getElem hjl)
      generalize ws[j] = v at hS hT HV
      have HVV := hide (HNO.out.2.2 v (List.mem_of_getElem? HV.out))
      obtain ⟨kn, hkn, hkn4⟩ : ∃ kn : Nat, v.k = (kn : Int) ∧ kn < 4 := by
        have := verV_key HVV.out
        exact ⟨v.k.toNat, by omega, by omega⟩
      obtain ⟨y, hy⟩ : ∃ y, us'[kn]? = some y := ⟨_, List.getElem?_eq_getElem (by have := HL'.out; omega)⟩
      have HY := hide hy
      have HF : Hid (v.ts.length = 4) := pastB_len4 (verB_parts HVV.out).2.2.2
      obtain ⟨vk, vt, vu, va, vc, vts, vs, vg⟩ := v
      simp only at hkn hT HF
      subst hkn
      have HSX := hide hS
      have HT := hide hT
      have C1 := hide ((HO'.out.blk.at (kn * 6 + 1)).trans (HO'.out.at' kn y hy).2.1)
      have C2 := hide ((HO'.out.blk.at (kn * 6 + 2)).trans (HO'.out.at' kn y hy).2.2.1)
      have i1 : (0 : Int) ≤ (j : Int) := by omega
      have i2 : (j : Int) < (nw : Int) := by omega
      have i3 : (0 : Int) ≤ (kn : Int) := by omega
      have i4 : (kn : Int) < 4 := by omega
      have hbw : b < wr.heap.size := by omega
      clear hS hT hx hy
      go_wp2_with fail
      clear q3
      refine wp_region_noPanic ?_
      refine wp_region_held_drew (S := (fun w' => (w'.cell? ⟨w3.heap.size, 0, none⟩ = some (.slice (some ⟨G, 0, none⟩) 4 cap) ∧ w'.cell? ⟨w.heap.size, 1, none⟩ = some (.slice (some ⟨b, off, none⟩) nw wc)) ∧ Six w' b (off + j * 6) ⟨(kn : Int), vt, vu, va, vc, vts, vs, vg⟩ ∧ (w'.cell? ⟨G, kn * 6 + 1, none⟩ = some (.int .i64 y.t) ∧ w'.cell? ⟨G, kn * 6 + 2, none⟩ = some (.int .i64 y.u)) ∧ Hid (ORow w' w1.heap.size wr.heap.size G us' cur') ∧ Inv w (w3.heap.size + 1) [(w3.heap.size, 88, #[.slice (some ⟨G, 0, none⟩) 4 cap]), (w.heap.size + 1, 90, #[.slice ma ms.length mc, .slice xa xs.length xc]), (w.heap.size, 90, #[.slice sa ss.length sc, .slice (some ⟨b, off, none⟩) nw wc])] w')) (by kernel_rfl) (by exact ⟨⟨(hI.drew.nth 0 rfl).at 0, (hI.drew.nth 2 rfl).at 1⟩, HSX.out.keep hb fun _ hp => hI.drew.below.cell hp, ⟨C1.out, C2.out⟩, HO'.out.on (Below.refl _ _).drew, hI.drew⟩) (fun hHeld => ?_)
      refine mvR 0 (some 21) hHeld ?_
      refine mvR 1 (some 22) hHeld ?_
      refine mvR 2 (some 23) hHeld ?_
      refine mvR 3 (some 24) hHeld ?_
      refine mvR 4 (some 25) hHeld ?_
      refine mvR 5 (some 26) hHeld ?_
      refine mvR 6 (some 27) hHeld ?_
      refine mvR 7 (some 28) hHeld ?_
      refine mvR 8 (some 29) hHeld ?_
      refine mvR 9 (some 30) hHeld ?_
      refine mvR 10 (some 31) hHeld ?_
      refine mvR 11 (some 32) hHeld ?_
      refine mvR 12 (some 33) hHeld ?_
      refine mvR 13 (some 34) hHeld ?_
      refine mvR 14 (some 35) hHeld ?_
      refine mvR 15 (some 36) hHeld ?_
      refine mvR 16 (some 37) hHeld ?_
      refine take_one 17 (by kernel_rfl) rfl (fun K hK => ?_)
      go_simp
      ((with_reducible refine (l1Less_any y.t y.u vt vu _).mono ?_); rintro e w4 ⟨rfl, hb4⟩; have I4 := hHeld.2.2.2.2.on hb4; have HO4 := hide (hHeld.2.2.2.1.out.on hb4); have D1 := hide ((HO4.out.blk.at (kn * 6 + 1)).trans (HO4.out.at' kn y HY.out).2.1); have D2 := hide ((HO4.out.blk.at (kn * 6 + 2)).trans (HO4.out.at' kn y HY.out).2.2.1))
      try go_wp2_with fail
      refine hK.out _ _ (by exact ⟨⟨(I4.nth 0 rfl).at 0, (I4.nth 2 rfl).at 1⟩, HSX.out.keep hb fun _ hp => I4.below.cell hp, ⟨D1.out, D2.out⟩, HO4.out, I4⟩) (fun hHeld => ?_)
      clear hK K
      refine mvR 18 (some 39) hHeld ?_
      refine wpAnyH_done (by kernel_rfl) ?_ _
      refine NoPanic.normal ?_
      clear hHeld hI C1 C2 D1 D2
      have hrm4 := I4.room
      have hz4 : wr.heap.size ≤ w4.heap.size := by have := hb4.size; simpa using this
      cases hless : lessB y.t y.u vt vu
      · have HF := hide (HR.out.trans <| HFN.out (j + 1) (by
          obtain ⟨z, hz1, hz2⟩ := HWK.out
          obtain ⟨y', hy', hl⟩ := ll_at hz2 HY.out
          rw [walkL_step HV.out, hz1]
          exact stepL_no rfl hy' (by rw [← hl.2.1, ← hl.2.2.1]; exact hless)))
        clear hless
        go_wp2
        go_ret
        exact ⟨ret_bool HF.out.symm, I4.below⟩
      · have HWS : Hid (∃ z, walkL ms (ws.take (j + 1)) = some z ∧ LL (us'.set kn ⟨(kn : Int), vt, vu, va, vc, vts, vs, vg⟩) z) := by
          obtain ⟨z, hz1, hz2⟩ := HWK.out
          obtain ⟨y', hy', hl⟩ := ll_at hz2 HY.out
          refine ⟨z.set kn ⟨(kn : Int), vt, vu, va, vc, vts, vs, vg⟩, ?_, ll_set hz2 (vlike_refl _) kn⟩
          rw [walkL_step HV.out, hz1]
          exact stepL_yes rfl hy' (by rw [← hl.2.1, ← hl.2.2.1]; exact hless)
        have HKP : Hid (keepL us' ⟨(kn : Int), vt, vu, va, vc, vts, vs, vg⟩ = us'.set kn ⟨(kn : Int), vt, vu, va, vc, vts, vs, vg⟩) := by
          unfold Hid
          have := keepL_yes (us := us') (v := ⟨(kn : Int), vt, vu, va, vc, vts, vs, vg⟩) (x := y) (by simpa using HY.out) hless
          simpa using this
        clear hless
        go_wp2_with fail
        refine wp_region_noPanic ?_
        refine wp_region_held_drew (S := (fun w' => w'.cell? ⟨w3.heap.size, 0, none⟩ = some (.slice (some ⟨G, 0, none⟩) 4 cap) ∧ w'.cell? ⟨w.heap.size, 1, none⟩ = some (.slice (some ⟨b, off, none⟩) nw wc) ∧ Six w' b (off + j * 6) ⟨(kn : Int), vt, vu, va, vc, vts, vs, vg⟩ ∧ Inv w (w3.heap.size + 1) [(w3.heap.size, 88, #[.slice (some ⟨G, 0, none⟩) 4 cap]), (w.heap.size + 1, 90, #[.slice ma ms.length mc, .slice xa xs.length xc]), (w.heap.size, 90, #[.slice sa ss.length sc, .slice (some ⟨b, off, none⟩) nw wc])] w')) (by kernel_rfl) (by exact ⟨(I4.drew.nth 0 rfl).at 0, (I4.drew.nth 2 rfl).at 1, HSX.out.keep hb fun _ hp => I4.drew.below.cell hp, I4.drew⟩) (fun hHeld => ?_)
        refine mvR 0 (some 40) hHeld ?_
        refine mvR 1 (some 41) hHeld ?_
        refine mvR 2 (some 42) hHeld ?_
        refine mvR 3 (some 43) hHeld ?_
        refine mvR 4 (some 44) hHeld ?_
        refine mvR 5 (some 45) hHeld ?_
        refine take_one 6 (by kernel_rfl) rfl (fun K hK => ?_)
        go_simp
        ((with_reducible refine (l2Add_any w1.heap.size wr.heap.size G cap us' cur' ⟨(kn : Int), vt, vu, va, vc, vts, vs, vg⟩ kn _ (HO4.out.on (Below.refl _ _).drew) ?_ HL'.out ?_ hkn4 ?_ ?_).mono ?_); (exact hz4); (exact rfl); (have := HF.out; show vts.length ≤ 1048576; omega); (exact (HT.out.on I4.drew.below).up I4.drew.base); rintro e w5 ⟨us2, cur2, rfl, hl2, hli2, hO2, hT2⟩; have I5 := hHeld.2.2.2.turned hT2 (fun g e => by have e' : g = G := e; omega) (fun x hx e => by have e' : x.1 = G := e; simp only [List.mem_cons, List.not_mem_nil, or_false] at hx; rcases hx with rfl | rfl | rfl <;> simp only at e' <;> omega); have k5 := (I5.nth 0 rfl).one; have I6 := I5.put0 (i := 0) (by intro x hx; simp only [List.mem_cons, List.not_mem_nil, or_false] at hx; rcases hx with rfl | rfl <;> simp only <;> omega) (.slice (some ⟨G, 0, none⟩) 4 cap); simp only [List.setIfInBounds_toArray, List.set_cons_zero] at I6)
        try go_wp2_with fail
        refine hK.out _ _ (by exact ⟨(I5.nth 0 rfl).at 0, (I5.nth 2 rfl).at 1, HSX.out.keep hb fun _ hp => I5.below.cell hp, I5⟩) (fun hHeld => ?_)
        clear hK K
        refine take_one 7 (by kernel_rfl) rfl (fun K hK => ?_)
        go_simp
        refine hK.out _ _ (by exact ⟨(I6.nth 0 rfl).at 0, (I6.nth 2 rfl).at 1, HSX.out.keep hb fun _ hp => I6.below.cell hp, I6⟩) (fun hHeld => ?_)
        clear hK K
        refine wpAnyH_done (by kernel_rfl) ?_ _
        refine NoPanic.normal ?_
        have hO6 := (hO2.aside (p := ⟨w3.heap.size, 0, none⟩) (I5.nth 0 rfl) store_ne_tag (by show G ≠ w3.heap.size; omega) (.slice (some ⟨G, 0, none⟩) 4 cap)).wide (show w5.heap.size ≤ (w5.setCell ⟨w3.heap.size, 0, none⟩ (.slice (some ⟨G, 0, none⟩) 4 cap)).heap.size by simp [World.setCell])
        have H2 : Hid (us2.length = 4) := hl2.trans HL'.out
        have HL2 : Hid (LL us2 (us'.set kn ⟨(kn : Int), vt, vu, va, vc, vts, vs, vg⟩)) := by
          rw [HKP.out] at hli2
          exact ⟨by rw [List.length_set]; exact hl2, hli2⟩
        have H3 : Hid (storeB us2 = true) := storeB_ll HL2.out (store_put HSB.out HVV.out rfl)
        have H5 : Hid (∃ z, walkL ms (ws.take (j + 1)) = some z ∧ LL us2 z) := by
          obtain ⟨z, hz1, hz2⟩ := HWS.out
          exact ⟨z, hz1, ll_trans HL2.out hz2⟩
        have HO6 := hide hO6
        clear hHeld hl2 hli2 hO2 hT2 I5 k5 hO6 I4
        go_wp2
        exact ⟨⟨j + 1, us2, cur2, by omega, by go_num, H2, H3, H5, HO6, I6⟩, by simp [intOf]; omega⟩
    · have hjn : j = nw := by omega
      subst hjn
      clear hlt
      obtain ⟨z, hz1, hz2⟩ := HWK.out
      have hF : Hid (R = likesB us' ss) := by
        unfold Hid
        rw [HR.out, HFS.out z (by rw [← HW.out, List.take_length] at hz1; exact hz1)]
        exact (likesB_like hz2 (ll_refl _)).symm
      clear hz1 hz2
      have q5 := (hI.nth 0 rfl).one.1
      have q1 := (hI.nth 2 rfl).two.1
      have CT := hide (l3SameStore_any (some ⟨G, 0, none⟩) sa cap sc us' ss wr HSB.out HNO.out.1 HO'.out.vg ((HGS.out.on hbl).up hz))
      rw [HS4.out] at q1
      go_wp2_with fail
      with_reducible refine CT.out.mono ?_
      rintro e w4 ⟨rfl, hb4⟩
      have I4 := hI.on hb4
      generalize likesB us' ss = x at hF ⊢
      go_wp2
      go_ret
      exact ⟨ret_bool hF.out.symm, I4.below⟩
end Go.Proofs.YtnaggcdhimcilaaGreat
/- Contract of whether a chain is valid, in the model. Condition: sizes that memory holds. -/
namespace Go.Proofs.YtnaggcdhimcilaaGreat
open Go.RowKit Go.Joins
attribute [local go_sem ↓] Go.wp_at_zero Go.wp_at_succ

theorem stepB_mid {ns : List Nd} {k : Nat} {n m : Nd} (hn : ns[k]? = some n) (hm : ns[k + 1]? = some m) : stepB ns k = linkB n m := by
  unfold stepB
  rw [hn, hm]
theorem stepB_last {ns : List Nd} {k : Nat} {n : Nd} (hn : ns[k]? = some n) (hm : k + 1 = ns.length) : stepB ns k = decide (n.ws.length = 0) := by
  unfold stepB
  rw [hn, List.getElem?_eq_none_iff.2 (by omega : ns.length ≤ k + 1)]
theorem nodeB_store {n : Nd} (h : storeB n.ss = false) : nodeB n = false := by unfold nodeB; rw [h]; rfl
theorem nodeB_long {n : Nd} (h : ¬ n.ws.length ≤ 6) : nodeB n = false := by unfold nodeB; rw [decide_eq_false h]; simp
theorem nodeB_wait {n : Nd} {i : Nat} {v : V} (hi : n.ws[i]? = some v) (h : verV v = false) : nodeB n = false := by
  unfold nodeB
  have : n.ws.all verV = false := by
    rw [List.all_eq_false]
    exact ⟨v, List.mem_of_getElem? hi, by rw [h]; decide⟩
  rw [this]
  simp
theorem nodeB_mk {n : Nd} (h1 : storeB n.ss = true) (h2 : n.ws.length ≤ 6) (h3 : ∀ (i : Nat) v, n.ws[i]? = some v → verV v = true) : nodeB n = true := by
  unfold nodeB
  rw [h1, decide_eq_true h2, Bool.true_and, Bool.true_and, List.all_eq_true]
  intro v hv
  obtain ⟨i, hi⟩ := List.getElem?_of_mem hv
  exact h3 i v hi
set_option maxRecDepth 100000 in
set_option maxHeartbeats 4000000 in
theorem l3Ok_any (A : Option Addr) (c : Nat) (ns : List Nd) (w : World) (hn : ns.length ≤ 1048576) (hm : SmN ns) (hC : CgA w A ns) :
    Calls Tryz.prog 54 #[.agg #[.slice A ns.length c]] w fun e w' => e = .returned (.bool (chainB ns)) ∧ Below w.heap.size w w' := by
  have S0 := (Inv.start w).box 32 #[.slice A ns.length c]
  simp only [World.size_alloc] at S0
  have HNE : Hid (¬ (1 ≤ ns.length ∧ ns.length ≤ 4) → chainB ns = false) := chainB_len
  have HBAD : Hid (∀ (i : Nat) n, ns[i]? = some n → nodeB n = false → chainB ns = false) := fun i n hi h => chainB_node hi h
  have HSTEP : Hid (∀ i, i < ns.length → stepB ns i = false → chainB ns = false) := fun i hi h => chainB_step hi h
  have HGOOD : Hid (1 ≤ ns.length ∧ ns.length ≤ 4 → (∀ (i : Nat) n, ns[i]? = some n → nodeB n = true) → (∀ i, i < ns.length → stepB ns i = true) → chainB ns = true) := chainB_ok
  have HLAST : Hid (∀ (k : Nat) n, ns[k]? = some n → k + 1 = ns.length → stepB ns k = decide (n.ws.length = 0)) := fun k n h h' => stepB_last h h'
  have HM := hide hm
  clear hm
  have HC := hide hC
  clear hC
  generalize hnn : ns.length = n at *
  have HN := hide hnn
  clear hnn
  go_enter Tryz.func54, Tryz.ntmps54
  go_wp2
  generalize w.alloc (.cells #[.slice A n c] 32) = W0 at S0 ⊢
  go_loopw [3] (fun i wr => ∃ k : Nat, k ≤ n ∧ i = .int .i64 (k : Int) ∧ Hid (∀ (j : Nat) y, j < k → ns[j]? = some y → nodeB y = true) ∧ Hid (∀ j, j < k → j + 1 < n → stepB ns j = true) ∧ Inv w (w.heap.size + 1) [(w.heap.size, 32, #[.slice A n c])] wr) (fun i _ => n - (intOf i).toNat)
  case atStart => exact ⟨0, Nat.zero_le _, rfl, fun j x hj => absurd hj (by omega), fun j hj => absurd hj (by omega), S0⟩
  case round =>
    obtain ⟨k, hk, rfl, HNO, HST, SL⟩ := hrel
    have c1 := (SL.nth 0 rfl).one.1
    by_cases hlt : k < n
    · rcases HC.out with h0 | ⟨G, cur, rfl, hC⟩
      · have := HN.out; rw [h0] at this; simp at this; omega
      have hkl : k < ns.length := by have := HN.out; omega
      have HX := hide (List.getElem?_eq_getElem hkl)
      generalize ns[k] = nd at HX
      have HCG := hide hC
      have HCr := hC.on SL.below
      have n0 : wr.cell? ⟨G, k * 2, none⟩ = some (.slice nd.sa nd.ss.length nd.sc) := (HCr.blk.at _).trans (HCr.at' k nd HX.out).1
      have HV := hide (hC.store k nd HX.out)
      have HW := hide (hC.wait k nd HX.out)
      have HMM := hide (HM.out k nd HX.out)
      have HN1 : Hid (∀ W, Below w.heap.size w W → W.cell? ⟨G, k * 2 + 1, none⟩ = some (.slice nd.wa nd.ws.length nd.wc)) := fun W hW => ((HCG.out.on hW).blk.at _).trans (HCG.out.at' k nd HX.out).2
      have HN0 : Hid (∀ W, Below w.heap.size w W → W.cell? ⟨G, k * 2, none⟩ = some (.slice nd.sa nd.ss.length nd.sc)) := fun W hW => ((HCG.out.on hW).blk.at _).trans (HCG.out.at' k nd HX.out).1
      have HBS : Hid (storeB nd.ss = false → chainB ns = false) := fun h => HBAD.out k nd HX.out (nodeB_store h)
      have HBL : Hid (¬ nd.ws.length ≤ 6 → chainB ns = false) := fun h => HBAD.out k nd HX.out (nodeB_long h)
      have HBW : Hid (∀ (i : Nat) v, nd.ws[i]? = some v → verV v = false → chainB ns = false) := fun i v hi h => HBAD.out k nd HX.out (nodeB_wait hi h)
      have HBG : Hid (storeB nd.ss = true → nd.ws.length ≤ 6 → (∀ (i : Nat) v, nd.ws[i]? = some v → verV v = true) → nodeB nd = true) := nodeB_mk
      obtain ⟨sa, sc, ss, wa, wc, ws⟩ := nd
      simp only at n0 HV HW HMM HN1 HN0 HBS HBL HBW HBG
      have i1 : (0 : Int) ≤ (k : Int) := by omega
      have i2 : (k : Int) < (n : Int) := by omega
      clear HCr hC
      go_wp2_with fail
      with_reducible refine (l2StoreOk_any sa sc ss wr HMM.out.1.1 HMM.out.2.1 ((HV.out.on SL.below).up SL.base)).mono ?_
      rintro e w1 ⟨rfl, hb1⟩
      have S1 := SL.on hb1
      have n1 := HN1.out w1 S1.below
      have c2 := (S1.nth 0 rfl).one.1
      clear SL c1 n0
      cases hq : storeB ss
      · have HF := hide (HBS.out hq)
        clear hq
        go_wp2
        go_ret
        exact ⟨ret_bool HF.out.symm, S1.below⟩
      · have HSQ := hide hq
        clear hq
        by_cases hl6 : ws.length ≤ 6
        · have z6 : ¬ ((ws.length : Int) > 6) := by omega
          generalize hnw : ws.length = nw at *
          have HNW := hide hnw
          clear hnw
          go_wp2
          go_loopw [4] (fun i wr => ∃ q : Nat, q ≤ nw ∧ i = .int .i64 (q : Int) ∧ Hid (∀ (j : Nat) v, j < q → ws[j]? = some v → verV v = true) ∧ Inv w (w.heap.size + 1) [(w.heap.size, 32, #[.slice (some ⟨G, 0, none⟩) n c])] wr) (fun i _ => nw - (intOf i).toNat)
          case atStart => exact ⟨0, Nat.zero_le _, rfl, fun j v hj => absurd hj (by omega), S1⟩
          case round =>
            obtain ⟨q, hq, rfl, HWV, SI⟩ := hrel
            have c3 := (SI.nth 0 rfl).one.1
            have n3 := HN1.out _ SI.below
            have HSI := hide SI.below
            by_cases hltq : q < nw
            · rcases HW.out with h0 | ⟨b, off, rfl, hb, hx⟩
              · have := HNW.out; subst h0; simp at this; omega
              have hql : q < ws.length := by have := HNW.out; omega
              obtain ⟨hS, hT⟩ := hx q _ (List.getElem?_eq_getElem hql)
              have HY := hide (List.getElem?_eq_getElem hql)
              generalize ws[q] = v at hS hT HY
              have HSM := hide (HMM.out.2.2 v (List.mem_of_getElem? HY.out))
              obtain ⟨vk, vt, vu, va, vc, vts, vs, vg⟩ := v
              have Q1 := hS.keep hb fun _ hp => SI.below.cell hp
              simp only at hT
              have HT := hide hT
              have j1 : (0 : Int) ≤ (q : Int) := by omega
              have j2 : (q : Int) < (nw : Int) := by omega
              clear hS hT hx
              go_wp2_with fail
              refine (l2Ok_any vk vt vu va vc vts vs vg _ HSM.out.1 HSM.out.2 ((HT.out.on SI.below).up SI.base)).mono ?_
              rintro e w2 ⟨rfl, hb2⟩
              have S2 := SI.on hb2
              clear SI c3 n3 Q1
              cases hv : verB vk vt vu vts vs vg
              · have HF := hide (HBW.out q _ HY.out hv)
                clear hv
                go_wp2
                go_ret
                exact ⟨ret_bool HF.out.symm, S2.below⟩
              · have HWV1 : Hid (∀ (j : Nat) v, j < q + 1 → ws[j]? = some v → verV v = true) := fun j v hj hy => by
                  by_cases e : j = q
                  · subst e
                    have h1 := HY.out
                    rw [h1] at hy
                    injection hy with hy
                    rw [← hy]
                    exact hv
                  · exact HWV.out j v (by omega) hy
                clear hv
                go_wp2
                exact ⟨⟨q + 1, by omega, by go_num, HWV1, S2⟩, by simp [intOf]; omega⟩
            · have hqn : q = nw := by omega
              subst hqn
              clear hltq
              have HGN := hide (HBG.out HSQ.out hl6 (fun i v hi => HWV.out i v (by have := (List.getElem?_eq_some_iff.1 hi).1; have := HNW.out; omega) hi))
              have HNO1 : Hid (∀ (j : Nat) y, j < k + 1 → ns[j]? = some y → nodeB y = true) := fun j y hj hy => by
                by_cases e : j = k
                · subst e
                  have h1 := HX.out
                  rw [h1] at hy
                  injection hy with hy
                  rw [← hy]
                  exact HGN.out
                · exact HNO.out j y (by omega) hy
              by_cases hk1 : k + 1 < n
              · have hkl1 : k + 1 < ns.length := by have := HN.out; omega
                have HZ := hide (List.getElem?_eq_getElem hkl1)
                generalize ns[k + 1] = md at HZ
                have HMZ := hide (HM.out (k + 1) md HZ.out)
                have HVZ := hide (HCG.out.store (k + 1) md HZ.out)
                have HLB : Hid (stepB ns k = linkB ⟨sa, sc, ss, wa, wc, ws⟩ md) := stepB_mid HX.out HZ.out
                have HSZ : Hid (storeB md.ss = false → chainB ns = false) := fun h => HBAD.out (k + 1) md HZ.out (nodeB_store h)
                have HM0 : Hid (∀ W, Below w.heap.size w W → W.cell? ⟨G, (k + 1) * 2, none⟩ = some (.slice md.sa md.ss.length md.sc) ∧ W.cell? ⟨G, (k + 1) * 2 + 1, none⟩ = some (.slice md.wa md.ws.length md.wc)) := fun W hW => ⟨((HCG.out.on hW).blk.at _).trans (HCG.out.at' (k + 1) md HZ.out).1, ((HCG.out.on hW).blk.at _).trans (HCG.out.at' (k + 1) md HZ.out).2⟩
                have DN : Hid (∀ W, Below w.heap.size w W → Calls Tryz.prog 94 #[.agg #[.slice sa ss.length sc, .slice wa ws.length wc], .agg #[.slice md.sa md.ss.length md.sc, .slice md.wa md.ws.length md.wc]] W fun e w' => e = .returned (.bool (storeB md.ss && linkB ⟨sa, sc, ss, wa, wc, ws⟩ md)) ∧ Below W.heap.size W w') := fun W hW =>
                  l3Next_any ⟨sa, sc, ss, wa, wc, ws⟩ md W HGN.out HMZ.out.1.1 HMZ.out.2.1 ((HV.out.on hW).up hW.size) ((HW.out.on hW).up hW.size) ((HVZ.out.on hW).up hW.size)
                rw [HNW.out] at DN
                have HZF : Hid ((storeB md.ss && linkB ⟨sa, sc, ss, wa, wc, ws⟩ md) = false → chainB ns = false) := fun h => by
                  cases hs : storeB md.ss with
                  | false => exact HSZ.out hs
                  | true =>
                    rw [hs, Bool.true_and] at h
                    exact HSTEP.out k hlt (HLB.out.trans h)
                have HZT : Hid ((storeB md.ss && linkB ⟨sa, sc, ss, wa, wc, ws⟩ md) = true → stepB ns k = true) := fun h => by
                  rw [Bool.and_eq_true] at h
                  exact HLB.out.trans h.2
                generalize (storeB md.ss && linkB ⟨sa, sc, ss, wa, wc, ws⟩ md) = zb at DN HZF HZT
                have k1 : (k : Int) + 1 < (n : Int) := by omega
                have kd : decide ((k : Int) + 1 < (n : Int)) = true := decide_eq_true k1
                have k0 : (0 : Int) ≤ (k : Int) + 1 := by omega
                have kw : IntKind.i64.wrap ((k : Int) + 1) = (k : Int) + 1 := by rw [IntKind.wrap_i64]; omega
                have kt : ((k : Int) + 1).toNat = k + 1 := by omega
                have MV := HSI.out
                clear HSI
                go_wp2_with fail
                refine wp_region_noPanic ?_
                refine wp_region_held_drew (S := (fun w' => w'.cell? ⟨w.heap.size, 0, none⟩ = some (.slice (some ⟨G, 0, none⟩) n c) ∧ (w'.cell? ⟨G, k * 2, none⟩ = some (.slice sa ss.length sc) ∧ w'.cell? ⟨G, k * 2 + 1, none⟩ = some (.slice wa q wc)) ∧ (w'.cell? ⟨G, (k + 1) * 2, none⟩ = some (.slice md.sa md.ss.length md.sc) ∧ w'.cell? ⟨G, (k + 1) * 2 + 1, none⟩ = some (.slice md.wa md.ws.length md.wc)) ∧ Inv w (w.heap.size + 1) [(w.heap.size, 32, #[.slice (some ⟨G, 0, none⟩) n c])] w')) (by kernel_rfl) (by exact ⟨(SI.drew.nth 0 rfl).at 0, ⟨HN0.out _ SI.drew.below, HN1.out _ SI.drew.below⟩, HM0.out _ SI.drew.below, SI.drew⟩) (fun hHeld => ?_)
                refine mvR 0 (some 53) hHeld ?_
                refine mvR 1 (some 54) hHeld ?_
                refine mvR 2 (some 55) hHeld ?_
                refine mvR 3 (some 56) hHeld ?_
                refine mvR 4 (some 57) hHeld ?_
                refine mvR 5 (some 58) hHeld ?_
                refine mvR 6 (some 59) hHeld ?_
                refine mvR 7 (some 60) hHeld ?_
                refine mvR 8 (some 61) hHeld ?_
                refine mvR 9 (some 62) hHeld ?_
                refine mvR 10 (some 63) hHeld ?_
                refine mvR 11 (some 64) hHeld ?_
                refine mvR 12 (some 65) hHeld ?_
                refine mvR 13 (some 66) hHeld ?_
                refine mvR 14 (some 67) hHeld ?_
                refine mvR 15 (some 68) hHeld ?_
                refine mvR 16 (some 69) hHeld ?_
                refine mvR 17 (some 70) hHeld ?_
                refine take_one 18 (by kernel_rfl) rfl (fun K hK => ?_)
                go_simp
                ((with_reducible refine (DN.out _ hHeld.2.2.2.below).mono ?_); rintro e w2 ⟨rfl, hb2⟩)
                try go_wp2_with fail
                refine hK.out _ _ (by exact ⟨((hHeld.2.2.2.on hb2).nth 0 rfl).at 0, ⟨HN0.out _ (hHeld.2.2.2.on hb2).below, HN1.out _ (hHeld.2.2.2.on hb2).below⟩, HM0.out _ (hHeld.2.2.2.on hb2).below, hHeld.2.2.2.on hb2⟩) (fun hHeld => ?_)
                clear hK K
                refine mvR 19 (some 72) hHeld ?_
                refine mvR 20 (some 73) hHeld ?_
                refine wpAnyH_done (by kernel_rfl) ?_ _
                refine NoPanic.normal ?_
                have S2 := hHeld.2.2.2
                clear hHeld SI
                cases hz : zb
                · have HF := hide (HZF.out hz)
                  clear hz
                  go_wp2
                  go_ret
                  exact ⟨ret_bool HF.out.symm, S2.below⟩
                · have HST1 : Hid (∀ j, j < k + 1 → j + 1 < n → stepB ns j = true) := fun j hj hj' => by
                    by_cases e : j = k
                    · rw [e]; exact HZT.out hz
                    · exact HST.out j (by omega) hj'
                  clear hz
                  go_wp2
                  exact ⟨⟨k + 1, by omega, by go_num, HNO1, HST1, S2⟩, by simp [intOf]; omega⟩
              · have HST1 : Hid (∀ j, j < k + 1 → j + 1 < n → stepB ns j = true) := fun j hj hj' => HST.out j (by omega) hj'
                have k1 : ¬ ((k : Int) + 1 < (n : Int)) := by omega
                have kd : decide ((k : Int) + 1 < (n : Int)) = false := decide_eq_false k1
                have kw : IntKind.i64.wrap ((k : Int) + 1) = (k : Int) + 1 := by rw [IntKind.wrap_i64]; omega
                clear HSI
                go_wp2_with fail
                refine wp_region_noPanic ?_
                refine wp_region_held_drew (S := (fun w' => w'.cell? ⟨w.heap.size, 0, none⟩ = some (.slice (some ⟨G, 0, none⟩) n c) ∧ Inv w (w.heap.size + 1) [(w.heap.size, 32, #[.slice (some ⟨G, 0, none⟩) n c])] w')) (by kernel_rfl) (by exact ⟨(SI.drew.nth 0 rfl).at 0, SI.drew⟩) (fun hHeld => ?_)
                refine mvR 0 (some 53) hHeld ?_
                refine mvR 1 (some 54) hHeld ?_
                refine mvR 2 (some 55) hHeld ?_
                refine mvR 3 (some 56) hHeld ?_
                refine mvR 4 (some 57) hHeld ?_
                refine mvR 5 (some 58) hHeld ?_
                refine mvR 6 (some 59) hHeld ?_
                refine mvS 7 (some 60) hHeld ?_
                refine mvS 8 (some 61) hHeld ?_
                refine mvS 9 (some 62) hHeld ?_
                refine mvS 10 (some 63) hHeld ?_
                refine mvS 11 (some 64) hHeld ?_
                refine mvS 12 (some 65) hHeld ?_
                refine mvS 13 (some 66) hHeld ?_
                refine mvS 14 (some 67) hHeld ?_
                refine mvS 15 (some 68) hHeld ?_
                refine mvS 16 (some 69) hHeld ?_
                refine mvS 17 (some 70) hHeld ?_
                refine mvS 18 (some 71) hHeld ?_
                refine mvS 19 (some 72) hHeld ?_
                refine mvR 20 (some 73) hHeld ?_
                refine wpAnyH_done (by kernel_rfl) ?_ _
                refine NoPanic.normal ?_
                have S2 := hHeld.2
                clear hHeld SI
                go_wp2
                exact ⟨⟨k + 1, by omega, by go_num, HNO1, HST1, S2⟩, by simp [intOf]; omega⟩
        · have z6 : ((ws.length : Int) > 6) := by omega
          have HF := hide (HBL.out hl6)
          clear hl6
          go_wp2
          go_ret
          exact ⟨ret_bool HF.out.symm, S1.below⟩
    · have hkn : k = n := by omega
      subst hkn
      clear hlt
      go_wp2_with fail
      refine (l1In_any (k : Int) 1 4 wr).mono ?_
      rintro e w1 ⟨rfl, rfl⟩
      by_cases h14 : 1 ≤ k ∧ k ≤ 4
      · have hd : decide ((1 : Int) ≤ (k : Int) ∧ (k : Int) ≤ 4) = true := decide_eq_true (by omega)
        rw [hd]
        rcases HC.out with h0 | ⟨G, cur, rfl, hC⟩
        · have := HN.out; rw [h0] at this; simp at this; omega
        obtain ⟨p, rfl⟩ : ∃ p, k = p + 1 := ⟨k - 1, by omega⟩
        have hpl : p < ns.length := by have := HN.out; omega
        have HX := hide (List.getElem?_eq_getElem hpl)
        generalize ns[p] = nd at HX
        have n1 : wr.cell? ⟨G, p * 2 + 1, none⟩ = some (.slice nd.wa nd.ws.length nd.wc) := ((hC.on SL.below).blk.at _).trans (hC.at' p nd HX.out).2
        have HF : Hid (chainB ns = ((nd.ws.length : Int) == 0)) := by
          unfold Hid
          have hl := HLAST.out p nd HX.out rfl
          by_cases h0 : nd.ws.length = 0
          · rw [decide_eq_true h0] at hl
            rw [HGOOD.out h14 (fun i y hi => HNO.out i y (by have := (List.getElem?_eq_some_iff.1 hi).1; have := HN.out; omega) hi) (fun i hi => by
              by_cases e : i = p
              · rw [e]; exact hl
              · exact HST.out i hi (by omega)), h0]
            rfl
          · rw [decide_eq_false h0] at hl
            rw [HSTEP.out p (by omega) hl]
            symm
            rw [beq_eq_false_iff_ne]
            omega
        have e1 : ((p + 1 : Nat) : Int) - 1 = (p : Int) := by omega
        have i1 : (0 : Int) ≤ (p : Int) := by omega
        have i2 : (p : Int) < ((p + 1 : Nat) : Int) := by omega
        clear hC hd
        go_wp2
        go_ret
        exact ⟨ret_bool HF.out.symm, SL.below⟩
      · have hd : decide ((1 : Int) ≤ (k : Int) ∧ (k : Int) ≤ 4) = false := decide_eq_false (by omega)
        rw [hd]
        have HF := hide (HNE.out h14)
        clear hd h14
        go_wp2
        go_ret
        exact ⟨ret_bool HF.out.symm, SL.below⟩
end Go.Proofs.YtnaggcdhimcilaaGreat
