/- Contracts of whether two versions, two stores are the same, in the model. Condition: valid ones. -/
import Derived.Test.YtnaggcdhimcilaaGreatJChainOk
import Derived.Test.YtnaggcdhimcilaaGreatJStoreRes
namespace Go.Proofs.YtnaggcdhimcilaaGreat
open Go.RowKit Go.Joins
attribute [local go_sem ↓] Go.wp_at_zero Go.wp_at_succ

theorem verB_gone {k t u : Int} {ts : List (Int × Int)} {s : ByteArray} {g : Bool} (h : verB k t u ts s g = true) (hg : g = true) : s.toList.isEmpty = true := by
  cases hs : s.toList.isEmpty with
  | true => rfl
  | false =>
    rw [verB_f (.inr (.inr (.inr (.inr (.inl ⟨hg, hs⟩)))))] at h
    cases h
theorem text_none {s s' : ByteArray} (h : s.toList.isEmpty = true) (h' : s'.toList.isEmpty = true) : s = s' := by
  rw [List.isEmpty_iff, ByteArray.toList_eq] at h h'
  exact bl_inj (h.trans h'.symm)
theorem pastB_len4 {ts : List (Int × Int)} (h : pastB ts = true) : ts.length = 4 := by
  unfold pastB at h
  rw [Bool.and_eq_true, decide_eq_true_eq] at h
  exact h.1
/-- Valid versions are told apart by how they are written. -/
theorem verS_same {kn tn un kn' tn' un' : Nat} {a a' : Option Addr} {c c' : Nat} {ts ts' : List (Int × Int)} {s s' : ByteArray} {g g' : Bool} (h : verB kn tn un ts s g = true) (h' : verB kn' tn' un' ts' s' g' = true) :
    decide (verS kn tn un ts s g = verS kn' tn' un' ts' s' g') = likeB ⟨kn, tn, un, a, c, ts, s, g⟩ ⟨kn', tn', un', a', c', ts', s', g'⟩ := by
  rw [Bool.eq_iff_iff, decide_eq_true_eq, likeB_iff]
  obtain ⟨_, _, _, h4⟩ := verB_parts h
  obtain ⟨_, _, _, h4'⟩ := verB_parts h'
  have p1 := lowT_past h4
  have p2 := lowT_past h4'
  constructor
  · intro e
    obtain ⟨e1, e2, e3, e4, e5, e6⟩ := verS_inj ((pastB_len4 h4).trans (pastB_len4 h4').symm) (fun x hx => ⟨(p1.2 x hx).1.1, (p1.2 x hx).2.1⟩) (fun x hx => ⟨(p2.2 x hx).1.1, (p2.2 x hx).2.1⟩) e
    refine ⟨by simp only; omega, by simp only; omega, by simp only; omega, e4, ?_, e5⟩
    cases hg : g with
    | false => exact e6 hg
    | true => exact text_none (verB_gone h hg) (verB_gone h' (by rw [← e5]; exact hg))
  · rintro ⟨e1, e2, e3, e4, e5, e6⟩
    simp only at e1 e2 e3 e4 e5 e6
    have e1' : kn = kn' := by omega
    have e2' : tn = tn' := by omega
    have e3' : un = un' := by omega
    rw [e1', e2', e3', e4, e5, e6]
theorem textB_size {s : ByteArray} (h : textB s = true) : s.size ≤ 8 := by
  unfold textB at h
  rw [Bool.and_eq_true, decide_eq_true_eq] at h
  exact h.1
set_option maxRecDepth 100000 in
set_option maxHeartbeats 2000000 in
theorem l2Same_any (k t u : Int) (a : Option Addr) (c : Nat) (ts : List (Int × Int)) (s : ByteArray) (g : Bool) (k' t' u' : Int) (a' : Option Addr) (c' : Nat) (ts' : List (Int × Int)) (s' : ByteArray) (g' : Bool) (w : World) (hb : verB k t u ts s g = true) (hb' : verB k' t' u' ts' s' g' = true) (ht : Tg w w.heap.size a ts) (ht' : Tg w w.heap.size a' ts') :
    Calls Tryz.prog 151 #[.agg (verC k t u a ts.length c s g), .agg (verC k' t' u' a' ts'.length c' s' g')] w fun e w' => e = .returned (.bool (likeB ⟨k, t, u, a, c, ts, s, g⟩ ⟨k', t', u', a', c', ts', s', g'⟩)) ∧ Below w.heap.size w w' := by
  obtain ⟨h1, h2, h3, h4⟩ := verB_parts hb
  obtain ⟨h1', h2', h3', h4'⟩ := verB_parts hb'
  have h5 := okB_i h3
  have h5' := okB_i h3'
  obtain ⟨kn, rfl⟩ := Int.eq_ofNat_of_zero_le h1.1
  obtain ⟨tn, rfl⟩ := Int.eq_ofNat_of_zero_le (show 0 ≤ t by omega)
  obtain ⟨un, rfl⟩ := Int.eq_ofNat_of_zero_le (show 0 ≤ u by omega)
  obtain ⟨kn', rfl⟩ := Int.eq_ofNat_of_zero_le h1'.1
  obtain ⟨tn', rfl⟩ := Int.eq_ofNat_of_zero_le (show 0 ≤ t' by omega)
  obtain ⟨un', rfl⟩ := Int.eq_ofNat_of_zero_le (show 0 ≤ u' by omega)
  have C1 : ∀ W : World, Below w.heap.size w W → Calls Tryz.prog 170 #[.agg (verC (kn : Int) (tn : Int) (un : Int) a ts.length c s g)] W fun e w' => e = .returned (.string (verS kn tn un ts s g)) ∧ Below W.heap.size W w' := fun W hW =>
    l2Put_any kn tn un a c ts s g W (by omega) (by omega) (by omega) (lowT_past h4) (by have := textB_size h2; omega) ((ht.on hW).up hW.size)
  have C2 : ∀ W : World, Below w.heap.size w W → Calls Tryz.prog 170 #[.agg (verC (kn' : Int) (tn' : Int) (un' : Int) a' ts'.length c' s' g')] W fun e w' => e = .returned (.string (verS kn' tn' un' ts' s' g')) ∧ Below W.heap.size W w' := fun W hW =>
    l2Put_any kn' tn' un' a' c' ts' s' g' W (by omega) (by omega) (by omega) (lowT_past h4') (by have := textB_size h2'; omega) ((ht'.on hW).up hW.size)
  have HE := hide (verS_same (a := a) (a' := a') (c := c) (c' := c') hb hb')
  have D1 := hide C1
  have D2 := hide C2
  clear C1 C2 hb hb' ht ht' h1 h2 h3 h4 h5 h1' h2' h3' h4' h5'
  generalize verS kn tn un ts s g = x at D1 HE
  generalize verS kn' tn' un' ts' s' g' = y at D2 HE
  have hse := str_same x y
  have S0 := ((Inv.start w).box 96 (verC (kn : Int) (tn : Int) (un : Int) a ts.length c s g)).box 96 (verC (kn' : Int) (tn' : Int) (un' : Int) a' ts'.length c' s' g')
  simp only [World.size_alloc] at S0
  go_enter Tryz.func151, Tryz.ntmps151
  go_wp2_with fail
  generalize (w.alloc (.cells (verC (kn : Int) (tn : Int) (un : Int) a ts.length c s g) 96)).alloc (.cells (verC (kn' : Int) (tn' : Int) (un' : Int) a' ts'.length c' s' g') 96) = W0 at S0 ⊢
  refine wp_region_noPanic ?_
  refine wp_region_held_drew (S := (fun w' => Six w' w.heap.size 0 ⟨(kn : Int), (tn : Int), (un : Int), a, c, ts, s, g⟩ ∧ Six w' (w.heap.size + 1) 0 ⟨(kn' : Int), (tn' : Int), (un' : Int), a', c', ts', s', g'⟩ ∧ Inv w (w.heap.size + 1 + 1) [(w.heap.size + 1, 96, (verC (kn' : Int) (tn' : Int) (un' : Int) a' ts'.length c' s' g')), (w.heap.size, 96, (verC (kn : Int) (tn : Int) (un : Int) a ts.length c s g))] w')) (by kernel_rfl) (by exact ⟨(S0.drew.nth 1 rfl).six.1, (S0.drew.nth 0 rfl).six.1, S0.drew⟩) (fun hHeld => ?_)
  refine take_run 0 (some 5) (v := ?_) rfl rfl (by kernel_rfl) (by kernel_rfl) (by kernel_rfl) (fun _ _ _ h => h) (by rfl) ?_ hHeld ?_
  rotate_left
  · ((intro w hSw); (try dsimp only at hSw); go_simp <;> with_reducible rfl)
  simp only [Act.put, List.setIfInBounds_toArray, List.set_cons_zero, List.set_cons_succ]
  refine take_run 2 (some 7) (v := ?_) rfl rfl (by kernel_rfl) (by kernel_rfl) (by kernel_rfl) (fun _ _ _ h => h) (by rfl) ?_ hHeld ?_
  rotate_left
  · ((intro w hSw); (try dsimp only at hSw); go_simp <;> with_reducible rfl)
  simp only [Act.put, List.setIfInBounds_toArray, List.set_cons_zero, List.set_cons_succ]
  refine take_one 1 (by kernel_rfl) rfl (fun K hK => ?_)
  go_simp
  ((with_reducible refine (D1.out _ hHeld.2.2.below).mono ?_); rintro e w1 ⟨rfl, hb⟩)
  try go_wp2_with fail
  refine hK.out _ _ (by exact ⟨((hHeld.2.2.on hb).nth 1 rfl).six.1, ((hHeld.2.2.on hb).nth 0 rfl).six.1, hHeld.2.2.on hb⟩) (fun hHeld => ?_)
  clear hK K
  refine take_one 3 (by kernel_rfl) rfl (fun K hK => ?_)
  go_simp
  ((with_reducible refine (D2.out _ hHeld.2.2.below).mono ?_); rintro e w2 ⟨rfl, hb⟩)
  try go_wp2_with fail
  refine hK.out _ _ (by exact ⟨((hHeld.2.2.on hb).nth 1 rfl).six.1, ((hHeld.2.2.on hb).nth 0 rfl).six.1, hHeld.2.2.on hb⟩) (fun hHeld => ?_)
  clear hK K
  refine take_run 4 (some 9) (v := ?_) rfl rfl (by kernel_rfl) (by kernel_rfl) (by kernel_rfl) (fun _ _ _ h => h) (by rfl) ?_ hHeld ?_
  rotate_left
  · ((intro w hSw); (try dsimp only at hSw); go_simp <;> with_reducible rfl)
  simp only [Act.put, List.setIfInBounds_toArray, List.set_cons_zero, List.set_cons_succ]
  refine take_run 5 (some 4) (v := ?_) rfl rfl (by kernel_rfl) (by kernel_rfl) (by kernel_rfl) (fun _ _ _ h => h) (by rfl) ?_ hHeld ?_
  rotate_left
  · ((intro w hSw); (try dsimp only at hSw); go_simp <;> with_reducible rfl)
  simp only [Act.put, List.setIfInBounds_toArray, List.set_cons_zero, List.set_cons_succ]
  refine wpAnyH_done (by kernel_rfl) ?_ _
  refine NoPanic.normal ?_
  have S1 := hHeld.2.2
  clear hHeld S0
  go_wp2
  go_ret
  exact ⟨ret_bool HE.out, S1.below⟩
theorem tagNe_yes {a b t u : Int} (h : eqB a b t u = false) (W : World) : (binOp .neq 91 (.agg #[.int .i64 a, .int .i64 b]) (.agg #[.int .i64 t, .int .i64 u])).run Tryz.prog W = .ok (.bool true) W := by
  rw [tagNe_at, h]
  rfl
theorem tagNe_no {a b t u : Int} (h : eqB a b t u = true) (W : World) : (binOp .neq 91 (.agg #[.int .i64 a, .int .i64 b]) (.agg #[.int .i64 t, .int .i64 u])).run Tryz.prog W = .ok (.bool false) W := by
  rw [tagNe_at, h]
  rfl
theorem storeB_slot {vs : List V} {i : Nat} {v : V} (h : storeB vs = true) (hi : vs[i]? = some v) : slotB i v = true := by
  cases hs : slotB i v with
  | true => rfl
  | false =>
    rw [storeB_bad hi hs] at h
    cases h
theorem slot_none {i : Nat} {v : V} (h : slotB i v = true) (ht : v.t = 0) : noneC v.k v.t v.u v.ts.length v.s v.g = true := by
  cases hn : noneC v.k v.t v.u v.ts.length v.s v.g with
  | true => rfl
  | false =>
    rw [slotB_bad hn (verB_f (.inr (.inr (.inr (.inl ht)))))] at h
    cases h
theorem slot_ver {i : Nat} {v : V} (h : slotB i v = true) (ht : ¬ v.t = 0) : verV v = true := by
  cases hn : verV v with
  | true => rfl
  | false =>
    rw [slotB_bad (noneC_f (.inr (.inl (fun e => ht e.1)))) hn] at h
    cases h
theorem none_like {v v' : V} (h : noneC v.k v.t v.u v.ts.length v.s v.g = true) (h' : noneC v'.k v'.t v'.u v'.ts.length v'.s v'.g = true) : V.like v v' := by
  unfold noneC at h h'
  simp only [Bool.and_eq_true, decide_eq_true_eq, Bool.not_eq_true'] at h h'
  obtain ⟨⟨⟨⟨h1, h2, h3⟩, h4⟩, h5⟩, h6⟩ := h
  obtain ⟨⟨⟨⟨k1, k2, k3⟩, k4⟩, k5⟩, k6⟩ := h'
  exact ⟨h1.trans k1.symm, h2.trans k2.symm, h3.trans k3.symm, (List.length_eq_zero_iff.1 h4).trans (List.length_eq_zero_iff.1 k4).symm, text_none h5 k5, h6.trans k6.symm⟩
set_option maxRecDepth 100000 in
set_option maxHeartbeats 4000000 in
theorem l3SameStore_any (a a' : Option Addr) (c c' : Nat) (us vs : List V) (w : World) (hu : storeB us = true) (hv : storeB vs = true) (gu : Vg w w.heap.size a us) (gv : Vg w w.heap.size a' vs) :
    Calls Tryz.prog 126 #[.agg #[.slice a 4 c], .agg #[.slice a' 4 c']] w fun e w' => e = .returned (.bool (likesB us vs)) ∧ Below w.heap.size w w' := by
  have HU4 := hide (storeB_four hu)
  have HV4 := hide (storeB_four hv)
  have HU := hide hu
  have HV := hide hv
  clear hu hv
  rcases gu with h0 | ⟨b, off, rfl, hb, hx⟩
  · have := HU4.out; rw [h0] at this; simp at this
  rcases gv with h0 | ⟨b', off', rfl, hb', hy⟩
  · have := HV4.out; rw [h0] at this; simp at this
  have HX := hide hx
  have HY := hide hy
  clear hx hy
  have S0 := ((Inv.start w).box 88 #[.slice (some ⟨b, off, none⟩) 4 c]).box 88 #[.slice (some ⟨b', off', none⟩) 4 c']
  simp only [World.size_alloc] at S0
  go_enter Tryz.func126, Tryz.ntmps126
  go_wp2
  generalize (w.alloc (.cells #[.slice (some ⟨b, off, none⟩) 4 c] 88)).alloc (.cells #[.slice (some ⟨b', off', none⟩) 4 c'] 88) = W0 at S0 ⊢
  go_loopw [5] (fun i wr => ∃ k : Nat, k ≤ 4 ∧ i = .int .i64 (k : Int) ∧ Hid (∀ (j : Nat) x y, j < k → us[j]? = some x → vs[j]? = some y → V.like x y) ∧ Inv w (w.heap.size + 1 + 1) [(w.heap.size + 1, 88, #[.slice (some ⟨b', off', none⟩) 4 c']), (w.heap.size, 88, #[.slice (some ⟨b, off, none⟩) 4 c])] wr) (fun i _ => 4 - (intOf i).toNat)
  case atStart => exact ⟨0, by omega, rfl, fun j x y hj => absurd hj (by omega), S0⟩
  case round =>
    obtain ⟨k, hk, rfl, heq, SL⟩ := hrel
    by_cases hlt : k < 4
    · have hkl : k < us.length := by have := HU4.out; omega
      have hkl' : k < vs.length := by have := HV4.out; omega
      obtain ⟨hS, hT⟩ := HX.out k _ (List.getElem?_eq_getElem hkl)
      obtain ⟨hS2, hT2⟩ := HY.out k _ (List.getElem?_eq_getElem hkl')
      have HI := hide (List.getElem?_eq_getElem hkl)
      have HJ := hide (List.getElem?_eq_getElem hkl')
      generalize us[k] = x at hS hT HI
      generalize vs[k] = y at hS2 hT2 HJ
      have HSX := hide (storeB_slot HU.out HI.out)
      have HSY := hide (storeB_slot HV.out HJ.out)
      obtain ⟨xk, xt, xu, xa, xc, xts, xs, xg⟩ := x
      obtain ⟨yk, yt, yu, ya, yc, yts, ys, yg⟩ := y
      have Q1 := hide hS
      have Q2 := hide hS2
      simp only at hT hT2
      have HT := hide hT
      have HT2 := hide hT2
      clear hS hS2 hT hT2
      have i1 : (0 : Int) ≤ (k : Int) := by omega
      have i2 : (k : Int) < 4 := by omega
      have HNX : Hid (V.like ⟨xk, xt, xu, xa, xc, xts, xs, xg⟩ ⟨yk, yt, yu, ya, yc, yts, ys, yg⟩ → ∀ (j : Nat) x y, j < k + 1 → us[j]? = some x → vs[j]? = some y → V.like x y) := fun hl j x y hj hx hy => by
        by_cases e : j = k
        · subst e
          have h1 := HI.out
          have h2 := HJ.out
          rw [h1] at hx
          rw [h2] at hy
          injection hx with hx
          injection hy with hy
          rw [← hx, ← hy]
          exact hl
        · exact heq.out j x y (by omega) hx hy
      have HNO : Hid (likeB ⟨xk, xt, xu, xa, xc, xts, xs, xg⟩ ⟨yk, yt, yu, ya, yc, yts, ys, yg⟩ = false → likesB us vs = false) := fun h => likesB_no HI.out HJ.out h
      cases hq : eqB xt xu yt yu
      · have hne := tagNe_yes hq
        have HF := hide (HNO.out (by unfold likeB; simp [hq]))
        clear hq
        · go_wp2_with fail
          refine wp_region_noPanic ?_
          refine wp_region_held_drew (S := (fun w' => Six w' b (off + k * 6) ⟨xk, xt, xu, xa, xc, xts, xs, xg⟩ ∧ Six w' b' (off' + k * 6) ⟨yk, yt, yu, ya, yc, yts, ys, yg⟩ ∧ w'.cell? ⟨w.heap.size, 0, none⟩ = some (.slice (some ⟨b, off, none⟩) 4 c) ∧ w'.cell? ⟨w.heap.size + 1, 0, none⟩ = some (.slice (some ⟨b', off', none⟩) 4 c') ∧ Inv w (w.heap.size + 1 + 1) [(w.heap.size + 1, 88, #[.slice (some ⟨b', off', none⟩) 4 c']), (w.heap.size, 88, #[.slice (some ⟨b, off, none⟩) 4 c])] w')) (by kernel_rfl) (by exact ⟨Q1.out.keep hb fun _ hp => SL.drew.below.cell hp, Q2.out.keep hb' fun _ hp => SL.drew.below.cell hp, (SL.drew.nth 1 rfl).at 0, (SL.drew.nth 0 rfl).at 0, SL.drew⟩) (fun hHeld => ?_)
          refine take_run 0 (some 10) (v := ?_) rfl rfl (by kernel_rfl) (by kernel_rfl) (by kernel_rfl) (fun _ _ _ h => h) (by rfl) ?_ hHeld ?_
          rotate_left
          · ((intro w hSw); (try dsimp only at hSw); go_simp <;> with_reducible rfl)
          simp only [Act.put, List.setIfInBounds_toArray, List.set_cons_zero, List.set_cons_succ]
          refine take_run 1 (some 11) (v := ?_) rfl rfl (by kernel_rfl) (by kernel_rfl) (by kernel_rfl) (fun _ _ _ h => h) (by rfl) ?_ hHeld ?_
          rotate_left
          · ((intro w hSw); (try dsimp only at hSw); go_simp <;> with_reducible rfl)
          simp only [Act.put, List.setIfInBounds_toArray, List.set_cons_zero, List.set_cons_succ]
          refine take_run 2 (some 12) (v := ?_) rfl rfl (by kernel_rfl) (by kernel_rfl) (by kernel_rfl) (fun _ _ _ h => h) (by rfl) ?_ hHeld ?_
          rotate_left
          · ((intro w hSw); (try dsimp only at hSw); go_simp <;> with_reducible rfl)
          simp only [Act.put, List.setIfInBounds_toArray, List.set_cons_zero, List.set_cons_succ]
          refine take_run 3 (some 13) (v := ?_) rfl rfl (by kernel_rfl) (by kernel_rfl) (by kernel_rfl) (fun _ _ _ h => h) (by rfl) ?_ hHeld ?_
          rotate_left
          · ((intro w hSw); (try dsimp only at hSw); go_simp <;> with_reducible rfl)
          simp only [Act.put, List.setIfInBounds_toArray, List.set_cons_zero, List.set_cons_succ]
          refine take_run 4 (some 14) (v := ?_) rfl rfl (by kernel_rfl) (by kernel_rfl) (by kernel_rfl) (fun _ _ _ h => h) (by rfl) ?_ hHeld ?_
          rotate_left
          · ((intro w hSw); (try dsimp only at hSw); go_simp <;> with_reducible rfl)
          simp only [Act.put, List.setIfInBounds_toArray, List.set_cons_zero, List.set_cons_succ]
          refine take_run 5 (some 15) (v := ?_) rfl rfl (by kernel_rfl) (by kernel_rfl) (by kernel_rfl) (fun _ _ _ h => h) (by rfl) ?_ hHeld ?_
          rotate_left
          · ((intro w hSw); (try dsimp only at hSw); go_simp <;> with_reducible rfl)
          simp only [Act.put, List.setIfInBounds_toArray, List.set_cons_zero, List.set_cons_succ]
          refine take_run 6 (some 16) (v := ?_) rfl rfl (by kernel_rfl) (by kernel_rfl) (by kernel_rfl) (fun _ _ _ h => h) (by rfl) ?_ hHeld ?_
          rotate_left
          · ((intro w hSw); (try dsimp only at hSw); go_simp <;> with_reducible rfl)
          simp only [Act.put, List.setIfInBounds_toArray, List.set_cons_zero, List.set_cons_succ]
          refine take_run 7 (some 17) (v := ?_) rfl rfl (by kernel_rfl) (by kernel_rfl) (by kernel_rfl) (fun _ _ _ h => h) (by rfl) ?_ hHeld ?_
          rotate_left
          · ((intro w hSw); (try dsimp only at hSw); go_simp <;> with_reducible rfl)
          simp only [Act.put, List.setIfInBounds_toArray, List.set_cons_zero, List.set_cons_succ]
          refine take_run 8 (some 18) (v := ?_) rfl rfl (by kernel_rfl) (by kernel_rfl) (by kernel_rfl) (fun _ _ _ h => h) (by rfl) ?_ hHeld ?_
          rotate_left
          · ((intro w hSw); (try dsimp only at hSw); go_simp <;> with_reducible rfl)
          simp only [Act.put, List.setIfInBounds_toArray, List.set_cons_zero, List.set_cons_succ]
          refine take_run 9 (some 19) (v := ?_) rfl rfl (by kernel_rfl) (by kernel_rfl) (by kernel_rfl) (fun _ _ _ h => h) (by rfl) ?_ hHeld ?_
          rotate_left
          · ((intro w hSw); (try dsimp only at hSw); go_simp <;> with_reducible rfl)
          simp only [Act.put, List.setIfInBounds_toArray, List.set_cons_zero, List.set_cons_succ]
          refine take_run 10 (some 20) (v := ?_) rfl rfl (by kernel_rfl) (by kernel_rfl) (by kernel_rfl) (fun _ _ _ h => h) (by rfl) ?_ hHeld ?_
          rotate_left
          · ((intro w hSw); (try dsimp only at hSw); go_simp <;> with_reducible rfl)
          simp only [Act.put, List.setIfInBounds_toArray, List.set_cons_zero, List.set_cons_succ]
          refine take_run 11 (some 21) (v := ?_) rfl rfl (by kernel_rfl) (by kernel_rfl) (by kernel_rfl) (fun _ _ _ h => h) (by rfl) ?_ hHeld ?_
          rotate_left
          · ((intro w hSw); (try dsimp only at hSw); go_simp <;> with_reducible rfl)
          simp only [Act.put, List.setIfInBounds_toArray, List.set_cons_zero, List.set_cons_succ]
          refine take_run 12 (some 22) (v := ?_) rfl rfl (by kernel_rfl) (by kernel_rfl) (by kernel_rfl) (fun _ _ _ h => h) (by rfl) ?_ hHeld ?_
          rotate_left
          · ((intro w hSw); (try dsimp only at hSw); go_simp <;> with_reducible rfl)
          simp only [Act.put, List.setIfInBounds_toArray, List.set_cons_zero, List.set_cons_succ]
          refine take_run 13 (some 23) (v := ?_) rfl rfl (by kernel_rfl) (by kernel_rfl) (by kernel_rfl) (fun _ _ _ h => h) (by rfl) ?_ hHeld ?_
          rotate_left
          · ((intro w hSw); (try dsimp only at hSw); go_simp <;> with_reducible rfl)
          simp only [Act.put, List.setIfInBounds_toArray, List.set_cons_zero, List.set_cons_succ]
          refine take_skip 14 (some 24) rfl rfl (by kernel_rfl) (by kernel_rfl) (by kernel_rfl) (fun _ _ _ h => h) (by rfl) hHeld ?_
          simp only [Act.put, List.setIfInBounds_toArray, List.set_cons_zero, List.set_cons_succ]
          refine take_skip 15 (some 25) rfl rfl (by kernel_rfl) (by kernel_rfl) (by kernel_rfl) (fun _ _ _ h => h) (by rfl) hHeld ?_
          simp only [Act.put, List.setIfInBounds_toArray, List.set_cons_zero, List.set_cons_succ]
          refine take_skip 16 (some 26) rfl rfl (by kernel_rfl) (by kernel_rfl) (by kernel_rfl) (fun _ _ _ h => h) (by rfl) hHeld ?_
          simp only [Act.put, List.setIfInBounds_toArray, List.set_cons_zero, List.set_cons_succ]
          refine take_skip 17 (some 27) rfl rfl (by kernel_rfl) (by kernel_rfl) (by kernel_rfl) (fun _ _ _ h => h) (by rfl) hHeld ?_
          simp only [Act.put, List.setIfInBounds_toArray, List.set_cons_zero, List.set_cons_succ]
          refine take_skip 18 (some 28) rfl rfl (by kernel_rfl) (by kernel_rfl) (by kernel_rfl) (fun _ _ _ h => h) (by rfl) hHeld ?_
          simp only [Act.put, List.setIfInBounds_toArray, List.set_cons_zero, List.set_cons_succ]
          refine take_skip 19 (some 29) rfl rfl (by kernel_rfl) (by kernel_rfl) (by kernel_rfl) (fun _ _ _ h => h) (by rfl) hHeld ?_
          simp only [Act.put, List.setIfInBounds_toArray, List.set_cons_zero, List.set_cons_succ]
          refine take_skip 20 (some 30) rfl rfl (by kernel_rfl) (by kernel_rfl) (by kernel_rfl) (fun _ _ _ h => h) (by rfl) hHeld ?_
          simp only [Act.put, List.setIfInBounds_toArray, List.set_cons_zero, List.set_cons_succ]
          refine take_skip 21 (some 31) rfl rfl (by kernel_rfl) (by kernel_rfl) (by kernel_rfl) (fun _ _ _ h => h) (by rfl) hHeld ?_
          simp only [Act.put, List.setIfInBounds_toArray, List.set_cons_zero, List.set_cons_succ]
          refine take_skip 22 (some 32) rfl rfl (by kernel_rfl) (by kernel_rfl) (by kernel_rfl) (fun _ _ _ h => h) (by rfl) hHeld ?_
          simp only [Act.put, List.setIfInBounds_toArray, List.set_cons_zero, List.set_cons_succ]
          refine take_skip 23 (some 33) rfl rfl (by kernel_rfl) (by kernel_rfl) (by kernel_rfl) (fun _ _ _ h => h) (by rfl) hHeld ?_
          simp only [Act.put, List.setIfInBounds_toArray, List.set_cons_zero, List.set_cons_succ]
          refine take_skip 24 (some 34) rfl rfl (by kernel_rfl) (by kernel_rfl) (by kernel_rfl) (fun _ _ _ h => h) (by rfl) hHeld ?_
          simp only [Act.put, List.setIfInBounds_toArray, List.set_cons_zero, List.set_cons_succ]
          refine take_skip 25 (some 35) rfl rfl (by kernel_rfl) (by kernel_rfl) (by kernel_rfl) (fun _ _ _ h => h) (by rfl) hHeld ?_
          simp only [Act.put, List.setIfInBounds_toArray, List.set_cons_zero, List.set_cons_succ]
          refine take_skip 26 (some 36) rfl rfl (by kernel_rfl) (by kernel_rfl) (by kernel_rfl) (fun _ _ _ h => h) (by rfl) hHeld ?_
          simp only [Act.put, List.setIfInBounds_toArray, List.set_cons_zero, List.set_cons_succ]
          refine take_skip 27 (some 37) rfl rfl (by kernel_rfl) (by kernel_rfl) (by kernel_rfl) (fun _ _ _ h => h) (by rfl) hHeld ?_
          simp only [Act.put, List.setIfInBounds_toArray, List.set_cons_zero, List.set_cons_succ]
          refine take_skip 28 (some 38) rfl rfl (by kernel_rfl) (by kernel_rfl) (by kernel_rfl) (fun _ _ _ h => h) (by rfl) hHeld ?_
          simp only [Act.put, List.setIfInBounds_toArray, List.set_cons_zero, List.set_cons_succ]
          refine take_skip 29 (some 39) rfl rfl (by kernel_rfl) (by kernel_rfl) (by kernel_rfl) (fun _ _ _ h => h) (by rfl) hHeld ?_
          simp only [Act.put, List.setIfInBounds_toArray, List.set_cons_zero, List.set_cons_succ]
          refine take_skip 30 (some 40) rfl rfl (by kernel_rfl) (by kernel_rfl) (by kernel_rfl) (fun _ _ _ h => h) (by rfl) hHeld ?_
          simp only [Act.put, List.setIfInBounds_toArray, List.set_cons_zero, List.set_cons_succ]
          refine take_skip 31 (some 41) rfl rfl (by kernel_rfl) (by kernel_rfl) (by kernel_rfl) (fun _ _ _ h => h) (by rfl) hHeld ?_
          simp only [Act.put, List.setIfInBounds_toArray, List.set_cons_zero, List.set_cons_succ]
          refine take_skip 32 (some 42) rfl rfl (by kernel_rfl) (by kernel_rfl) (by kernel_rfl) (fun _ _ _ h => h) (by rfl) hHeld ?_
          simp only [Act.put, List.setIfInBounds_toArray, List.set_cons_zero, List.set_cons_succ]
          refine take_skip 33 (some 43) rfl rfl (by kernel_rfl) (by kernel_rfl) (by kernel_rfl) (fun _ _ _ h => h) (by rfl) hHeld ?_
          simp only [Act.put, List.setIfInBounds_toArray, List.set_cons_zero, List.set_cons_succ]
          refine take_skip 34 (some 44) rfl rfl (by kernel_rfl) (by kernel_rfl) (by kernel_rfl) (fun _ _ _ h => h) (by rfl) hHeld ?_
          simp only [Act.put, List.setIfInBounds_toArray, List.set_cons_zero, List.set_cons_succ]
          refine take_skip 35 (some 45) rfl rfl (by kernel_rfl) (by kernel_rfl) (by kernel_rfl) (fun _ _ _ h => h) (by rfl) hHeld ?_
          simp only [Act.put, List.setIfInBounds_toArray, List.set_cons_zero, List.set_cons_succ]
          refine take_run 36 (some 46) (v := ?_) rfl rfl (by kernel_rfl) (by kernel_rfl) (by kernel_rfl) (fun _ _ _ h => h) (by rfl) ?_ hHeld ?_
          rotate_left
          · ((intro w hSw); (try dsimp only at hSw); go_simp <;> with_reducible rfl)
          simp only [Act.put, List.setIfInBounds_toArray, List.set_cons_zero, List.set_cons_succ]
          refine wpAnyH_done (by kernel_rfl) ?_ _
          refine NoPanic.normal ?_
          have S1 := hHeld.2.2.2.2
          clear hHeld
          go_wp2
          go_ret
          exact ⟨ret_bool HF.out.symm, S1.below⟩
      · have hne := tagNe_no hq
        have HQ := hide hq
        clear hq
        by_cases h0 : xt = 0
        · have HL : Hid (V.like ⟨xk, xt, xu, xa, xc, xts, xs, xg⟩ ⟨yk, yt, yu, ya, yc, yts, ys, yg⟩) := by
            have he : xt = yt ∧ xu = yu := by have := HQ.out; unfold eqB at this; simpa using this
            exact none_like (slot_none HSX.out h0) (slot_none HSY.out (he.1.symm.trans h0))
          have HNEW := hide (HNX.out HL.out)
          have hgt : decide (0 < xt) = false := decide_eq_false (by omega)
          clear h0
          go_wp2_with fail
          refine wp_region_noPanic ?_
          refine wp_region_held_drew (S := (fun w' => Six w' b (off + k * 6) ⟨xk, xt, xu, xa, xc, xts, xs, xg⟩ ∧ Six w' b' (off' + k * 6) ⟨yk, yt, yu, ya, yc, yts, ys, yg⟩ ∧ w'.cell? ⟨w.heap.size, 0, none⟩ = some (.slice (some ⟨b, off, none⟩) 4 c) ∧ w'.cell? ⟨w.heap.size + 1, 0, none⟩ = some (.slice (some ⟨b', off', none⟩) 4 c') ∧ Inv w (w.heap.size + 1 + 1) [(w.heap.size + 1, 88, #[.slice (some ⟨b', off', none⟩) 4 c']), (w.heap.size, 88, #[.slice (some ⟨b, off, none⟩) 4 c])] w')) (by kernel_rfl) (by exact ⟨Q1.out.keep hb fun _ hp => SL.drew.below.cell hp, Q2.out.keep hb' fun _ hp => SL.drew.below.cell hp, (SL.drew.nth 1 rfl).at 0, (SL.drew.nth 0 rfl).at 0, SL.drew⟩) (fun hHeld => ?_)
          refine take_run 0 (some 10) (v := ?_) rfl rfl (by kernel_rfl) (by kernel_rfl) (by kernel_rfl) (fun _ _ _ h => h) (by rfl) ?_ hHeld ?_
          rotate_left
          · ((intro w hSw); (try dsimp only at hSw); go_simp <;> with_reducible rfl)
          simp only [Act.put, List.setIfInBounds_toArray, List.set_cons_zero, List.set_cons_succ]
          refine take_run 1 (some 11) (v := ?_) rfl rfl (by kernel_rfl) (by kernel_rfl) (by kernel_rfl) (fun _ _ _ h => h) (by rfl) ?_ hHeld ?_
          rotate_left
          · ((intro w hSw); (try dsimp only at hSw); go_simp <;> with_reducible rfl)
          simp only [Act.put, List.setIfInBounds_toArray, List.set_cons_zero, List.set_cons_succ]
          refine take_run 2 (some 12) (v := ?_) rfl rfl (by kernel_rfl) (by kernel_rfl) (by kernel_rfl) (fun _ _ _ h => h) (by rfl) ?_ hHeld ?_
          rotate_left
          · ((intro w hSw); (try dsimp only at hSw); go_simp <;> with_reducible rfl)
          simp only [Act.put, List.setIfInBounds_toArray, List.set_cons_zero, List.set_cons_succ]
          refine take_run 3 (some 13) (v := ?_) rfl rfl (by kernel_rfl) (by kernel_rfl) (by kernel_rfl) (fun _ _ _ h => h) (by rfl) ?_ hHeld ?_
          rotate_left
          · ((intro w hSw); (try dsimp only at hSw); go_simp <;> with_reducible rfl)
          simp only [Act.put, List.setIfInBounds_toArray, List.set_cons_zero, List.set_cons_succ]
          refine take_run 4 (some 14) (v := ?_) rfl rfl (by kernel_rfl) (by kernel_rfl) (by kernel_rfl) (fun _ _ _ h => h) (by rfl) ?_ hHeld ?_
          rotate_left
          · ((intro w hSw); (try dsimp only at hSw); go_simp <;> with_reducible rfl)
          simp only [Act.put, List.setIfInBounds_toArray, List.set_cons_zero, List.set_cons_succ]
          refine take_run 5 (some 15) (v := ?_) rfl rfl (by kernel_rfl) (by kernel_rfl) (by kernel_rfl) (fun _ _ _ h => h) (by rfl) ?_ hHeld ?_
          rotate_left
          · ((intro w hSw); (try dsimp only at hSw); go_simp <;> with_reducible rfl)
          simp only [Act.put, List.setIfInBounds_toArray, List.set_cons_zero, List.set_cons_succ]
          refine take_run 6 (some 16) (v := ?_) rfl rfl (by kernel_rfl) (by kernel_rfl) (by kernel_rfl) (fun _ _ _ h => h) (by rfl) ?_ hHeld ?_
          rotate_left
          · ((intro w hSw); (try dsimp only at hSw); go_simp <;> with_reducible rfl)
          simp only [Act.put, List.setIfInBounds_toArray, List.set_cons_zero, List.set_cons_succ]
          refine take_run 7 (some 17) (v := ?_) rfl rfl (by kernel_rfl) (by kernel_rfl) (by kernel_rfl) (fun _ _ _ h => h) (by rfl) ?_ hHeld ?_
          rotate_left
          · ((intro w hSw); (try dsimp only at hSw); go_simp <;> with_reducible rfl)
          simp only [Act.put, List.setIfInBounds_toArray, List.set_cons_zero, List.set_cons_succ]
          refine take_run 8 (some 18) (v := ?_) rfl rfl (by kernel_rfl) (by kernel_rfl) (by kernel_rfl) (fun _ _ _ h => h) (by rfl) ?_ hHeld ?_
          rotate_left
          · ((intro w hSw); (try dsimp only at hSw); go_simp <;> with_reducible rfl)
          simp only [Act.put, List.setIfInBounds_toArray, List.set_cons_zero, List.set_cons_succ]
          refine take_run 9 (some 19) (v := ?_) rfl rfl (by kernel_rfl) (by kernel_rfl) (by kernel_rfl) (fun _ _ _ h => h) (by rfl) ?_ hHeld ?_
          rotate_left
          · ((intro w hSw); (try dsimp only at hSw); go_simp <;> with_reducible rfl)
          simp only [Act.put, List.setIfInBounds_toArray, List.set_cons_zero, List.set_cons_succ]
          refine take_run 10 (some 20) (v := ?_) rfl rfl (by kernel_rfl) (by kernel_rfl) (by kernel_rfl) (fun _ _ _ h => h) (by rfl) ?_ hHeld ?_
          rotate_left
          · ((intro w hSw); (try dsimp only at hSw); go_simp <;> with_reducible rfl)
          simp only [Act.put, List.setIfInBounds_toArray, List.set_cons_zero, List.set_cons_succ]
          refine take_run 11 (some 21) (v := ?_) rfl rfl (by kernel_rfl) (by kernel_rfl) (by kernel_rfl) (fun _ _ _ h => h) (by rfl) ?_ hHeld ?_
          rotate_left
          · ((intro w hSw); (try dsimp only at hSw); go_simp <;> with_reducible rfl)
          simp only [Act.put, List.setIfInBounds_toArray, List.set_cons_zero, List.set_cons_succ]
          refine take_run 12 (some 22) (v := ?_) rfl rfl (by kernel_rfl) (by kernel_rfl) (by kernel_rfl) (fun _ _ _ h => h) (by rfl) ?_ hHeld ?_
          rotate_left
          · ((intro w hSw); (try dsimp only at hSw); go_simp <;> with_reducible rfl)
          simp only [Act.put, List.setIfInBounds_toArray, List.set_cons_zero, List.set_cons_succ]
          refine take_run 13 (some 23) (v := ?_) rfl rfl (by kernel_rfl) (by kernel_rfl) (by kernel_rfl) (fun _ _ _ h => h) (by rfl) ?_ hHeld ?_
          rotate_left
          · ((intro w hSw); (try dsimp only at hSw); go_simp <;> with_reducible rfl)
          simp only [Act.put, List.setIfInBounds_toArray, List.set_cons_zero, List.set_cons_succ]
          refine take_run 14 (some 24) (v := ?_) rfl rfl (by kernel_rfl) (by kernel_rfl) (by kernel_rfl) (fun _ _ _ h => h) (by rfl) ?_ hHeld ?_
          rotate_left
          · ((intro w hSw); (try dsimp only at hSw); go_simp <;> with_reducible rfl)
          simp only [Act.put, List.setIfInBounds_toArray, List.set_cons_zero, List.set_cons_succ]
          refine take_run 15 (some 25) (v := ?_) rfl rfl (by kernel_rfl) (by kernel_rfl) (by kernel_rfl) (fun _ _ _ h => h) (by rfl) ?_ hHeld ?_
          rotate_left
          · ((intro w hSw); (try dsimp only at hSw); go_simp <;> with_reducible rfl)
          simp only [Act.put, List.setIfInBounds_toArray, List.set_cons_zero, List.set_cons_succ]
          refine take_run 16 (some 26) (v := ?_) rfl rfl (by kernel_rfl) (by kernel_rfl) (by kernel_rfl) (fun _ _ _ h => h) (by rfl) ?_ hHeld ?_
          rotate_left
          · ((intro w hSw); (try dsimp only at hSw); go_simp <;> with_reducible rfl)
          simp only [Act.put, List.setIfInBounds_toArray, List.set_cons_zero, List.set_cons_succ]
          refine take_run 17 (some 27) (v := ?_) rfl rfl (by kernel_rfl) (by kernel_rfl) (by kernel_rfl) (fun _ _ _ h => h) (by rfl) ?_ hHeld ?_
          rotate_left
          · ((intro w hSw); (try dsimp only at hSw); go_simp <;> with_reducible rfl)
          simp only [Act.put, List.setIfInBounds_toArray, List.set_cons_zero, List.set_cons_succ]
          refine take_run 18 (some 28) (v := ?_) rfl rfl (by kernel_rfl) (by kernel_rfl) (by kernel_rfl) (fun _ _ _ h => h) (by rfl) ?_ hHeld ?_
          rotate_left
          · ((intro w hSw); (try dsimp only at hSw); go_simp <;> with_reducible rfl)
          simp only [Act.put, List.setIfInBounds_toArray, List.set_cons_zero, List.set_cons_succ]
          refine take_run 19 (some 29) (v := ?_) rfl rfl (by kernel_rfl) (by kernel_rfl) (by kernel_rfl) (fun _ _ _ h => h) (by rfl) ?_ hHeld ?_
          rotate_left
          · ((intro w hSw); (try dsimp only at hSw); go_simp <;> with_reducible rfl)
          simp only [Act.put, List.setIfInBounds_toArray, List.set_cons_zero, List.set_cons_succ]
          refine take_run 20 (some 30) (v := ?_) rfl rfl (by kernel_rfl) (by kernel_rfl) (by kernel_rfl) (fun _ _ _ h => h) (by rfl) ?_ hHeld ?_
          rotate_left
          · ((intro w hSw); (try dsimp only at hSw); go_simp <;> with_reducible rfl)
          simp only [Act.put, List.setIfInBounds_toArray, List.set_cons_zero, List.set_cons_succ]
          refine take_run 21 (some 31) (v := ?_) rfl rfl (by kernel_rfl) (by kernel_rfl) (by kernel_rfl) (fun _ _ _ h => h) (by rfl) ?_ hHeld ?_
          rotate_left
          · ((intro w hSw); (try dsimp only at hSw); go_simp <;> with_reducible rfl)
          simp only [Act.put, List.setIfInBounds_toArray, List.set_cons_zero, List.set_cons_succ]
          refine take_run 22 (some 32) (v := ?_) rfl rfl (by kernel_rfl) (by kernel_rfl) (by kernel_rfl) (fun _ _ _ h => h) (by rfl) ?_ hHeld ?_
          rotate_left
          · ((intro w hSw); (try dsimp only at hSw); go_simp <;> with_reducible rfl)
          simp only [Act.put, List.setIfInBounds_toArray, List.set_cons_zero, List.set_cons_succ]
          refine take_skip 23 (some 33) rfl rfl (by kernel_rfl) (by kernel_rfl) (by kernel_rfl) (fun _ _ _ h => h) (by rfl) hHeld ?_
          simp only [Act.put, List.setIfInBounds_toArray, List.set_cons_zero, List.set_cons_succ]
          refine take_skip 24 (some 34) rfl rfl (by kernel_rfl) (by kernel_rfl) (by kernel_rfl) (fun _ _ _ h => h) (by rfl) hHeld ?_
          simp only [Act.put, List.setIfInBounds_toArray, List.set_cons_zero, List.set_cons_succ]
          refine take_skip 25 (some 35) rfl rfl (by kernel_rfl) (by kernel_rfl) (by kernel_rfl) (fun _ _ _ h => h) (by rfl) hHeld ?_
          simp only [Act.put, List.setIfInBounds_toArray, List.set_cons_zero, List.set_cons_succ]
          refine take_skip 26 (some 36) rfl rfl (by kernel_rfl) (by kernel_rfl) (by kernel_rfl) (fun _ _ _ h => h) (by rfl) hHeld ?_
          simp only [Act.put, List.setIfInBounds_toArray, List.set_cons_zero, List.set_cons_succ]
          refine take_skip 27 (some 37) rfl rfl (by kernel_rfl) (by kernel_rfl) (by kernel_rfl) (fun _ _ _ h => h) (by rfl) hHeld ?_
          simp only [Act.put, List.setIfInBounds_toArray, List.set_cons_zero, List.set_cons_succ]
          refine take_skip 28 (some 38) rfl rfl (by kernel_rfl) (by kernel_rfl) (by kernel_rfl) (fun _ _ _ h => h) (by rfl) hHeld ?_
          simp only [Act.put, List.setIfInBounds_toArray, List.set_cons_zero, List.set_cons_succ]
          refine take_skip 29 (some 39) rfl rfl (by kernel_rfl) (by kernel_rfl) (by kernel_rfl) (fun _ _ _ h => h) (by rfl) hHeld ?_
          simp only [Act.put, List.setIfInBounds_toArray, List.set_cons_zero, List.set_cons_succ]
          refine take_skip 30 (some 40) rfl rfl (by kernel_rfl) (by kernel_rfl) (by kernel_rfl) (fun _ _ _ h => h) (by rfl) hHeld ?_
          simp only [Act.put, List.setIfInBounds_toArray, List.set_cons_zero, List.set_cons_succ]
          refine take_skip 31 (some 41) rfl rfl (by kernel_rfl) (by kernel_rfl) (by kernel_rfl) (fun _ _ _ h => h) (by rfl) hHeld ?_
          simp only [Act.put, List.setIfInBounds_toArray, List.set_cons_zero, List.set_cons_succ]
          refine take_skip 32 (some 42) rfl rfl (by kernel_rfl) (by kernel_rfl) (by kernel_rfl) (fun _ _ _ h => h) (by rfl) hHeld ?_
          simp only [Act.put, List.setIfInBounds_toArray, List.set_cons_zero, List.set_cons_succ]
          refine take_skip 33 (some 43) rfl rfl (by kernel_rfl) (by kernel_rfl) (by kernel_rfl) (fun _ _ _ h => h) (by rfl) hHeld ?_
          simp only [Act.put, List.setIfInBounds_toArray, List.set_cons_zero, List.set_cons_succ]
          refine take_skip 34 (some 44) rfl rfl (by kernel_rfl) (by kernel_rfl) (by kernel_rfl) (fun _ _ _ h => h) (by rfl) hHeld ?_
          simp only [Act.put, List.setIfInBounds_toArray, List.set_cons_zero, List.set_cons_succ]
          refine take_run 35 (some 45) (v := ?_) rfl rfl (by kernel_rfl) (by kernel_rfl) (by kernel_rfl) (fun _ _ _ h => h) (by rfl) ?_ hHeld ?_
          rotate_left
          · ((intro w hSw); (try dsimp only at hSw); go_simp <;> with_reducible rfl)
          simp only [Act.put, List.setIfInBounds_toArray, List.set_cons_zero, List.set_cons_succ]
          refine take_run 36 (some 46) (v := ?_) rfl rfl (by kernel_rfl) (by kernel_rfl) (by kernel_rfl) (fun _ _ _ h => h) (by rfl) ?_ hHeld ?_
          rotate_left
          · ((intro w hSw); (try dsimp only at hSw); go_simp <;> with_reducible rfl)
          simp only [Act.put, List.setIfInBounds_toArray, List.set_cons_zero, List.set_cons_succ]
          refine wpAnyH_done (by kernel_rfl) ?_ _
          refine NoPanic.normal ?_
          have S1 := hHeld.2.2.2.2
          clear hHeld
          go_wp2
          exact ⟨⟨k + 1, by omega, by go_num, HNEW, S1⟩, by simp [intOf]; omega⟩
        · have he : xt = yt ∧ xu = yu := by have := HQ.out; unfold eqB at this; simpa using this
          have hv1 := slot_ver HSX.out h0
          have hv2 := slot_ver HSY.out (fun e => h0 (he.1.trans e))
          have hgt : decide (0 < xt) = true := decide_eq_true (by
            have := okB_i (verB_parts hv1).2.2.1
            simp only at this
            omega)
          have DS : Hid (∀ W : World, Below w.heap.size w W → Calls Tryz.prog 151 #[.agg (verC xk xt xu xa xts.length xc xs xg), .agg (verC yk yt yu ya yts.length yc ys yg)] W fun e w' => e = .returned (.bool (likeB ⟨xk, xt, xu, xa, xc, xts, xs, xg⟩ ⟨yk, yt, yu, ya, yc, yts, ys, yg⟩)) ∧ Below W.heap.size W w') := fun W hW =>
            l2Same_any xk xt xu xa xc xts xs xg yk yt yu ya yc yts ys yg W hv1 hv2 ((HT.out.on hW).up hW.size) ((HT2.out.on hW).up hW.size)
          clear h0 hv1 hv2 he
          go_wp2_with fail
          refine wp_region_noPanic ?_
          refine wp_region_held_drew (S := (fun w' => Six w' b (off + k * 6) ⟨xk, xt, xu, xa, xc, xts, xs, xg⟩ ∧ Six w' b' (off' + k * 6) ⟨yk, yt, yu, ya, yc, yts, ys, yg⟩ ∧ w'.cell? ⟨w.heap.size, 0, none⟩ = some (.slice (some ⟨b, off, none⟩) 4 c) ∧ w'.cell? ⟨w.heap.size + 1, 0, none⟩ = some (.slice (some ⟨b', off', none⟩) 4 c') ∧ Inv w (w.heap.size + 1 + 1) [(w.heap.size + 1, 88, #[.slice (some ⟨b', off', none⟩) 4 c']), (w.heap.size, 88, #[.slice (some ⟨b, off, none⟩) 4 c])] w')) (by kernel_rfl) (by exact ⟨Q1.out.keep hb fun _ hp => SL.drew.below.cell hp, Q2.out.keep hb' fun _ hp => SL.drew.below.cell hp, (SL.drew.nth 1 rfl).at 0, (SL.drew.nth 0 rfl).at 0, SL.drew⟩) (fun hHeld => ?_)
          refine take_run 0 (some 10) (v := ?_) rfl rfl (by kernel_rfl) (by kernel_rfl) (by kernel_rfl) (fun _ _ _ h => h) (by rfl) ?_ hHeld ?_
          rotate_left
          · ((intro w hSw); (try dsimp only at hSw); go_simp <;> with_reducible rfl)
          simp only [Act.put, List.setIfInBounds_toArray, List.set_cons_zero, List.set_cons_succ]
          refine take_run 1 (some 11) (v := ?_) rfl rfl (by kernel_rfl) (by kernel_rfl) (by kernel_rfl) (fun _ _ _ h => h) (by rfl) ?_ hHeld ?_
          rotate_left
          · ((intro w hSw); (try dsimp only at hSw); go_simp <;> with_reducible rfl)
          simp only [Act.put, List.setIfInBounds_toArray, List.set_cons_zero, List.set_cons_succ]
          refine take_run 2 (some 12) (v := ?_) rfl rfl (by kernel_rfl) (by kernel_rfl) (by kernel_rfl) (fun _ _ _ h => h) (by rfl) ?_ hHeld ?_
          rotate_left
          · ((intro w hSw); (try dsimp only at hSw); go_simp <;> with_reducible rfl)
          simp only [Act.put, List.setIfInBounds_toArray, List.set_cons_zero, List.set_cons_succ]
          refine take_run 3 (some 13) (v := ?_) rfl rfl (by kernel_rfl) (by kernel_rfl) (by kernel_rfl) (fun _ _ _ h => h) (by rfl) ?_ hHeld ?_
          rotate_left
          · ((intro w hSw); (try dsimp only at hSw); go_simp <;> with_reducible rfl)
          simp only [Act.put, List.setIfInBounds_toArray, List.set_cons_zero, List.set_cons_succ]
          refine take_run 4 (some 14) (v := ?_) rfl rfl (by kernel_rfl) (by kernel_rfl) (by kernel_rfl) (fun _ _ _ h => h) (by rfl) ?_ hHeld ?_
          rotate_left
          · ((intro w hSw); (try dsimp only at hSw); go_simp <;> with_reducible rfl)
          simp only [Act.put, List.setIfInBounds_toArray, List.set_cons_zero, List.set_cons_succ]
          refine take_run 5 (some 15) (v := ?_) rfl rfl (by kernel_rfl) (by kernel_rfl) (by kernel_rfl) (fun _ _ _ h => h) (by rfl) ?_ hHeld ?_
          rotate_left
          · ((intro w hSw); (try dsimp only at hSw); go_simp <;> with_reducible rfl)
          simp only [Act.put, List.setIfInBounds_toArray, List.set_cons_zero, List.set_cons_succ]
          refine take_run 6 (some 16) (v := ?_) rfl rfl (by kernel_rfl) (by kernel_rfl) (by kernel_rfl) (fun _ _ _ h => h) (by rfl) ?_ hHeld ?_
          rotate_left
          · ((intro w hSw); (try dsimp only at hSw); go_simp <;> with_reducible rfl)
          simp only [Act.put, List.setIfInBounds_toArray, List.set_cons_zero, List.set_cons_succ]
          refine take_run 7 (some 17) (v := ?_) rfl rfl (by kernel_rfl) (by kernel_rfl) (by kernel_rfl) (fun _ _ _ h => h) (by rfl) ?_ hHeld ?_
          rotate_left
          · ((intro w hSw); (try dsimp only at hSw); go_simp <;> with_reducible rfl)
          simp only [Act.put, List.setIfInBounds_toArray, List.set_cons_zero, List.set_cons_succ]
          refine take_run 8 (some 18) (v := ?_) rfl rfl (by kernel_rfl) (by kernel_rfl) (by kernel_rfl) (fun _ _ _ h => h) (by rfl) ?_ hHeld ?_
          rotate_left
          · ((intro w hSw); (try dsimp only at hSw); go_simp <;> with_reducible rfl)
          simp only [Act.put, List.setIfInBounds_toArray, List.set_cons_zero, List.set_cons_succ]
          refine take_run 9 (some 19) (v := ?_) rfl rfl (by kernel_rfl) (by kernel_rfl) (by kernel_rfl) (fun _ _ _ h => h) (by rfl) ?_ hHeld ?_
          rotate_left
          · ((intro w hSw); (try dsimp only at hSw); go_simp <;> with_reducible rfl)
          simp only [Act.put, List.setIfInBounds_toArray, List.set_cons_zero, List.set_cons_succ]
          refine take_run 10 (some 20) (v := ?_) rfl rfl (by kernel_rfl) (by kernel_rfl) (by kernel_rfl) (fun _ _ _ h => h) (by rfl) ?_ hHeld ?_
          rotate_left
          · ((intro w hSw); (try dsimp only at hSw); go_simp <;> with_reducible rfl)
          simp only [Act.put, List.setIfInBounds_toArray, List.set_cons_zero, List.set_cons_succ]
          refine take_run 11 (some 21) (v := ?_) rfl rfl (by kernel_rfl) (by kernel_rfl) (by kernel_rfl) (fun _ _ _ h => h) (by rfl) ?_ hHeld ?_
          rotate_left
          · ((intro w hSw); (try dsimp only at hSw); go_simp <;> with_reducible rfl)
          simp only [Act.put, List.setIfInBounds_toArray, List.set_cons_zero, List.set_cons_succ]
          refine take_run 12 (some 22) (v := ?_) rfl rfl (by kernel_rfl) (by kernel_rfl) (by kernel_rfl) (fun _ _ _ h => h) (by rfl) ?_ hHeld ?_
          rotate_left
          · ((intro w hSw); (try dsimp only at hSw); go_simp <;> with_reducible rfl)
          simp only [Act.put, List.setIfInBounds_toArray, List.set_cons_zero, List.set_cons_succ]
          refine take_run 13 (some 23) (v := ?_) rfl rfl (by kernel_rfl) (by kernel_rfl) (by kernel_rfl) (fun _ _ _ h => h) (by rfl) ?_ hHeld ?_
          rotate_left
          · ((intro w hSw); (try dsimp only at hSw); go_simp <;> with_reducible rfl)
          simp only [Act.put, List.setIfInBounds_toArray, List.set_cons_zero, List.set_cons_succ]
          refine take_run 14 (some 24) (v := ?_) rfl rfl (by kernel_rfl) (by kernel_rfl) (by kernel_rfl) (fun _ _ _ h => h) (by rfl) ?_ hHeld ?_
          rotate_left
          · ((intro w hSw); (try dsimp only at hSw); go_simp <;> with_reducible rfl)
          simp only [Act.put, List.setIfInBounds_toArray, List.set_cons_zero, List.set_cons_succ]
          refine take_run 15 (some 25) (v := ?_) rfl rfl (by kernel_rfl) (by kernel_rfl) (by kernel_rfl) (fun _ _ _ h => h) (by rfl) ?_ hHeld ?_
          rotate_left
          · ((intro w hSw); (try dsimp only at hSw); go_simp <;> with_reducible rfl)
          simp only [Act.put, List.setIfInBounds_toArray, List.set_cons_zero, List.set_cons_succ]
          refine take_run 16 (some 26) (v := ?_) rfl rfl (by kernel_rfl) (by kernel_rfl) (by kernel_rfl) (fun _ _ _ h => h) (by rfl) ?_ hHeld ?_
          rotate_left
          · ((intro w hSw); (try dsimp only at hSw); go_simp <;> with_reducible rfl)
          simp only [Act.put, List.setIfInBounds_toArray, List.set_cons_zero, List.set_cons_succ]
          refine take_run 17 (some 27) (v := ?_) rfl rfl (by kernel_rfl) (by kernel_rfl) (by kernel_rfl) (fun _ _ _ h => h) (by rfl) ?_ hHeld ?_
          rotate_left
          · ((intro w hSw); (try dsimp only at hSw); go_simp <;> with_reducible rfl)
          simp only [Act.put, List.setIfInBounds_toArray, List.set_cons_zero, List.set_cons_succ]
          refine take_run 18 (some 28) (v := ?_) rfl rfl (by kernel_rfl) (by kernel_rfl) (by kernel_rfl) (fun _ _ _ h => h) (by rfl) ?_ hHeld ?_
          rotate_left
          · ((intro w hSw); (try dsimp only at hSw); go_simp <;> with_reducible rfl)
          simp only [Act.put, List.setIfInBounds_toArray, List.set_cons_zero, List.set_cons_succ]
          refine take_run 19 (some 29) (v := ?_) rfl rfl (by kernel_rfl) (by kernel_rfl) (by kernel_rfl) (fun _ _ _ h => h) (by rfl) ?_ hHeld ?_
          rotate_left
          · ((intro w hSw); (try dsimp only at hSw); go_simp <;> with_reducible rfl)
          simp only [Act.put, List.setIfInBounds_toArray, List.set_cons_zero, List.set_cons_succ]
          refine take_run 20 (some 30) (v := ?_) rfl rfl (by kernel_rfl) (by kernel_rfl) (by kernel_rfl) (fun _ _ _ h => h) (by rfl) ?_ hHeld ?_
          rotate_left
          · ((intro w hSw); (try dsimp only at hSw); go_simp <;> with_reducible rfl)
          simp only [Act.put, List.setIfInBounds_toArray, List.set_cons_zero, List.set_cons_succ]
          refine take_run 21 (some 31) (v := ?_) rfl rfl (by kernel_rfl) (by kernel_rfl) (by kernel_rfl) (fun _ _ _ h => h) (by rfl) ?_ hHeld ?_
          rotate_left
          · ((intro w hSw); (try dsimp only at hSw); go_simp <;> with_reducible rfl)
          simp only [Act.put, List.setIfInBounds_toArray, List.set_cons_zero, List.set_cons_succ]
          refine take_run 22 (some 32) (v := ?_) rfl rfl (by kernel_rfl) (by kernel_rfl) (by kernel_rfl) (fun _ _ _ h => h) (by rfl) ?_ hHeld ?_
          rotate_left
          · ((intro w hSw); (try dsimp only at hSw); go_simp <;> with_reducible rfl)
          simp only [Act.put, List.setIfInBounds_toArray, List.set_cons_zero, List.set_cons_succ]
          refine take_run 23 (some 33) (v := ?_) rfl rfl (by kernel_rfl) (by kernel_rfl) (by kernel_rfl) (fun _ _ _ h => h) (by rfl) ?_ hHeld ?_
          rotate_left
          · ((intro w hSw); (try dsimp only at hSw); go_simp <;> with_reducible rfl)
          simp only [Act.put, List.setIfInBounds_toArray, List.set_cons_zero, List.set_cons_succ]
          refine take_run 24 (some 34) (v := ?_) rfl rfl (by kernel_rfl) (by kernel_rfl) (by kernel_rfl) (fun _ _ _ h => h) (by rfl) ?_ hHeld ?_
          rotate_left
          · ((intro w hSw); (try dsimp only at hSw); go_simp <;> with_reducible rfl)
          simp only [Act.put, List.setIfInBounds_toArray, List.set_cons_zero, List.set_cons_succ]
          refine take_run 25 (some 35) (v := ?_) rfl rfl (by kernel_rfl) (by kernel_rfl) (by kernel_rfl) (fun _ _ _ h => h) (by rfl) ?_ hHeld ?_
          rotate_left
          · ((intro w hSw); (try dsimp only at hSw); go_simp <;> with_reducible rfl)
          simp only [Act.put, List.setIfInBounds_toArray, List.set_cons_zero, List.set_cons_succ]
          refine take_run 26 (some 36) (v := ?_) rfl rfl (by kernel_rfl) (by kernel_rfl) (by kernel_rfl) (fun _ _ _ h => h) (by rfl) ?_ hHeld ?_
          rotate_left
          · ((intro w hSw); (try dsimp only at hSw); go_simp <;> with_reducible rfl)
          simp only [Act.put, List.setIfInBounds_toArray, List.set_cons_zero, List.set_cons_succ]
          refine take_run 27 (some 37) (v := ?_) rfl rfl (by kernel_rfl) (by kernel_rfl) (by kernel_rfl) (fun _ _ _ h => h) (by rfl) ?_ hHeld ?_
          rotate_left
          · ((intro w hSw); (try dsimp only at hSw); go_simp <;> with_reducible rfl)
          simp only [Act.put, List.setIfInBounds_toArray, List.set_cons_zero, List.set_cons_succ]
          refine take_run 28 (some 38) (v := ?_) rfl rfl (by kernel_rfl) (by kernel_rfl) (by kernel_rfl) (fun _ _ _ h => h) (by rfl) ?_ hHeld ?_
          rotate_left
          · ((intro w hSw); (try dsimp only at hSw); go_simp <;> with_reducible rfl)
          simp only [Act.put, List.setIfInBounds_toArray, List.set_cons_zero, List.set_cons_succ]
          refine take_run 29 (some 39) (v := ?_) rfl rfl (by kernel_rfl) (by kernel_rfl) (by kernel_rfl) (fun _ _ _ h => h) (by rfl) ?_ hHeld ?_
          rotate_left
          · ((intro w hSw); (try dsimp only at hSw); go_simp <;> with_reducible rfl)
          simp only [Act.put, List.setIfInBounds_toArray, List.set_cons_zero, List.set_cons_succ]
          refine take_run 30 (some 40) (v := ?_) rfl rfl (by kernel_rfl) (by kernel_rfl) (by kernel_rfl) (fun _ _ _ h => h) (by rfl) ?_ hHeld ?_
          rotate_left
          · ((intro w hSw); (try dsimp only at hSw); go_simp <;> with_reducible rfl)
          simp only [Act.put, List.setIfInBounds_toArray, List.set_cons_zero, List.set_cons_succ]
          refine take_run 31 (some 41) (v := ?_) rfl rfl (by kernel_rfl) (by kernel_rfl) (by kernel_rfl) (fun _ _ _ h => h) (by rfl) ?_ hHeld ?_
          rotate_left
          · ((intro w hSw); (try dsimp only at hSw); go_simp <;> with_reducible rfl)
          simp only [Act.put, List.setIfInBounds_toArray, List.set_cons_zero, List.set_cons_succ]
          refine take_run 32 (some 42) (v := ?_) rfl rfl (by kernel_rfl) (by kernel_rfl) (by kernel_rfl) (fun _ _ _ h => h) (by rfl) ?_ hHeld ?_
          rotate_left
          · ((intro w hSw); (try dsimp only at hSw); go_simp <;> with_reducible rfl)
          simp only [Act.put, List.setIfInBounds_toArray, List.set_cons_zero, List.set_cons_succ]
          refine take_one 33 (by kernel_rfl) rfl (fun K hK => ?_)
          go_simp
          ((with_reducible refine (DS.out _ hHeld.2.2.2.2.below).mono ?_); rintro e w3 ⟨rfl, hb3⟩)
          try go_wp2_with fail
          refine hK.out _ _ (by exact ⟨Q1.out.keep hb fun _ hp => (hHeld.2.2.2.2.on hb3).below.cell hp, Q2.out.keep hb' fun _ hp => (hHeld.2.2.2.2.on hb3).below.cell hp, ((hHeld.2.2.2.2.on hb3).nth 1 rfl).at 0, ((hHeld.2.2.2.2.on hb3).nth 0 rfl).at 0, hHeld.2.2.2.2.on hb3⟩) (fun hHeld => ?_)
          clear hK K
          refine take_run 34 (some 44) (v := ?_) rfl rfl (by kernel_rfl) (by kernel_rfl) (by kernel_rfl) (fun _ _ _ h => h) (by rfl) ?_ hHeld ?_
          rotate_left
          · ((intro w hSw); (try dsimp only at hSw); go_simp <;> with_reducible rfl)
          simp only [Act.put, List.setIfInBounds_toArray, List.set_cons_zero, List.set_cons_succ]
          refine take_run 35 (some 45) (v := ?_) rfl rfl (by kernel_rfl) (by kernel_rfl) (by kernel_rfl) (fun _ _ _ h => h) (by rfl) ?_ hHeld ?_
          rotate_left
          · ((intro w hSw); (try dsimp only at hSw); go_simp <;> with_reducible rfl)
          simp only [Act.put, List.setIfInBounds_toArray, List.set_cons_zero, List.set_cons_succ]
          refine take_run 36 (some 46) (v := ?_) rfl rfl (by kernel_rfl) (by kernel_rfl) (by kernel_rfl) (fun _ _ _ h => h) (by rfl) ?_ hHeld ?_
          rotate_left
          · ((intro w hSw); (try dsimp only at hSw); go_simp <;> with_reducible rfl)
          simp only [Act.put, List.setIfInBounds_toArray, List.set_cons_zero, List.set_cons_succ]
          refine wpAnyH_done (by kernel_rfl) ?_ _
          refine NoPanic.normal ?_
          have S1 := hHeld.2.2.2.2
          clear hHeld
          cases hq : likeB ⟨xk, xt, xu, xa, xc, xts, xs, xg⟩ ⟨yk, yt, yu, ya, yc, yts, ys, yg⟩
          · have HF := hide (HNO.out hq)
            clear hq
            go_wp2
            go_ret
            exact ⟨ret_bool HF.out.symm, S1.below⟩
          · have HNEW := hide (HNX.out ((likeB_iff _ _).1 hq))
            clear hq
            go_wp2
            exact ⟨⟨k + 1, by omega, by go_num, HNEW, S1⟩, by simp [intOf]; omega⟩
    · have hkn : k = 4 := by omega
      subst hkn
      clear hlt
      have hf : Hid (likesB us vs = true) := (likesB_iff us vs).2 ⟨HU4.out.trans HV4.out.symm, fun i x y hx hy => heq.out i x y (by have := (List.getElem?_eq_some_iff.1 hx).1; have := HU4.out; omega) hx hy⟩
      clear heq
      go_wp2
      go_ret
      exact ⟨ret_bool hf.out.symm, SL.below⟩
end Go.Proofs.YtnaggcdhimcilaaGreat
/- Contracts of StoreJoin, of program and model. Condition: as many versions and tags as a law lets by. -/
namespace Go.Proofs.YtnaggcdhimcilaaGreat
open Go.RowKit Go.Joins
attribute [local go_sem ↓] Go.wp_at_zero Go.wp_at_succ

/-- A row with all of another row let in. -/
def foldK (us bs : List V) : List V := bs.foldl keepL us
/-- What StoreJoin answers. -/
def joinR (vs bs : List V) : List V := if (storeB vs && storeB bs) = true then foldK vs bs else []
theorem store_slot {bs : List V} {i : Nat} {v : V} (h : storeB bs = true) (hi : bs[i]? = some v) : slotB i v = true := by
  apply Classical.byContradiction
  intro hn
  rw [storeB_bad hi (by simpa using hn)] at h
  cases h
/-- No tag is earlier than nothing. -/
def Late (us : List V) : Prop := ∀ x ∈ us, lessB x.t x.u 0 0 = false
/-- What letting a whole row in leaves. -/
def FoldL (w : World) (B G : Nat) (rs : List V) (x : Value) (e : Ending) (w' : World) : Prop :=
  ∃ (us' : List V) (cur' : Array Value), e = .returned x ∧ us'.length = rs.length ∧ Like us' rs ∧ ORow w' B w'.heap.size G us' cur' ∧ Turn (fun g => g = G) w w'

end Go.Proofs.YtnaggcdhimcilaaGreat
