/- Contract of the model's l3Fall: the new chain lies in the old one's blocks or in new ones. Condition: two to four nodes of four slots each, of causes that memory holds. -/
import Derived.Test.YtnaggcdhimcilaaGreatJFall
import Derived.Test.YtnaggcdhimcilaaGreatJChainAddF
import Derived.Deep.DeepCutAuto
namespace Go.Proofs.YtnaggcdhimcilaaGreat
open Go.RowKit Go.Joins
attribute [local go_sem ↓] Go.wp_at_zero Go.wp_at_succ

/-- What l3Fall leaves. -/
def FellF (w : World) (base G xc : Nat) (us : List Nd) (k : Nat) (e : Ending) (w' : World) : Prop :=
  ∃ (G2 cap2 : Nat) (us' : List Nd), e = .returned (.agg #[.slice (some ⟨G2, 0, none⟩) us'.length cap2]) ∧ NL us' (fallG us k) ∧ GRow base w' (.slice (some ⟨G2, 0, none⟩) us'.length cap2) us' ∧ Below w.heap.size w w' ∧ ∀ y, FootK (.slice (some ⟨G2, 0, none⟩) us'.length cap2) us' y → FootK (.slice (some ⟨G, 0, none⟩) us.length xc) us y ∨ w.heap.size ≤ y
theorem foot_set {X : Nat → Prop} {p cap z : Nat} {r : List Nd} {n : Nd} {A : Option Addr} {ls : List V} (h0 : ∀ (i : Nat) n, r[i]? = some n → ∀ y, FootO n y → X y) (hp : r[p]? = some n) (hw : ∀ y, FootV A cap ls y → z ≤ y) :
    ∀ (i : Nat) m, (r.set p ⟨n.sa, n.sc, n.ss, A, cap, ls⟩)[i]? = some m → ∀ y, FootO m y → X y ∨ z ≤ y := fun i m hi y hy => by
  by_cases e : i = p
  · subst e
    rw [List.getElem?_set_self (List.getElem?_eq_some_iff.1 hp).1] at hi
    injection hi with hi
    subst hi
    rcases hy with hy | hy
    · exact .inl (h0 i n hp y (.inl hy))
    · exact .inr (hw y hy)
  · rw [List.getElem?_set_ne (fun q => e q.symm)] at hi
    exact .inl (h0 i m hi y hy)
theorem foot_bare {X : Nat → Prop} {G2 c cap2 z q : Nat} {r1 : List Nd} {nl : Nd} (hG : z ≤ G2) (h1 : ∀ (i : Nat) n, r1[i]? = some n → ∀ y, FootO n y → X y ∨ z ≤ y) (hq : r1[q]? = some nl) :
    ∀ y, FootK (.slice (some ⟨G2, 0, none⟩) c cap2) (r1.set q (bare nl)) y → X y ∨ z ≤ y := fun y hy => by
  rcases hy with e | ⟨i, m, hi, hm⟩
  · simp only [Value.ownBlock] at e
    injection e with e
    exact .inr (by omega)
  · by_cases e : i = q
    · subst e
      rw [List.getElem?_set_self (List.getElem?_eq_some_iff.1 hq).1] at hi
      injection hi with hi
      subst hi
      rcases hm with hm | hm | hm
      · exact h1 i nl hq y (.inl hm)
      · exact absurd rfl hm.1
      · simp [bare, Value.ownBlock] at hm
    · rw [List.getElem?_set_ne (fun q => e q.symm)] at hi
      exact h1 i m hi y hm
set_option maxRecDepth 100000 in
set_option maxHeartbeats 8000000 in
theorem l3FallF_any (base G xc k : Nat) (us : List Nd) (w : World) (hG : GRow base w (.slice (some ⟨G, 0, none⟩) us.length xc) us) (hk : k < us.length) (h2 : 2 ≤ us.length) (hl : us.length ≤ 4) (hB : ∀ (i : Nat) n, us[i]? = some n → n.ss.length = 4 ∧ ∀ v ∈ n.ss, v.ts.length ≤ 1048576) :
    Calls Tryz.prog 43 #[.agg #[.slice (some ⟨G, 0, none⟩) us.length xc], .int .i64 (k : Int)] w (FellF w base G xc us k) := by
  obtain ⟨j0, hj0, hy0, hy1, hy2⟩ := info_parts node_info
  have J0 := hide hj0
  have J1 := hide hy0
  have J2 := hide hy1
  have J3 := hide hy2
  clear hj0 hy0 hy1 hy2
  have S0 := ((Inv.start w).box 32 #[.slice (some ⟨G, 0, none⟩) us.length xc]).box 32 #[.slice none 0 0]
  simp only [World.size_alloc] at S0
  have hcap := hG.caps.1
  have gin := hG.caps.2
  have hbs := hG.lo
  have HG := hide hG
  have HR00 : Hid (∀ (i : Nat) n, (us.eraseIdx k)[i]? = some n → ∀ y, FootO n y → FootK (.slice (some ⟨G, 0, none⟩) us.length xc) us y) := fun i n hi y hy => by
    rw [List.getElem?_eraseIdx] at hi
    split at hi
    · exact .inr ⟨i, n, hi, hy⟩
    · exact .inr ⟨i + 1, n, hi, hy⟩
  have HB := hide hB
  have c0 := (S0.nth 1 rfl).one.1
  have i1 : (0 : Int) ≤ (k : Int) := by omega
  have i2 : (k : Int) ≤ (xc : Int) := by omega
  have i3 : (k : Int) + 1 ≤ (us.length : Int) := by omega
  have i4 : (us.length : Int) ≤ (xc : Int) := by omega
  have i5 : (0 : Int) ≤ (k : Int) + 1 := by omega
  have iw : IntKind.i64.wrap ((k : Int) + 1) = (k : Int) + 1 := by rw [IntKind.wrap_i64]; omega
  have it : ((k : Int) + 1).toNat = k + 1 := by omega
  have HLR := hide (erase_len hk)
  clear hG hB
  go_enter Tryz.func43, Tryz.ntmps43
  go_wp2_with fail
  clear c0
  generalize (w.alloc (.cells #[.slice (some ⟨G, 0, none⟩) us.length xc] 32)).alloc (.cells #[.slice none 0 0] 32) = W0 at S0 ⊢
  have zr := S0.room
  have HB0 := hide S0.below
  have c0 := (S0.nth 1 rfl).one.1
  have cA := ((S0.alloc (.cells #[] 90)).nth 1 rfl).one.1
  have zH : (W0.alloc (.cells #[] 90)).drew.heap.size = W0.heap.size + 1 := by show (W0.alloc (.cells #[] 90)).heap.size = _; simp
  have HZ := hide zH
  clear zH
  have HOW : Hid ((W0.alloc (.cells #[] 90)).drew.ownsRow base 90 2 (.slice (some ⟨W0.heap.size, 0, none⟩) 0 0) 0 []) := World.ownsRow_made (base := base) (e := 90) (size := 2) W0 #[] 0 (by omega) (by unfold maxLen; omega) rfl
  have HB2 : Hid (Below w.heap.size w (W0.alloc (.cells #[] 90)).drew) := HB0.out.trans (((below_alloc1 W0 _).drew).mono HB0.out.size)
  have HN1 := hide ((HG.out.on HB2.out).newsTake (p := k))
  have R9 := S0.nth 0 rfl
  have K9 := S0.nth 1 rfl
  clear S0
  go_upto_region 1 with (fail)
  go_cut [17] (fun s wx => ∃ (G2 cap2 : Nat), s = .slice (some ⟨G2, 0, none⟩) (us.eraseIdx k).length cap2 ∧ w.heap.size + 1 + 1 ≤ G2 ∧ Hid (GRow base wx (.slice (some ⟨G2, 0, none⟩) (us.eraseIdx k).length cap2) (us.eraseIdx k)) ∧ Inv w (w.heap.size + 1 + 1) [(w.heap.size + 1, 32, #[.slice none 0 0]), (w.heap.size, 32, #[.slice (some ⟨G2, 0, none⟩) (us.eraseIdx k).length cap2])] wx)
  case first =>
    refine wp_region_noPanic ?_
    refine wp_region_held_drew (S := (fun w' => Blk w' (w.heap.size + 1) 32 #[.slice none 0 0] ∧ ∃ y, Blk w' w.heap.size 32 #[y])) (by kernel_rfl) (by exact ⟨R9.drew, _, K9.drew⟩) (fun hHeld => ?_)
    refine mvR 1 (some 7) hHeld ?_
    refine mvR 3 (some 9) hHeld ?_
    refine mvR 6 (some 12) hHeld ?_
    refine mvR 8 (some 14) hHeld ?_
    refine mvR 9 (some 15) hHeld ?_
    refine wpAnyH_ready (rs := [0, 2, 7]) (by kernel_rfl) (by simp) ?_
    refine AllReadyH.cons rfl (fun K hK => ?_) (AllReadyH.cons rfl (fun K hK => ?_) (AllReadyH.cons rfl (fun K hK => ?_) AllReadyH.nil))
    · skip
      go_simp
      refine hK.out _ _ (by exact ⟨hHeld.1.more _, hHeld.2.elim fun y h => ⟨y, h.more _⟩⟩) (fun hHeld => ?_)
      clear hK K
      refine wpAnyH_ready (rs := [2, 7]) (by kernel_rfl) (by simp) ?_
      refine AllReadyH.cons rfl (fun K hK => ?_) (AllReadyH.cons rfl (fun K hK => ?_) AllReadyH.nil)
      · skip
        go_simp
        refine hK.out _ _ (by exact hHeld) (fun hHeld => ?_)
        clear hK K
        refine mvR 4 (some 10) hHeld ?_
        refine wpAnyH_ready (rs := [5, 7]) (by kernel_rfl) (by simp) ?_
        refine AllReadyH.cons rfl (fun K hK => ?_) (AllReadyH.cons rfl (fun K hK => ?_) AllReadyH.nil)
        · skip
          (refine step_append_more _ (by rfl) _ _ _ (by rfl) base 90 j0 _ 2 48 Tryz.underlying30 J0.out J1.out J2.out J3.out rfl (by omega) W0.heap.size 0 0 [] (by rfl) HOW.out (some ⟨G, 0, none⟩) k _ (flatN (us.take k)) (by rfl) (by rw [flatN_len, List.length_take]; omega) (fun _ => ⟨_, rfl, HN1.out⟩) (flatN_one _) (by unfold maxLen; omega) (by omega) (by rw [HZ.out]; omega) (W0.heap.size + 1) HZ.out ?_; intro g1 cap1 w4 hown1 hgrow1 hat1; rw [Nat.zero_add] at hown1 ⊢; rw [List.nil_append] at hown1; have HB4 := hide (below_rows HB2.out hgrow1 (by omega)); have HOW4 := hide hown1; have hg1 : w.heap.size + 1 + 1 ≤ g1 := (by omega); have HN4 := hide ((HG.out.on HB4.out).newsDrop (p := k + 1)); have z4 := HB4.out.size; have z4' : W0.heap.size + 1 ≤ w4.heap.size := (by have := hgrow1.size; rw [HZ.out] at this; exact this); have k4 := ((K9.more (.cells #[] 90)).drew.kept hgrow1 (by intro e; injection e; omega)).one.1; clear hown1 hat1)
          simp only [List.getElem_toArray, List.getElem_cons_zero, List.getElem_cons_succ, Act.put, List.setIfInBounds_toArray, List.set_cons_zero, List.set_cons_succ]
          refine hK.out _ _ (by exact ⟨hHeld.1.kept hgrow1 (by intro e; injection e; omega), hHeld.2.elim fun y h => ⟨y, h.kept hgrow1 (by intro e; injection e; omega)⟩⟩) (fun hHeld => ?_)
          clear hK K
          refine take_one 7 (by kernel_rfl) rfl (fun K hK => ?_)
          go_simp
          refine hK.out _ _ (by exact hHeld) (fun hHeld => ?_)
          clear hK K
          refine mvR 10 (some 16) hHeld ?_
          refine take_one 11 (by kernel_rfl) rfl (fun K hK => ?_)
          (refine step_append_more _ (by rfl) _ _ _ (by rfl) base 90 j0 _ 2 48 Tryz.underlying30 J0.out J1.out J2.out J3.out rfl (by omega) g1 k cap1 (flatN (us.take k)) (by rfl) HOW4.out _ (us.length - (k + 1)) _ (flatN (us.drop (k + 1))) (by rfl) (by rw [flatN_len, List.length_drop]) (fun hm => ⟨⟨G, (k + 1) * 2, none⟩, by first | rfl | (split <;> first | rfl | (exfalso; omega)), HN4.out⟩) (flatN_one _) (by unfold maxLen; omega) (by omega) (by omega) _ rfl ?_; intro G2 cap2 w5 hown2 hgrow2 hat2; have hkr : k + (us.length - (k + 1)) = (us.eraseIdx k).length := (by have := HLR.out; omega); rw [hkr] at hown2 ⊢; have HB5 := hide (below_rows HB4.out hgrow2 (by omega)); have hg2 : w.heap.size + 1 + 1 ≤ G2 := (by omega); have HG5 := hide (HG.out.erased HB5.out hk HLR.out hown2); obtain ⟨y4, hy4⟩ := hHeld.2; have B5 := hy4.kept hgrow2 (by intro e; injection e; omega); have R5 := hHeld.1.kept hgrow2 (by intro e; injection e; omega); have k5 := B5.one; clear hown2 hat2 hkr)
          simp only [List.getElem_toArray, List.getElem_cons_zero, List.getElem_cons_succ, Act.put, List.setIfInBounds_toArray, List.set_cons_zero, List.set_cons_succ]
          refine hK.out _ _ (by exact ⟨R5, _, B5⟩) (fun hHeld => ?_)
          clear hK K
          refine mvR 12 (some 18) hHeld ?_
          refine take_one 13 (by kernel_rfl) rfl (fun K hK => ?_)
          go_simp
          refine hK.out _ _ (by exact ⟨R5.aside (by simp) _, _, B5.put 0 _⟩) (fun hHeld => ?_)
          clear hK K
          refine wpAnyH_done (by kernel_rfl) ?_ _
          refine NoPanic.normal ?_
          generalize (if xc = k + 1 then some (⟨G, 0, none⟩ : Addr) else some ⟨G, (k + 1) * 2, none⟩) = adT
          have B6 := B5.put 0 (.slice (some ⟨G2, 0, none⟩) (us.eraseIdx k).length cap2)
          simp only [List.setIfInBounds_toArray, List.set_cons_zero] at B6
          have HG6 := hide (HG5.out.asideT (p := ⟨w.heap.size, 0, none⟩) B5 (.slice (some ⟨G2, 0, none⟩) (us.eraseIdx k).length cap2))
          have R6 := hHeld.1
          have HB6 := hide (HB5.out.setCell (Nat.le_refl _) (.slice (some ⟨G2, 0, none⟩) (us.eraseIdx k).length cap2) (p := ⟨w.heap.size, 0, none⟩))
          have z6 := HB6.out.size
          have z5 := hgrow2.size
          clear k5 hHeld hy4
          go_wp2_with fail
          go_meet
          exact ⟨G2, cap2, rfl, hg2, HG6.out, HB6.out, by simp [World.setCell]; omega, fun x hx => by
            simp only [List.mem_cons, List.not_mem_nil, or_false] at hx
            rcases hx with rfl | rfl
            · exact ⟨by simp, by simp, R6⟩
            · exact ⟨Nat.le_refl _, by simp only; omega, B6⟩⟩
        · skip
          go_simp
          refine hK.out _ _ (by exact hHeld) (fun hHeld => ?_)
          clear hK K
          refine mvR 10 (some 16) hHeld ?_
          refine take_one 5 (by kernel_rfl) rfl (fun K hK => ?_)
          (refine step_append_more _ (by rfl) _ _ _ (by rfl) base 90 j0 _ 2 48 Tryz.underlying30 J0.out J1.out J2.out J3.out rfl (by omega) W0.heap.size 0 0 [] (by rfl) HOW.out (some ⟨G, 0, none⟩) k _ (flatN (us.take k)) (by rfl) (by rw [flatN_len, List.length_take]; omega) (fun _ => ⟨_, rfl, HN1.out⟩) (flatN_one _) (by unfold maxLen; omega) (by omega) (by rw [HZ.out]; omega) (W0.heap.size + 1) HZ.out ?_; intro g1 cap1 w4 hown1 hgrow1 hat1; rw [Nat.zero_add] at hown1 ⊢; rw [List.nil_append] at hown1; have HB4 := hide (below_rows HB2.out hgrow1 (by omega)); have HOW4 := hide hown1; have hg1 : w.heap.size + 1 + 1 ≤ g1 := (by omega); have HN4 := hide ((HG.out.on HB4.out).newsDrop (p := k + 1)); have z4 := HB4.out.size; have z4' : W0.heap.size + 1 ≤ w4.heap.size := (by have := hgrow1.size; rw [HZ.out] at this; exact this); have k4 := ((K9.more (.cells #[] 90)).drew.kept hgrow1 (by intro e; injection e; omega)).one.1; clear hown1 hat1)
          simp only [List.getElem_toArray, List.getElem_cons_zero, List.getElem_cons_succ, Act.put, List.setIfInBounds_toArray, List.set_cons_zero, List.set_cons_succ]
          refine hK.out _ _ (by exact ⟨hHeld.1.kept hgrow1 (by intro e; injection e; omega), hHeld.2.elim fun y h => ⟨y, h.kept hgrow1 (by intro e; injection e; omega)⟩⟩) (fun hHeld => ?_)
          clear hK K
          refine take_one 11 (by kernel_rfl) rfl (fun K hK => ?_)
          (refine step_append_more _ (by rfl) _ _ _ (by rfl) base 90 j0 _ 2 48 Tryz.underlying30 J0.out J1.out J2.out J3.out rfl (by omega) g1 k cap1 (flatN (us.take k)) (by rfl) HOW4.out _ (us.length - (k + 1)) _ (flatN (us.drop (k + 1))) (by rfl) (by rw [flatN_len, List.length_drop]) (fun hm => ⟨⟨G, (k + 1) * 2, none⟩, by first | rfl | (split <;> first | rfl | (exfalso; omega)), HN4.out⟩) (flatN_one _) (by unfold maxLen; omega) (by omega) (by omega) _ rfl ?_; intro G2 cap2 w5 hown2 hgrow2 hat2; have hkr : k + (us.length - (k + 1)) = (us.eraseIdx k).length := (by have := HLR.out; omega); rw [hkr] at hown2 ⊢; have HB5 := hide (below_rows HB4.out hgrow2 (by omega)); have hg2 : w.heap.size + 1 + 1 ≤ G2 := (by omega); have HG5 := hide (HG.out.erased HB5.out hk HLR.out hown2); obtain ⟨y4, hy4⟩ := hHeld.2; have B5 := hy4.kept hgrow2 (by intro e; injection e; omega); have R5 := hHeld.1.kept hgrow2 (by intro e; injection e; omega); have k5 := B5.one; clear hown2 hat2 hkr)
          simp only [List.getElem_toArray, List.getElem_cons_zero, List.getElem_cons_succ, Act.put, List.setIfInBounds_toArray, List.set_cons_zero, List.set_cons_succ]
          refine hK.out _ _ (by exact ⟨R5, _, B5⟩) (fun hHeld => ?_)
          clear hK K
          refine mvR 12 (some 18) hHeld ?_
          refine take_one 13 (by kernel_rfl) rfl (fun K hK => ?_)
          go_simp
          refine hK.out _ _ (by exact ⟨R5.aside (by simp) _, _, B5.put 0 _⟩) (fun hHeld => ?_)
          clear hK K
          refine wpAnyH_done (by kernel_rfl) ?_ _
          refine NoPanic.normal ?_
          generalize (if xc = k + 1 then some (⟨G, 0, none⟩ : Addr) else some ⟨G, (k + 1) * 2, none⟩) = adT
          have B6 := B5.put 0 (.slice (some ⟨G2, 0, none⟩) (us.eraseIdx k).length cap2)
          simp only [List.setIfInBounds_toArray, List.set_cons_zero] at B6
          have HG6 := hide (HG5.out.asideT (p := ⟨w.heap.size, 0, none⟩) B5 (.slice (some ⟨G2, 0, none⟩) (us.eraseIdx k).length cap2))
          have R6 := hHeld.1
          have HB6 := hide (HB5.out.setCell (Nat.le_refl _) (.slice (some ⟨G2, 0, none⟩) (us.eraseIdx k).length cap2) (p := ⟨w.heap.size, 0, none⟩))
          have z6 := HB6.out.size
          have z5 := hgrow2.size
          clear k5 hHeld hy4
          go_wp2_with fail
          go_meet
          exact ⟨G2, cap2, rfl, hg2, HG6.out, HB6.out, by simp [World.setCell]; omega, fun x hx => by
            simp only [List.mem_cons, List.not_mem_nil, or_false] at hx
            rcases hx with rfl | rfl
            · exact ⟨by simp, by simp, R6⟩
            · exact ⟨Nat.le_refl _, by simp only; omega, B6⟩⟩
      · skip
        go_simp
        refine hK.out _ _ (by exact hHeld) (fun hHeld => ?_)
        clear hK K
        refine mvR 10 (some 16) hHeld ?_
        refine take_one 2 (by kernel_rfl) rfl (fun K hK => ?_)
        go_simp
        refine hK.out _ _ (by exact hHeld) (fun hHeld => ?_)
        clear hK K
        refine mvR 4 (some 10) hHeld ?_
        refine take_one 5 (by kernel_rfl) rfl (fun K hK => ?_)
        (refine step_append_more _ (by rfl) _ _ _ (by rfl) base 90 j0 _ 2 48 Tryz.underlying30 J0.out J1.out J2.out J3.out rfl (by omega) W0.heap.size 0 0 [] (by rfl) HOW.out (some ⟨G, 0, none⟩) k _ (flatN (us.take k)) (by rfl) (by rw [flatN_len, List.length_take]; omega) (fun _ => ⟨_, rfl, HN1.out⟩) (flatN_one _) (by unfold maxLen; omega) (by omega) (by rw [HZ.out]; omega) (W0.heap.size + 1) HZ.out ?_; intro g1 cap1 w4 hown1 hgrow1 hat1; rw [Nat.zero_add] at hown1 ⊢; rw [List.nil_append] at hown1; have HB4 := hide (below_rows HB2.out hgrow1 (by omega)); have HOW4 := hide hown1; have hg1 : w.heap.size + 1 + 1 ≤ g1 := (by omega); have HN4 := hide ((HG.out.on HB4.out).newsDrop (p := k + 1)); have z4 := HB4.out.size; have z4' : W0.heap.size + 1 ≤ w4.heap.size := (by have := hgrow1.size; rw [HZ.out] at this; exact this); have k4 := ((K9.more (.cells #[] 90)).drew.kept hgrow1 (by intro e; injection e; omega)).one.1; clear hown1 hat1)
        simp only [List.getElem_toArray, List.getElem_cons_zero, List.getElem_cons_succ, Act.put, List.setIfInBounds_toArray, List.set_cons_zero, List.set_cons_succ]
        refine hK.out _ _ (by exact ⟨hHeld.1.kept hgrow1 (by intro e; injection e; omega), hHeld.2.elim fun y h => ⟨y, h.kept hgrow1 (by intro e; injection e; omega)⟩⟩) (fun hHeld => ?_)
        clear hK K
        refine take_one 11 (by kernel_rfl) rfl (fun K hK => ?_)
        (refine step_append_more _ (by rfl) _ _ _ (by rfl) base 90 j0 _ 2 48 Tryz.underlying30 J0.out J1.out J2.out J3.out rfl (by omega) g1 k cap1 (flatN (us.take k)) (by rfl) HOW4.out _ (us.length - (k + 1)) _ (flatN (us.drop (k + 1))) (by rfl) (by rw [flatN_len, List.length_drop]) (fun hm => ⟨⟨G, (k + 1) * 2, none⟩, by first | rfl | (split <;> first | rfl | (exfalso; omega)), HN4.out⟩) (flatN_one _) (by unfold maxLen; omega) (by omega) (by omega) _ rfl ?_; intro G2 cap2 w5 hown2 hgrow2 hat2; have hkr : k + (us.length - (k + 1)) = (us.eraseIdx k).length := (by have := HLR.out; omega); rw [hkr] at hown2 ⊢; have HB5 := hide (below_rows HB4.out hgrow2 (by omega)); have hg2 : w.heap.size + 1 + 1 ≤ G2 := (by omega); have HG5 := hide (HG.out.erased HB5.out hk HLR.out hown2); obtain ⟨y4, hy4⟩ := hHeld.2; have B5 := hy4.kept hgrow2 (by intro e; injection e; omega); have R5 := hHeld.1.kept hgrow2 (by intro e; injection e; omega); have k5 := B5.one; clear hown2 hat2 hkr)
        simp only [List.getElem_toArray, List.getElem_cons_zero, List.getElem_cons_succ, Act.put, List.setIfInBounds_toArray, List.set_cons_zero, List.set_cons_succ]
        refine hK.out _ _ (by exact ⟨R5, _, B5⟩) (fun hHeld => ?_)
        clear hK K
        refine mvR 12 (some 18) hHeld ?_
        refine take_one 13 (by kernel_rfl) rfl (fun K hK => ?_)
        go_simp
        refine hK.out _ _ (by exact ⟨R5.aside (by simp) _, _, B5.put 0 _⟩) (fun hHeld => ?_)
        clear hK K
        refine wpAnyH_done (by kernel_rfl) ?_ _
        refine NoPanic.normal ?_
        generalize (if xc = k + 1 then some (⟨G, 0, none⟩ : Addr) else some ⟨G, (k + 1) * 2, none⟩) = adT
        have B6 := B5.put 0 (.slice (some ⟨G2, 0, none⟩) (us.eraseIdx k).length cap2)
        simp only [List.setIfInBounds_toArray, List.set_cons_zero] at B6
        have HG6 := hide (HG5.out.asideT (p := ⟨w.heap.size, 0, none⟩) B5 (.slice (some ⟨G2, 0, none⟩) (us.eraseIdx k).length cap2))
        have R6 := hHeld.1
        have HB6 := hide (HB5.out.setCell (Nat.le_refl _) (.slice (some ⟨G2, 0, none⟩) (us.eraseIdx k).length cap2) (p := ⟨w.heap.size, 0, none⟩))
        have z6 := HB6.out.size
        have z5 := hgrow2.size
        clear k5 hHeld hy4
        go_wp2_with fail
        go_meet
        exact ⟨G2, cap2, rfl, hg2, HG6.out, HB6.out, by simp [World.setCell]; omega, fun x hx => by
          simp only [List.mem_cons, List.not_mem_nil, or_false] at hx
          rcases hx with rfl | rfl
          · exact ⟨by simp, by simp, R6⟩
          · exact ⟨Nat.le_refl _, by simp only; omega, B6⟩⟩
    · skip
      go_simp
      refine hK.out _ _ (by exact hHeld) (fun hHeld => ?_)
      clear hK K
      refine mvR 4 (some 10) hHeld ?_
      refine wpAnyH_ready (rs := [0, 7]) (by kernel_rfl) (by simp) ?_
      refine AllReadyH.cons rfl (fun K hK => ?_) (AllReadyH.cons rfl (fun K hK => ?_) AllReadyH.nil)
      · skip
        go_simp
        refine hK.out _ _ (by exact ⟨hHeld.1.more _, hHeld.2.elim fun y h => ⟨y, h.more _⟩⟩) (fun hHeld => ?_)
        clear hK K
        refine wpAnyH_ready (rs := [5, 7]) (by kernel_rfl) (by simp) ?_
        refine AllReadyH.cons rfl (fun K hK => ?_) (AllReadyH.cons rfl (fun K hK => ?_) AllReadyH.nil)
        · skip
          (refine step_append_more _ (by rfl) _ _ _ (by rfl) base 90 j0 _ 2 48 Tryz.underlying30 J0.out J1.out J2.out J3.out rfl (by omega) W0.heap.size 0 0 [] (by rfl) HOW.out (some ⟨G, 0, none⟩) k _ (flatN (us.take k)) (by rfl) (by rw [flatN_len, List.length_take]; omega) (fun _ => ⟨_, rfl, HN1.out⟩) (flatN_one _) (by unfold maxLen; omega) (by omega) (by rw [HZ.out]; omega) (W0.heap.size + 1) HZ.out ?_; intro g1 cap1 w4 hown1 hgrow1 hat1; rw [Nat.zero_add] at hown1 ⊢; rw [List.nil_append] at hown1; have HB4 := hide (below_rows HB2.out hgrow1 (by omega)); have HOW4 := hide hown1; have hg1 : w.heap.size + 1 + 1 ≤ g1 := (by omega); have HN4 := hide ((HG.out.on HB4.out).newsDrop (p := k + 1)); have z4 := HB4.out.size; have z4' : W0.heap.size + 1 ≤ w4.heap.size := (by have := hgrow1.size; rw [HZ.out] at this; exact this); have k4 := ((K9.more (.cells #[] 90)).drew.kept hgrow1 (by intro e; injection e; omega)).one.1; clear hown1 hat1)
          simp only [List.getElem_toArray, List.getElem_cons_zero, List.getElem_cons_succ, Act.put, List.setIfInBounds_toArray, List.set_cons_zero, List.set_cons_succ]
          refine hK.out _ _ (by exact ⟨hHeld.1.kept hgrow1 (by intro e; injection e; omega), hHeld.2.elim fun y h => ⟨y, h.kept hgrow1 (by intro e; injection e; omega)⟩⟩) (fun hHeld => ?_)
          clear hK K
          refine take_one 7 (by kernel_rfl) rfl (fun K hK => ?_)
          go_simp
          refine hK.out _ _ (by exact hHeld) (fun hHeld => ?_)
          clear hK K
          refine mvR 10 (some 16) hHeld ?_
          refine take_one 11 (by kernel_rfl) rfl (fun K hK => ?_)
          (refine step_append_more _ (by rfl) _ _ _ (by rfl) base 90 j0 _ 2 48 Tryz.underlying30 J0.out J1.out J2.out J3.out rfl (by omega) g1 k cap1 (flatN (us.take k)) (by rfl) HOW4.out _ (us.length - (k + 1)) _ (flatN (us.drop (k + 1))) (by rfl) (by rw [flatN_len, List.length_drop]) (fun hm => ⟨⟨G, (k + 1) * 2, none⟩, by first | rfl | (split <;> first | rfl | (exfalso; omega)), HN4.out⟩) (flatN_one _) (by unfold maxLen; omega) (by omega) (by omega) _ rfl ?_; intro G2 cap2 w5 hown2 hgrow2 hat2; have hkr : k + (us.length - (k + 1)) = (us.eraseIdx k).length := (by have := HLR.out; omega); rw [hkr] at hown2 ⊢; have HB5 := hide (below_rows HB4.out hgrow2 (by omega)); have hg2 : w.heap.size + 1 + 1 ≤ G2 := (by omega); have HG5 := hide (HG.out.erased HB5.out hk HLR.out hown2); obtain ⟨y4, hy4⟩ := hHeld.2; have B5 := hy4.kept hgrow2 (by intro e; injection e; omega); have R5 := hHeld.1.kept hgrow2 (by intro e; injection e; omega); have k5 := B5.one; clear hown2 hat2 hkr)
          simp only [List.getElem_toArray, List.getElem_cons_zero, List.getElem_cons_succ, Act.put, List.setIfInBounds_toArray, List.set_cons_zero, List.set_cons_succ]
          refine hK.out _ _ (by exact ⟨R5, _, B5⟩) (fun hHeld => ?_)
          clear hK K
          refine mvR 12 (some 18) hHeld ?_
          refine take_one 13 (by kernel_rfl) rfl (fun K hK => ?_)
          go_simp
          refine hK.out _ _ (by exact ⟨R5.aside (by simp) _, _, B5.put 0 _⟩) (fun hHeld => ?_)
          clear hK K
          refine wpAnyH_done (by kernel_rfl) ?_ _
          refine NoPanic.normal ?_
          generalize (if xc = k + 1 then some (⟨G, 0, none⟩ : Addr) else some ⟨G, (k + 1) * 2, none⟩) = adT
          have B6 := B5.put 0 (.slice (some ⟨G2, 0, none⟩) (us.eraseIdx k).length cap2)
          simp only [List.setIfInBounds_toArray, List.set_cons_zero] at B6
          have HG6 := hide (HG5.out.asideT (p := ⟨w.heap.size, 0, none⟩) B5 (.slice (some ⟨G2, 0, none⟩) (us.eraseIdx k).length cap2))
          have R6 := hHeld.1
          have HB6 := hide (HB5.out.setCell (Nat.le_refl _) (.slice (some ⟨G2, 0, none⟩) (us.eraseIdx k).length cap2) (p := ⟨w.heap.size, 0, none⟩))
          have z6 := HB6.out.size
          have z5 := hgrow2.size
          clear k5 hHeld hy4
          go_wp2_with fail
          go_meet
          exact ⟨G2, cap2, rfl, hg2, HG6.out, HB6.out, by simp [World.setCell]; omega, fun x hx => by
            simp only [List.mem_cons, List.not_mem_nil, or_false] at hx
            rcases hx with rfl | rfl
            · exact ⟨by simp, by simp, R6⟩
            · exact ⟨Nat.le_refl _, by simp only; omega, B6⟩⟩
        · skip
          go_simp
          refine hK.out _ _ (by exact hHeld) (fun hHeld => ?_)
          clear hK K
          refine mvR 10 (some 16) hHeld ?_
          refine take_one 5 (by kernel_rfl) rfl (fun K hK => ?_)
          (refine step_append_more _ (by rfl) _ _ _ (by rfl) base 90 j0 _ 2 48 Tryz.underlying30 J0.out J1.out J2.out J3.out rfl (by omega) W0.heap.size 0 0 [] (by rfl) HOW.out (some ⟨G, 0, none⟩) k _ (flatN (us.take k)) (by rfl) (by rw [flatN_len, List.length_take]; omega) (fun _ => ⟨_, rfl, HN1.out⟩) (flatN_one _) (by unfold maxLen; omega) (by omega) (by rw [HZ.out]; omega) (W0.heap.size + 1) HZ.out ?_; intro g1 cap1 w4 hown1 hgrow1 hat1; rw [Nat.zero_add] at hown1 ⊢; rw [List.nil_append] at hown1; have HB4 := hide (below_rows HB2.out hgrow1 (by omega)); have HOW4 := hide hown1; have hg1 : w.heap.size + 1 + 1 ≤ g1 := (by omega); have HN4 := hide ((HG.out.on HB4.out).newsDrop (p := k + 1)); have z4 := HB4.out.size; have z4' : W0.heap.size + 1 ≤ w4.heap.size := (by have := hgrow1.size; rw [HZ.out] at this; exact this); have k4 := ((K9.more (.cells #[] 90)).drew.kept hgrow1 (by intro e; injection e; omega)).one.1; clear hown1 hat1)
          simp only [List.getElem_toArray, List.getElem_cons_zero, List.getElem_cons_succ, Act.put, List.setIfInBounds_toArray, List.set_cons_zero, List.set_cons_succ]
          refine hK.out _ _ (by exact ⟨hHeld.1.kept hgrow1 (by intro e; injection e; omega), hHeld.2.elim fun y h => ⟨y, h.kept hgrow1 (by intro e; injection e; omega)⟩⟩) (fun hHeld => ?_)
          clear hK K
          refine take_one 11 (by kernel_rfl) rfl (fun K hK => ?_)
          (refine step_append_more _ (by rfl) _ _ _ (by rfl) base 90 j0 _ 2 48 Tryz.underlying30 J0.out J1.out J2.out J3.out rfl (by omega) g1 k cap1 (flatN (us.take k)) (by rfl) HOW4.out _ (us.length - (k + 1)) _ (flatN (us.drop (k + 1))) (by rfl) (by rw [flatN_len, List.length_drop]) (fun hm => ⟨⟨G, (k + 1) * 2, none⟩, by first | rfl | (split <;> first | rfl | (exfalso; omega)), HN4.out⟩) (flatN_one _) (by unfold maxLen; omega) (by omega) (by omega) _ rfl ?_; intro G2 cap2 w5 hown2 hgrow2 hat2; have hkr : k + (us.length - (k + 1)) = (us.eraseIdx k).length := (by have := HLR.out; omega); rw [hkr] at hown2 ⊢; have HB5 := hide (below_rows HB4.out hgrow2 (by omega)); have hg2 : w.heap.size + 1 + 1 ≤ G2 := (by omega); have HG5 := hide (HG.out.erased HB5.out hk HLR.out hown2); obtain ⟨y4, hy4⟩ := hHeld.2; have B5 := hy4.kept hgrow2 (by intro e; injection e; omega); have R5 := hHeld.1.kept hgrow2 (by intro e; injection e; omega); have k5 := B5.one; clear hown2 hat2 hkr)
          simp only [List.getElem_toArray, List.getElem_cons_zero, List.getElem_cons_succ, Act.put, List.setIfInBounds_toArray, List.set_cons_zero, List.set_cons_succ]
          refine hK.out _ _ (by exact ⟨R5, _, B5⟩) (fun hHeld => ?_)
          clear hK K
          refine mvR 12 (some 18) hHeld ?_
          refine take_one 13 (by kernel_rfl) rfl (fun K hK => ?_)
          go_simp
          refine hK.out _ _ (by exact ⟨R5.aside (by simp) _, _, B5.put 0 _⟩) (fun hHeld => ?_)
          clear hK K
          refine wpAnyH_done (by kernel_rfl) ?_ _
          refine NoPanic.normal ?_
          generalize (if xc = k + 1 then some (⟨G, 0, none⟩ : Addr) else some ⟨G, (k + 1) * 2, none⟩) = adT
          have B6 := B5.put 0 (.slice (some ⟨G2, 0, none⟩) (us.eraseIdx k).length cap2)
          simp only [List.setIfInBounds_toArray, List.set_cons_zero] at B6
          have HG6 := hide (HG5.out.asideT (p := ⟨w.heap.size, 0, none⟩) B5 (.slice (some ⟨G2, 0, none⟩) (us.eraseIdx k).length cap2))
          have R6 := hHeld.1
          have HB6 := hide (HB5.out.setCell (Nat.le_refl _) (.slice (some ⟨G2, 0, none⟩) (us.eraseIdx k).length cap2) (p := ⟨w.heap.size, 0, none⟩))
          have z6 := HB6.out.size
          have z5 := hgrow2.size
          clear k5 hHeld hy4
          go_wp2_with fail
          go_meet
          exact ⟨G2, cap2, rfl, hg2, HG6.out, HB6.out, by simp [World.setCell]; omega, fun x hx => by
            simp only [List.mem_cons, List.not_mem_nil, or_false] at hx
            rcases hx with rfl | rfl
            · exact ⟨by simp, by simp, R6⟩
            · exact ⟨Nat.le_refl _, by simp only; omega, B6⟩⟩
      · skip
        go_simp
        refine hK.out _ _ (by exact hHeld) (fun hHeld => ?_)
        clear hK K
        refine mvR 10 (some 16) hHeld ?_
        refine take_one 0 (by kernel_rfl) rfl (fun K hK => ?_)
        go_simp
        refine hK.out _ _ (by exact ⟨hHeld.1.more _, hHeld.2.elim fun y h => ⟨y, h.more _⟩⟩) (fun hHeld => ?_)
        clear hK K
        refine take_one 5 (by kernel_rfl) rfl (fun K hK => ?_)
        (refine step_append_more _ (by rfl) _ _ _ (by rfl) base 90 j0 _ 2 48 Tryz.underlying30 J0.out J1.out J2.out J3.out rfl (by omega) W0.heap.size 0 0 [] (by rfl) HOW.out (some ⟨G, 0, none⟩) k _ (flatN (us.take k)) (by rfl) (by rw [flatN_len, List.length_take]; omega) (fun _ => ⟨_, rfl, HN1.out⟩) (flatN_one _) (by unfold maxLen; omega) (by omega) (by rw [HZ.out]; omega) (W0.heap.size + 1) HZ.out ?_; intro g1 cap1 w4 hown1 hgrow1 hat1; rw [Nat.zero_add] at hown1 ⊢; rw [List.nil_append] at hown1; have HB4 := hide (below_rows HB2.out hgrow1 (by omega)); have HOW4 := hide hown1; have hg1 : w.heap.size + 1 + 1 ≤ g1 := (by omega); have HN4 := hide ((HG.out.on HB4.out).newsDrop (p := k + 1)); have z4 := HB4.out.size; have z4' : W0.heap.size + 1 ≤ w4.heap.size := (by have := hgrow1.size; rw [HZ.out] at this; exact this); have k4 := ((K9.more (.cells #[] 90)).drew.kept hgrow1 (by intro e; injection e; omega)).one.1; clear hown1 hat1)
        simp only [List.getElem_toArray, List.getElem_cons_zero, List.getElem_cons_succ, Act.put, List.setIfInBounds_toArray, List.set_cons_zero, List.set_cons_succ]
        refine hK.out _ _ (by exact ⟨hHeld.1.kept hgrow1 (by intro e; injection e; omega), hHeld.2.elim fun y h => ⟨y, h.kept hgrow1 (by intro e; injection e; omega)⟩⟩) (fun hHeld => ?_)
        clear hK K
        refine take_one 11 (by kernel_rfl) rfl (fun K hK => ?_)
        (refine step_append_more _ (by rfl) _ _ _ (by rfl) base 90 j0 _ 2 48 Tryz.underlying30 J0.out J1.out J2.out J3.out rfl (by omega) g1 k cap1 (flatN (us.take k)) (by rfl) HOW4.out _ (us.length - (k + 1)) _ (flatN (us.drop (k + 1))) (by rfl) (by rw [flatN_len, List.length_drop]) (fun hm => ⟨⟨G, (k + 1) * 2, none⟩, by first | rfl | (split <;> first | rfl | (exfalso; omega)), HN4.out⟩) (flatN_one _) (by unfold maxLen; omega) (by omega) (by omega) _ rfl ?_; intro G2 cap2 w5 hown2 hgrow2 hat2; have hkr : k + (us.length - (k + 1)) = (us.eraseIdx k).length := (by have := HLR.out; omega); rw [hkr] at hown2 ⊢; have HB5 := hide (below_rows HB4.out hgrow2 (by omega)); have hg2 : w.heap.size + 1 + 1 ≤ G2 := (by omega); have HG5 := hide (HG.out.erased HB5.out hk HLR.out hown2); obtain ⟨y4, hy4⟩ := hHeld.2; have B5 := hy4.kept hgrow2 (by intro e; injection e; omega); have R5 := hHeld.1.kept hgrow2 (by intro e; injection e; omega); have k5 := B5.one; clear hown2 hat2 hkr)
        simp only [List.getElem_toArray, List.getElem_cons_zero, List.getElem_cons_succ, Act.put, List.setIfInBounds_toArray, List.set_cons_zero, List.set_cons_succ]
        refine hK.out _ _ (by exact ⟨R5, _, B5⟩) (fun hHeld => ?_)
        clear hK K
        refine mvR 12 (some 18) hHeld ?_
        refine take_one 13 (by kernel_rfl) rfl (fun K hK => ?_)
        go_simp
        refine hK.out _ _ (by exact ⟨R5.aside (by simp) _, _, B5.put 0 _⟩) (fun hHeld => ?_)
        clear hK K
        refine wpAnyH_done (by kernel_rfl) ?_ _
        refine NoPanic.normal ?_
        generalize (if xc = k + 1 then some (⟨G, 0, none⟩ : Addr) else some ⟨G, (k + 1) * 2, none⟩) = adT
        have B6 := B5.put 0 (.slice (some ⟨G2, 0, none⟩) (us.eraseIdx k).length cap2)
        simp only [List.setIfInBounds_toArray, List.set_cons_zero] at B6
        have HG6 := hide (HG5.out.asideT (p := ⟨w.heap.size, 0, none⟩) B5 (.slice (some ⟨G2, 0, none⟩) (us.eraseIdx k).length cap2))
        have R6 := hHeld.1
        have HB6 := hide (HB5.out.setCell (Nat.le_refl _) (.slice (some ⟨G2, 0, none⟩) (us.eraseIdx k).length cap2) (p := ⟨w.heap.size, 0, none⟩))
        have z6 := HB6.out.size
        have z5 := hgrow2.size
        clear k5 hHeld hy4
        go_wp2_with fail
        go_meet
        exact ⟨G2, cap2, rfl, hg2, HG6.out, HB6.out, by simp [World.setCell]; omega, fun x hx => by
          simp only [List.mem_cons, List.not_mem_nil, or_false] at hx
          rcases hx with rfl | rfl
          · exact ⟨by simp, by simp, R6⟩
          · exact ⟨Nat.le_refl _, by simp only; omega, B6⟩⟩
    · skip
      go_simp
      refine hK.out _ _ (by exact hHeld) (fun hHeld => ?_)
      clear hK K
      refine mvR 10 (some 16) hHeld ?_
      refine wpAnyH_ready (rs := [0, 2]) (by kernel_rfl) (by simp) ?_
      refine AllReadyH.cons rfl (fun K hK => ?_) (AllReadyH.cons rfl (fun K hK => ?_) AllReadyH.nil)
      · skip
        go_simp
        refine hK.out _ _ (by exact ⟨hHeld.1.more _, hHeld.2.elim fun y h => ⟨y, h.more _⟩⟩) (fun hHeld => ?_)
        clear hK K
        refine take_one 2 (by kernel_rfl) rfl (fun K hK => ?_)
        go_simp
        refine hK.out _ _ (by exact hHeld) (fun hHeld => ?_)
        clear hK K
        refine mvR 4 (some 10) hHeld ?_
        refine take_one 5 (by kernel_rfl) rfl (fun K hK => ?_)
        (refine step_append_more _ (by rfl) _ _ _ (by rfl) base 90 j0 _ 2 48 Tryz.underlying30 J0.out J1.out J2.out J3.out rfl (by omega) W0.heap.size 0 0 [] (by rfl) HOW.out (some ⟨G, 0, none⟩) k _ (flatN (us.take k)) (by rfl) (by rw [flatN_len, List.length_take]; omega) (fun _ => ⟨_, rfl, HN1.out⟩) (flatN_one _) (by unfold maxLen; omega) (by omega) (by rw [HZ.out]; omega) (W0.heap.size + 1) HZ.out ?_; intro g1 cap1 w4 hown1 hgrow1 hat1; rw [Nat.zero_add] at hown1 ⊢; rw [List.nil_append] at hown1; have HB4 := hide (below_rows HB2.out hgrow1 (by omega)); have HOW4 := hide hown1; have hg1 : w.heap.size + 1 + 1 ≤ g1 := (by omega); have HN4 := hide ((HG.out.on HB4.out).newsDrop (p := k + 1)); have z4 := HB4.out.size; have z4' : W0.heap.size + 1 ≤ w4.heap.size := (by have := hgrow1.size; rw [HZ.out] at this; exact this); have k4 := ((K9.more (.cells #[] 90)).drew.kept hgrow1 (by intro e; injection e; omega)).one.1; clear hown1 hat1)
        simp only [List.getElem_toArray, List.getElem_cons_zero, List.getElem_cons_succ, Act.put, List.setIfInBounds_toArray, List.set_cons_zero, List.set_cons_succ]
        refine hK.out _ _ (by exact ⟨hHeld.1.kept hgrow1 (by intro e; injection e; omega), hHeld.2.elim fun y h => ⟨y, h.kept hgrow1 (by intro e; injection e; omega)⟩⟩) (fun hHeld => ?_)
        clear hK K
        refine take_one 11 (by kernel_rfl) rfl (fun K hK => ?_)
        (refine step_append_more _ (by rfl) _ _ _ (by rfl) base 90 j0 _ 2 48 Tryz.underlying30 J0.out J1.out J2.out J3.out rfl (by omega) g1 k cap1 (flatN (us.take k)) (by rfl) HOW4.out _ (us.length - (k + 1)) _ (flatN (us.drop (k + 1))) (by rfl) (by rw [flatN_len, List.length_drop]) (fun hm => ⟨⟨G, (k + 1) * 2, none⟩, by first | rfl | (split <;> first | rfl | (exfalso; omega)), HN4.out⟩) (flatN_one _) (by unfold maxLen; omega) (by omega) (by omega) _ rfl ?_; intro G2 cap2 w5 hown2 hgrow2 hat2; have hkr : k + (us.length - (k + 1)) = (us.eraseIdx k).length := (by have := HLR.out; omega); rw [hkr] at hown2 ⊢; have HB5 := hide (below_rows HB4.out hgrow2 (by omega)); have hg2 : w.heap.size + 1 + 1 ≤ G2 := (by omega); have HG5 := hide (HG.out.erased HB5.out hk HLR.out hown2); obtain ⟨y4, hy4⟩ := hHeld.2; have B5 := hy4.kept hgrow2 (by intro e; injection e; omega); have R5 := hHeld.1.kept hgrow2 (by intro e; injection e; omega); have k5 := B5.one; clear hown2 hat2 hkr)
        simp only [List.getElem_toArray, List.getElem_cons_zero, List.getElem_cons_succ, Act.put, List.setIfInBounds_toArray, List.set_cons_zero, List.set_cons_succ]
        refine hK.out _ _ (by exact ⟨R5, _, B5⟩) (fun hHeld => ?_)
        clear hK K
        refine mvR 12 (some 18) hHeld ?_
        refine take_one 13 (by kernel_rfl) rfl (fun K hK => ?_)
        go_simp
        refine hK.out _ _ (by exact ⟨R5.aside (by simp) _, _, B5.put 0 _⟩) (fun hHeld => ?_)
        clear hK K
        refine wpAnyH_done (by kernel_rfl) ?_ _
        refine NoPanic.normal ?_
        generalize (if xc = k + 1 then some (⟨G, 0, none⟩ : Addr) else some ⟨G, (k + 1) * 2, none⟩) = adT
        have B6 := B5.put 0 (.slice (some ⟨G2, 0, none⟩) (us.eraseIdx k).length cap2)
        simp only [List.setIfInBounds_toArray, List.set_cons_zero] at B6
        have HG6 := hide (HG5.out.asideT (p := ⟨w.heap.size, 0, none⟩) B5 (.slice (some ⟨G2, 0, none⟩) (us.eraseIdx k).length cap2))
        have R6 := hHeld.1
        have HB6 := hide (HB5.out.setCell (Nat.le_refl _) (.slice (some ⟨G2, 0, none⟩) (us.eraseIdx k).length cap2) (p := ⟨w.heap.size, 0, none⟩))
        have z6 := HB6.out.size
        have z5 := hgrow2.size
        clear k5 hHeld hy4
        go_wp2_with fail
        go_meet
        exact ⟨G2, cap2, rfl, hg2, HG6.out, HB6.out, by simp [World.setCell]; omega, fun x hx => by
          simp only [List.mem_cons, List.not_mem_nil, or_false] at hx
          rcases hx with rfl | rfl
          · exact ⟨by simp, by simp, R6⟩
          · exact ⟨Nat.le_refl _, by simp only; omega, B6⟩⟩
      · skip
        go_simp
        refine hK.out _ _ (by exact hHeld) (fun hHeld => ?_)
        clear hK K
        refine mvR 4 (some 10) hHeld ?_
        refine take_one 0 (by kernel_rfl) rfl (fun K hK => ?_)
        go_simp
        refine hK.out _ _ (by exact ⟨hHeld.1.more _, hHeld.2.elim fun y h => ⟨y, h.more _⟩⟩) (fun hHeld => ?_)
        clear hK K
        refine take_one 5 (by kernel_rfl) rfl (fun K hK => ?_)
        (refine step_append_more _ (by rfl) _ _ _ (by rfl) base 90 j0 _ 2 48 Tryz.underlying30 J0.out J1.out J2.out J3.out rfl (by omega) W0.heap.size 0 0 [] (by rfl) HOW.out (some ⟨G, 0, none⟩) k _ (flatN (us.take k)) (by rfl) (by rw [flatN_len, List.length_take]; omega) (fun _ => ⟨_, rfl, HN1.out⟩) (flatN_one _) (by unfold maxLen; omega) (by omega) (by rw [HZ.out]; omega) (W0.heap.size + 1) HZ.out ?_; intro g1 cap1 w4 hown1 hgrow1 hat1; rw [Nat.zero_add] at hown1 ⊢; rw [List.nil_append] at hown1; have HB4 := hide (below_rows HB2.out hgrow1 (by omega)); have HOW4 := hide hown1; have hg1 : w.heap.size + 1 + 1 ≤ g1 := (by omega); have HN4 := hide ((HG.out.on HB4.out).newsDrop (p := k + 1)); have z4 := HB4.out.size; have z4' : W0.heap.size + 1 ≤ w4.heap.size := (by have := hgrow1.size; rw [HZ.out] at this; exact this); have k4 := ((K9.more (.cells #[] 90)).drew.kept hgrow1 (by intro e; injection e; omega)).one.1; clear hown1 hat1)
        simp only [List.getElem_toArray, List.getElem_cons_zero, List.getElem_cons_succ, Act.put, List.setIfInBounds_toArray, List.set_cons_zero, List.set_cons_succ]
        refine hK.out _ _ (by exact ⟨hHeld.1.kept hgrow1 (by intro e; injection e; omega), hHeld.2.elim fun y h => ⟨y, h.kept hgrow1 (by intro e; injection e; omega)⟩⟩) (fun hHeld => ?_)
        clear hK K
        refine take_one 11 (by kernel_rfl) rfl (fun K hK => ?_)
        (refine step_append_more _ (by rfl) _ _ _ (by rfl) base 90 j0 _ 2 48 Tryz.underlying30 J0.out J1.out J2.out J3.out rfl (by omega) g1 k cap1 (flatN (us.take k)) (by rfl) HOW4.out _ (us.length - (k + 1)) _ (flatN (us.drop (k + 1))) (by rfl) (by rw [flatN_len, List.length_drop]) (fun hm => ⟨⟨G, (k + 1) * 2, none⟩, by first | rfl | (split <;> first | rfl | (exfalso; omega)), HN4.out⟩) (flatN_one _) (by unfold maxLen; omega) (by omega) (by omega) _ rfl ?_; intro G2 cap2 w5 hown2 hgrow2 hat2; have hkr : k + (us.length - (k + 1)) = (us.eraseIdx k).length := (by have := HLR.out; omega); rw [hkr] at hown2 ⊢; have HB5 := hide (below_rows HB4.out hgrow2 (by omega)); have hg2 : w.heap.size + 1 + 1 ≤ G2 := (by omega); have HG5 := hide (HG.out.erased HB5.out hk HLR.out hown2); obtain ⟨y4, hy4⟩ := hHeld.2; have B5 := hy4.kept hgrow2 (by intro e; injection e; omega); have R5 := hHeld.1.kept hgrow2 (by intro e; injection e; omega); have k5 := B5.one; clear hown2 hat2 hkr)
        simp only [List.getElem_toArray, List.getElem_cons_zero, List.getElem_cons_succ, Act.put, List.setIfInBounds_toArray, List.set_cons_zero, List.set_cons_succ]
        refine hK.out _ _ (by exact ⟨R5, _, B5⟩) (fun hHeld => ?_)
        clear hK K
        refine mvR 12 (some 18) hHeld ?_
        refine take_one 13 (by kernel_rfl) rfl (fun K hK => ?_)
        go_simp
        refine hK.out _ _ (by exact ⟨R5.aside (by simp) _, _, B5.put 0 _⟩) (fun hHeld => ?_)
        clear hK K
        refine wpAnyH_done (by kernel_rfl) ?_ _
        refine NoPanic.normal ?_
        generalize (if xc = k + 1 then some (⟨G, 0, none⟩ : Addr) else some ⟨G, (k + 1) * 2, none⟩) = adT
        have B6 := B5.put 0 (.slice (some ⟨G2, 0, none⟩) (us.eraseIdx k).length cap2)
        simp only [List.setIfInBounds_toArray, List.set_cons_zero] at B6
        have HG6 := hide (HG5.out.asideT (p := ⟨w.heap.size, 0, none⟩) B5 (.slice (some ⟨G2, 0, none⟩) (us.eraseIdx k).length cap2))
        have R6 := hHeld.1
        have HB6 := hide (HB5.out.setCell (Nat.le_refl _) (.slice (some ⟨G2, 0, none⟩) (us.eraseIdx k).length cap2) (p := ⟨w.heap.size, 0, none⟩))
        have z6 := HB6.out.size
        have z5 := hgrow2.size
        clear k5 hHeld hy4
        go_wp2_with fail
        go_meet
        exact ⟨G2, cap2, rfl, hg2, HG6.out, HB6.out, by simp [World.setCell]; omega, fun x hx => by
          simp only [List.mem_cons, List.not_mem_nil, or_false] at hx
          rcases hx with rfl | rfl
          · exact ⟨by simp, by simp, R6⟩
          · exact ⟨Nat.le_refl _, by simp only; omega, B6⟩⟩
  case rest =>
    obtain ⟨G2, cap2, rfl, hg2, HG5, I5⟩ := hcut
    rename World => w5
    have HFG : Hid (fallG us k = lastN (owedN (us.eraseIdx k) k)) := rfl
    have HRB : Hid (∀ (i : Nat) n, (us.eraseIdx k)[i]? = some n → n.ss.length = 4 ∧ ∀ v ∈ n.ss, v.ts.length ≤ 1048576) := fun i n hi => by
      rw [List.getElem?_eraseIdx] at hi
      split at hi
      · exact HB.out i n hi
      · exact HB.out (i + 1) n hi
    have HR0 := HR00
    clear HR00
    generalize us.eraseIdx k = r at HG5 I5 HFG HRB HLR HR0 ⊢
    have hr1 : 1 ≤ r.length := by have := HLR.out; omega
    have hr3 : r.length ≤ 3 := by have := HLR.out; omega
    have k5 := (I5.nth 1 rfl).one.1
    obtain ⟨q, hq⟩ : ∃ q, r.length - 1 = q := ⟨_, rfl⟩
    have HQ := hide hq
    have a0 : (r.length : Int) - 1 = (q : Int) := by omega
    have a1 : (0 : Int) ≤ (q : Int) := by omega
    have a2 : (q : Int) < (r.length : Int) := by omega
    have a2' : q < r.length := by omega
    have a4 : IntKind.i64.wrap (q : Int) = (q : Int) := by rw [IntKind.wrap_i64]; omega
    clear hq
    by_cases hc : 0 < k ∧ k < r.length
    · have b1 : (k : Int) > 0 := by omega
      have b2 : (k : Int) < (r.length : Int) := by omega
      obtain ⟨p, hp⟩ : ∃ p, k - 1 = p := ⟨_, rfl⟩
      have b0 : (k : Int) - 1 = (p : Int) := by omega
      have b3 : (0 : Int) ≤ (p : Int) := by omega
      have b4 : (p : Int) < (r.length : Int) := by omega
      have b6 : IntKind.i64.wrap (p : Int) = (p : Int) := by rw [IntKind.wrap_i64]; omega
      obtain ⟨cur5, hcg5⟩ := HG5.out.cgs (by omega)
      obtain ⟨n, hn⟩ : ∃ n, r[p]? = some n := ⟨_, List.getElem?_eq_getElem (by omega)⟩
      obtain ⟨m, hm⟩ : ∃ m, r[k]? = some m := ⟨_, List.getElem?_eq_getElem hc.2⟩
      have HOW5 := hide (owedN_at hc.1 (by rw [hp]; exact hn) hm)
      rw [hp] at HOW5
      have hsn := HRB.out p n hn
      have hsm := HRB.out k m hm
      have n5 := (hcg5.blk.at (p * 2)).trans (hcg5.at' p n hn).1
      have m5 := (hcg5.blk.at (k * 2)).trans (hcg5.at' k m hm).1
      rw [hsn.1] at n5
      rw [hsm.1] at m5
      have W5c := (hcg5.at' p n hn).2
      have CL := hide (l3Lack_any n.sa m.sa n.sc m.sc n.ss m.ss w5.drew hsn.1 hsm.1 hsn.2 ((hcg5.store p n hn).on (Below.refl _ _).drew) ((hcg5.store k m hm).on (Below.refl _ _).drew))
      have BG5 := hcg5.blk
      have HNN := hide hn
      have HWC := hide W5c
      clear hsn hsm hcg5 hn hm hc W5c hp
      go_wp2_with fail
      refine wp_region_noPanic ?_
      refine wp_region_held_drew (S := (fun w' => w'.cell? ⟨w.heap.size, 0, none⟩ = some (.slice (some ⟨G2, 0, none⟩) r.length cap2) ∧ Inv w (w.heap.size + 1 + 1) [(w.heap.size + 1, 32, #[.slice none 0 0]), (w.heap.size, 32, #[.slice (some ⟨G2, 0, none⟩) r.length cap2])] w')) (by kernel_rfl) (by exact ⟨(I5.drew.nth 1 rfl).at 0, I5.drew⟩) (fun hHeld => ?_)
      refine mvR 0 (some 29) hHeld ?_
      refine mvR 1 (some 30) hHeld ?_
      refine mvR 2 (some 31) hHeld ?_
      refine mvR 3 (some 32) hHeld ?_
      refine mvR 4 (some 33) hHeld ?_
      refine mvR 5 (some 34) hHeld ?_
      refine mvR 6 (some 35) hHeld ?_
      refine mvR 7 (some 36) hHeld ?_
      refine mvR 8 (some 37) hHeld ?_
      refine mvR 9 (some 38) hHeld ?_
      refine mvR 11 (some 40) hHeld ?_
      refine mvR 12 (some 41) hHeld ?_
      refine mvR 13 (some 42) hHeld ?_
      refine mvR 14 (some 43) hHeld ?_
      refine mvR 15 (some 44) hHeld ?_
      refine wpAnyH_ready (rs := [10, 16]) (by kernel_rfl) (by simp) ?_
      refine AllReadyH.cons rfl (fun K hK => ?_) (AllReadyH.cons rfl (fun K hK => ?_) AllReadyH.nil)
      · skip
        go_simp
        refine hK.out _ _ (by exact hHeld) (fun hHeld => ?_)
        clear hK K
        refine take_one 16 (by kernel_rfl) rfl (fun K hK => ?_)
        go_simp
        refine hK.out _ _ (by exact hHeld) (fun hHeld => ?_)
        clear hK K
        refine take_one 17 (by kernel_rfl) rfl (fun K hK => ?_)
        go_simp
        ((with_reducible refine CL.out.mono ?_); rintro e w6 ⟨x, ls, rfl, hll, hcr, hb6⟩; obtain ⟨A6, cap6, rfl, -⟩ := hcr.resS; have HLL := hide hll; have HCR := hide hcr; have HB6 := hide hb6; have N6 := BG5.drew.on hb6; have q6 := (N6.at (p * 2 + 1)).trans HWC.out; have f6 := N6.loose (p * 2 + 1); clear hll hcr)
        try go_wp2_with fail
        refine hK.out _ _ (by exact ⟨((hHeld.2.on HB6.out).nth 1 rfl).at 0, hHeld.2.on HB6.out⟩) (fun hHeld => ?_)
        clear hK K
        refine mvR 18 (some 47) hHeld ?_
        refine mvR 19 (some 48) hHeld ?_
        refine take_one 20 (by kernel_rfl) rfl (fun K hK => ?_)
        go_simp
        refine hK.out _ _ (by exact ⟨((hHeld.2.set (p := ⟨G2, p * 2 + 1, none⟩) (by simp only; omega) (by simp only; omega) _).nth 1 rfl).at 0, hHeld.2.set (p := ⟨G2, p * 2 + 1, none⟩) (by simp only; omega) (by simp only; omega) _⟩) (fun hHeld => ?_)
        clear hK K
        refine wpAnyH_done (by kernel_rfl) ?_ _
        refine NoPanic.normal ?_
        have I9 := hHeld.2
        have hlo := HG5.out.lo
        have GG := (HG5.out.on (Below.refl _ _).drew).newWait (A := A6) (cap := cap6) (ws := ls) HNN.out HB6.out (HCR.out.down hlo) (fun y hy => .inr (HCR.out.footLo hy))
        obtain ⟨r1, hr⟩ : ∃ r1, r1 = r.set p ⟨n.sa, n.sc, n.ss, A6, cap6, ls⟩ := ⟨_, rfl⟩
        rw [← hr] at GG
        have HL1 : Hid (r1.length = r.length) := (by unfold Hid; rw [hr, List.length_set])
        have HG9' := hide GG
        have HN9 : Hid (NL r1 (owedN r k)) := (by unfold Hid; rw [hr, HOW5.out]; exact nl_set (nl_refl r) ⟨rfl, like_refl _, HLL.out.1, HLL.out.2⟩)
        have HR1 : Hid (∀ (i : Nat) m, r1[i]? = some m → ∀ y, FootO m y → FootK (.slice (some ⟨G, 0, none⟩) us.length xc) us y ∨ w.heap.size ≤ y) := (by rw [hr]; exact foot_set HR0.out HNN.out (fun y hy => by have h1 := HCR.out.foot (c := cap6) hy; have e : w5.drew.heap.size = w5.heap.size := rfl; have := I5.base; omega))
        clear hr GG N6 q6 f6 n5 m5 hHeld BG5 hb6 CL k5
        generalize w6.setCell ⟨G2, p * 2 + 1, none⟩ (.slice A6 ls.length cap6) = W9 at I9 HG9' ⊢
        have HG9 : Hid (GRow base W9 (.slice (some ⟨G2, 0, none⟩) r1.length cap2) r1) := (by unfold Hid; rw [HL1.out]; exact HG9'.out)
        obtain ⟨cur9, hcg9⟩ := HG9.out.cgs (by rw [HL1.out]; omega)
        obtain ⟨nl, hnl⟩ : ∃ n, r1[q]? = some n := ⟨_, List.getElem?_eq_getElem (by rw [HL1.out]; omega)⟩
        have HNL := hide hnl
        have n9 := (hcg9.blk.at (q * 2 + 1)).trans (hcg9.at' q nl hnl).2
        have f9 := hcg9.blk.loose (q * 2 + 1)
        have k9 := (I9.nth 1 rfl).one.1
        have HGG := hide (HG9.out.newWait (A := none) (cap := 0) (ws := []) HNL.out (Below.refl _ _) (CRow.start base _ HG9.out.lo) (fun y hy => by
          rcases hy with hy | hy
          · exact absurd rfl hy.1
          · simp [Value.ownBlock] at hy))
        have I10 := I9.set (p := ⟨G2, q * 2 + 1, none⟩) (by simp only; omega) (by simp only; omega) (.slice none 0 0)
        have B10 := I10.nth 0 rfl
        have k10 := (I10.nth 1 rfl).one.1
        have q10 := B10.one
        clear hcg9 hnl
        go_wp2
        refine bodyPost_ret (v := .agg #[.slice (some ⟨G2, 0, none⟩) r.length cap2]) (by simp [results, Tryz.results43, go_sem, q10]) rfl ?_
        refine ⟨G2, cap2, r1.set q (bare nl), by rw [List.length_set, HL1.out], ?_, ?_, I10.below.setCell (by simp only; omega) _, foot_bare (by omega) HR1.out HNL.out⟩
        · rw [HFG.out]
          have := lastN_like HN9.out
          rw [lastN_at (n := nl) (by rw [HL1.out, HQ.out]; exact HNL.out), HL1.out, HQ.out] at this
          exact this
        · rw [List.length_set]
          exact HGG.out.asideT (p := ⟨w.heap.size + 1, 0, none⟩) B10 _
      · skip
        go_simp
        refine hK.out _ _ (by exact hHeld) (fun hHeld => ?_)
        clear hK K
        refine take_one 10 (by kernel_rfl) rfl (fun K hK => ?_)
        go_simp
        refine hK.out _ _ (by exact hHeld) (fun hHeld => ?_)
        clear hK K
        refine take_one 17 (by kernel_rfl) rfl (fun K hK => ?_)
        go_simp
        ((with_reducible refine CL.out.mono ?_); rintro e w6 ⟨x, ls, rfl, hll, hcr, hb6⟩; obtain ⟨A6, cap6, rfl, -⟩ := hcr.resS; have HLL := hide hll; have HCR := hide hcr; have HB6 := hide hb6; have N6 := BG5.drew.on hb6; have q6 := (N6.at (p * 2 + 1)).trans HWC.out; have f6 := N6.loose (p * 2 + 1); clear hll hcr)
        try go_wp2_with fail
        refine hK.out _ _ (by exact ⟨((hHeld.2.on HB6.out).nth 1 rfl).at 0, hHeld.2.on HB6.out⟩) (fun hHeld => ?_)
        clear hK K
        refine mvR 18 (some 47) hHeld ?_
        refine mvR 19 (some 48) hHeld ?_
        refine take_one 20 (by kernel_rfl) rfl (fun K hK => ?_)
        go_simp
        refine hK.out _ _ (by exact ⟨((hHeld.2.set (p := ⟨G2, p * 2 + 1, none⟩) (by simp only; omega) (by simp only; omega) _).nth 1 rfl).at 0, hHeld.2.set (p := ⟨G2, p * 2 + 1, none⟩) (by simp only; omega) (by simp only; omega) _⟩) (fun hHeld => ?_)
        clear hK K
        refine wpAnyH_done (by kernel_rfl) ?_ _
        refine NoPanic.normal ?_
        have I9 := hHeld.2
        have hlo := HG5.out.lo
        have GG := (HG5.out.on (Below.refl _ _).drew).newWait (A := A6) (cap := cap6) (ws := ls) HNN.out HB6.out (HCR.out.down hlo) (fun y hy => .inr (HCR.out.footLo hy))
        obtain ⟨r1, hr⟩ : ∃ r1, r1 = r.set p ⟨n.sa, n.sc, n.ss, A6, cap6, ls⟩ := ⟨_, rfl⟩
        rw [← hr] at GG
        have HL1 : Hid (r1.length = r.length) := (by unfold Hid; rw [hr, List.length_set])
        have HG9' := hide GG
        have HN9 : Hid (NL r1 (owedN r k)) := (by unfold Hid; rw [hr, HOW5.out]; exact nl_set (nl_refl r) ⟨rfl, like_refl _, HLL.out.1, HLL.out.2⟩)
        have HR1 : Hid (∀ (i : Nat) m, r1[i]? = some m → ∀ y, FootO m y → FootK (.slice (some ⟨G, 0, none⟩) us.length xc) us y ∨ w.heap.size ≤ y) := (by rw [hr]; exact foot_set HR0.out HNN.out (fun y hy => by have h1 := HCR.out.foot (c := cap6) hy; have e : w5.drew.heap.size = w5.heap.size := rfl; have := I5.base; omega))
        clear hr GG N6 q6 f6 n5 m5 hHeld BG5 hb6 CL k5
        generalize w6.setCell ⟨G2, p * 2 + 1, none⟩ (.slice A6 ls.length cap6) = W9 at I9 HG9' ⊢
        have HG9 : Hid (GRow base W9 (.slice (some ⟨G2, 0, none⟩) r1.length cap2) r1) := (by unfold Hid; rw [HL1.out]; exact HG9'.out)
        obtain ⟨cur9, hcg9⟩ := HG9.out.cgs (by rw [HL1.out]; omega)
        obtain ⟨nl, hnl⟩ : ∃ n, r1[q]? = some n := ⟨_, List.getElem?_eq_getElem (by rw [HL1.out]; omega)⟩
        have HNL := hide hnl
        have n9 := (hcg9.blk.at (q * 2 + 1)).trans (hcg9.at' q nl hnl).2
        have f9 := hcg9.blk.loose (q * 2 + 1)
        have k9 := (I9.nth 1 rfl).one.1
        have HGG := hide (HG9.out.newWait (A := none) (cap := 0) (ws := []) HNL.out (Below.refl _ _) (CRow.start base _ HG9.out.lo) (fun y hy => by
          rcases hy with hy | hy
          · exact absurd rfl hy.1
          · simp [Value.ownBlock] at hy))
        have I10 := I9.set (p := ⟨G2, q * 2 + 1, none⟩) (by simp only; omega) (by simp only; omega) (.slice none 0 0)
        have B10 := I10.nth 0 rfl
        have k10 := (I10.nth 1 rfl).one.1
        have q10 := B10.one
        clear hcg9 hnl
        go_wp2
        refine bodyPost_ret (v := .agg #[.slice (some ⟨G2, 0, none⟩) r.length cap2]) (by simp [results, Tryz.results43, go_sem, q10]) rfl ?_
        refine ⟨G2, cap2, r1.set q (bare nl), by rw [List.length_set, HL1.out], ?_, ?_, I10.below.setCell (by simp only; omega) _, foot_bare (by omega) HR1.out HNL.out⟩
        · rw [HFG.out]
          have := lastN_like HN9.out
          rw [lastN_at (n := nl) (by rw [HL1.out, HQ.out]; exact HNL.out), HL1.out, HQ.out] at this
          exact this
        · rw [List.length_set]
          exact HGG.out.asideT (p := ⟨w.heap.size + 1, 0, none⟩) B10 _
    · have hcd : (k : Int) > 0 → ¬ ((k : Int) < (r.length : Int)) := fun h h' => hc ⟨by omega, by omega⟩
      have HN9 : Hid (NL r (owedN r k)) := by unfold Hid; rw [owedN_head hc]; exact nl_refl r
      obtain ⟨r1, hr⟩ : ∃ r1, r1 = r := ⟨_, rfl⟩
      have HL1 : Hid (r1.length = r.length) := by unfold Hid; rw [hr]
      have HG9 : Hid (GRow base w5 (.slice (some ⟨G2, 0, none⟩) r1.length cap2) r1) := by unfold Hid; rw [hr]; exact HG5.out
      have HN9 : Hid (NL r1 (owedN r k)) := by unfold Hid; rw [hr]; exact HN9.out
      have HR1 : Hid (∀ (i : Nat) m, r1[i]? = some m → ∀ y, FootO m y → FootK (.slice (some ⟨G, 0, none⟩) us.length xc) us y ∨ w.heap.size ≤ y) := by rw [hr]; exact fun i m hi y hy => .inl (HR0.out i m hi y hy)
      clear hr hc
      have I9 := I5
      clear k5 I5
      by_cases hk0 : k = 0
      · have b1 : ¬ ((k : Int) > 0) := by omega
        clear hcd hk0
        obtain ⟨cur9, hcg9⟩ := HG9.out.cgs (by rw [HL1.out]; omega)
        obtain ⟨nl, hnl⟩ : ∃ n, r1[q]? = some n := ⟨_, List.getElem?_eq_getElem (by rw [HL1.out]; omega)⟩
        have HNL := hide hnl
        have n9 := (hcg9.blk.at (q * 2 + 1)).trans (hcg9.at' q nl hnl).2
        have f9 := hcg9.blk.loose (q * 2 + 1)
        have k9 := (I9.nth 1 rfl).one.1
        have HGG := hide (HG9.out.newWait (A := none) (cap := 0) (ws := []) HNL.out (Below.refl _ _) (CRow.start base _ HG9.out.lo) (fun y hy => by
          rcases hy with hy | hy
          · exact absurd rfl hy.1
          · simp [Value.ownBlock] at hy))
        have I10 := I9.set (p := ⟨G2, q * 2 + 1, none⟩) (by simp only; omega) (by simp only; omega) (.slice none 0 0)
        have B10 := I10.nth 0 rfl
        have k10 := (I10.nth 1 rfl).one.1
        have q10 := B10.one
        clear hcg9 hnl
        go_wp2
        refine bodyPost_ret (v := .agg #[.slice (some ⟨G2, 0, none⟩) r.length cap2]) (by simp [results, Tryz.results43, go_sem, q10]) rfl ?_
        refine ⟨G2, cap2, r1.set q (bare nl), by rw [List.length_set, HL1.out], ?_, ?_, I10.below.setCell (by simp only; omega) _, foot_bare (by omega) HR1.out HNL.out⟩
        · rw [HFG.out]
          have := lastN_like HN9.out
          rw [lastN_at (n := nl) (by rw [HL1.out, HQ.out]; exact HNL.out), HL1.out, HQ.out] at this
          exact this
        · rw [List.length_set]
          exact HGG.out.asideT (p := ⟨w.heap.size + 1, 0, none⟩) B10 _
      · have b1 : (k : Int) > 0 := by omega
        have b2 := hcd b1
        clear hcd hk0
        obtain ⟨cur9, hcg9⟩ := HG9.out.cgs (by rw [HL1.out]; omega)
        obtain ⟨nl, hnl⟩ : ∃ n, r1[q]? = some n := ⟨_, List.getElem?_eq_getElem (by rw [HL1.out]; omega)⟩
        have HNL := hide hnl
        have n9 := (hcg9.blk.at (q * 2 + 1)).trans (hcg9.at' q nl hnl).2
        have f9 := hcg9.blk.loose (q * 2 + 1)
        have k9 := (I9.nth 1 rfl).one.1
        have HGG := hide (HG9.out.newWait (A := none) (cap := 0) (ws := []) HNL.out (Below.refl _ _) (CRow.start base _ HG9.out.lo) (fun y hy => by
          rcases hy with hy | hy
          · exact absurd rfl hy.1
          · simp [Value.ownBlock] at hy))
        have I10 := I9.set (p := ⟨G2, q * 2 + 1, none⟩) (by simp only; omega) (by simp only; omega) (.slice none 0 0)
        have B10 := I10.nth 0 rfl
        have k10 := (I10.nth 1 rfl).one.1
        have q10 := B10.one
        clear hcg9 hnl
        go_wp2
        refine bodyPost_ret (v := .agg #[.slice (some ⟨G2, 0, none⟩) r.length cap2]) (by simp [results, Tryz.results43, go_sem, q10]) rfl ?_
        refine ⟨G2, cap2, r1.set q (bare nl), by rw [List.length_set, HL1.out], ?_, ?_, I10.below.setCell (by simp only; omega) _, foot_bare (by omega) HR1.out HNL.out⟩
        · rw [HFG.out]
          have := lastN_like HN9.out
          rw [lastN_at (n := nl) (by rw [HL1.out, HQ.out]; exact HNL.out), HL1.out, HQ.out] at this
          exact this
        · rw [List.length_set]
          exact HGG.out.asideT (p := ⟨w.heap.size + 1, 0, none⟩) B10 _
end Go.Proofs.YtnaggcdhimcilaaGreat
