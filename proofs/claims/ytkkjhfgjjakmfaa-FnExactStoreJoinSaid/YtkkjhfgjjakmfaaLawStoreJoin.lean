/- The law FnExactStoreJoin holds: for every two stores the program's StoreJoin answers as the model's, leaves its arguments as they were, and answers in memory of its own. No condition. -/
import Derived.Test.YtkkjhfgjjakmfaaLift3
import Derived.Test.YtkkjhfgjjakmfaaStoreJoin2
import Derived.Test.YtkkjhfgjjakmfaaReg
import Derived.Deep.DeepCutAuto
namespace Go.Proofs.Ytkkjhfgjjakmfaa.LawStoreJoin
open Go.ChangeShapes Go.WideShapes Go.ChangeAt Go.RowKit Go.Joins
attribute [local go_sem ↓] Go.wp_at_zero Go.wp_at_succ

theorem like_both {us us' vs : List V} (hl : us.length = vs.length) (hl' : us'.length = vs.length) (h : Like us vs) (h' : Like us' vs) : Like us us' := fun i v v' hi hi' => by
  have hlt := (List.getElem?_eq_some_iff.1 hi).1
  have hx := List.getElem?_eq_getElem (l := vs) (i := i) (by omega)
  obtain ⟨a1, a2, a3, a4, a5, a6⟩ := h i v _ hi hx
  obtain ⟨b1, b2, b3, b4, b5, b6⟩ := h' i v' _ hi' hx
  exact ⟨a1.trans b1.symm, a2.trans b2.symm, a3.trans b3.symm, a4.trans b4.symm, a5.trans b5.symm, a6.trans b6.symm⟩
theorem small_like {us vs : List V} (hl : us.length = vs.length) (h : Like us vs) (hs : Small vs) : Small us := fun v hv => by
  obtain ⟨i, hi⟩ := List.getElem?_of_mem hv
  have hlt := (List.getElem?_eq_some_iff.1 hi).1
  have hx := List.getElem?_eq_getElem (l := vs) (i := i) (by omega)
  obtain ⟨_, _, _, e4, e5, _⟩ := h i v _ hi hx
  have := hs _ (List.mem_of_getElem? hx)
  rw [e4, e5]
  exact this
theorem tot_like {us vs : List V} (hl : us.length = vs.length) (h : Like us vs) : tot us = tot vs := by
  unfold tot
  congr 1
  apply List.ext_getElem?
  intro i
  rw [List.getElem?_map, List.getElem?_map]
  by_cases hi : i < us.length
  · have h1 := List.getElem?_eq_getElem hi
    have h2 := List.getElem?_eq_getElem (l := vs) (i := i) (by omega)
    obtain ⟨_, _, _, e4, e5, _⟩ := h i _ _ h1 h2
    rw [h1, h2]
    simp [e4, e5]
  · rw [List.getElem?_eq_none (by omega), List.getElem?_eq_none (by omega)]

theorem like_len {a b c : List V} (h : a.length = b.length) (h' : c.length = b.length) : a.length = c.length := h.trans h'.symm
theorem keep_like2 {us vs : List V} {v v' : V} (hl : us.length = vs.length) (h : Like us vs) (hv : V.like v' v) : Like (keepL us v') (keepL vs v) := by
  obtain ⟨e1, e2, e3, e4, e5, e6⟩ := hv
  intro i x y hx hy
  have hk := like_keep (v := v) hl h
  cases hz : us[v'.k.toNat]? with
  | none =>
    have z1 : keepL us v' = us := by unfold keepL; rw [hz]
    have z2 : keepL us v = us := by unfold keepL; rw [← e1, hz]
    rw [z1] at hx
    rw [z2] at hk
    exact hk i x y hx hy
  | some z =>
    cases hb : lessB z.t z.u v'.t v'.u with
    | false =>
      rw [keepL_no hz hb] at hx
      rw [keepL_no (by rw [← e1]; exact hz) (by rw [← e2, ← e3]; exact hb)] at hk
      exact hk i x y hx hy
    | true =>
      rw [keepL_yes hz hb] at hx
      have hz' : us[v.k.toNat]? = some z := by rw [← e1]; exact hz
      rw [keepL_yes hz' (by rw [← e2, ← e3]; exact hb)] at hk
      by_cases e : i = v'.k.toNat
      · subst e
        have hlt := (List.getElem?_eq_some_iff.1 hz).1
        rw [List.getElem?_set_self hlt] at hx
        injection hx with hx
        have := hk v'.k.toNat v y (by rw [e1, List.getElem?_set_self (by rw [← e1]; exact hlt)]) hy
        subst hx
        obtain ⟨q1, q2, q3, q4, q5, q6⟩ := this
        exact ⟨e1.trans q1, e2.trans q2, e3.trans q3, e4.trans q4, e5.trans q5, e6.trans q6⟩
      · rw [List.getElem?_set_ne (fun e' => e e'.symm)] at hx
        exact hk i x y (by rw [List.getElem?_set_ne (fun e' => e (by rw [e1]; exact e'.symm))]; exact hx) hy
theorem fold_like2 : ∀ (ub bs us vs : List V), ub.length = bs.length → Like ub bs → us.length = vs.length → Like us vs → Like (foldK us ub) (foldK vs bs)
  | [], [], _, _, _, _, _, h => h
  | x :: r, y :: t, us, vs, hlb, hb, hl, h => fold_like2 r t (keepL us x) (keepL vs y) (by simpa using hlb) (fun i p q hp hq => hb (i + 1) p q (by simpa using hp) (by simpa using hq)) (by rw [keepL_len, keepL_len, hl]) (keep_like2 hl h (hb 0 x y rfl rfl))
theorem joinR_like {us vs ub bs : List V} (hl : us.length = vs.length) (h : Like us vs) (hlb : ub.length = bs.length) (hb : Like ub bs) : (joinR us ub).length = (joinR vs bs).length ∧ Like (joinR us ub) (joinR vs bs) := by
  unfold joinR
  rw [storeB_like hl h, storeB_like hlb hb]
  split
  · exact ⟨by rw [foldK_len, foldK_len, hl], fold_like2 ub bs us vs hlb hb hl h⟩
  · exact ⟨rfl, like_refl []⟩
theorem answer_like {w : World} {rs rs' : List V} {e : Ending} {w' : World} (hl : rs.length = rs'.length) (h : Like rs rs') (ha : AnswerS w rs e w') : AnswerS w rs' e w' := by
  obtain ⟨x, us, h1, h2, h3, h4, h5⟩ := ha
  exact ⟨x, us, h1, h2.trans hl, like_trans h2 h3 h, h4, h5⟩

set_option maxRecDepth 100000 in
set_option maxHeartbeats 4000000 in
theorem walk (a : Option Addr) (c : Nat) (vs : List V) (a2 : Option Addr) (c2 : Nat) (bs : List V) (w : World) (hv : Vg w w.heap.size a vs) (hl : vs.length ≤ 9223372036854775807) (hm0 : ∀ v ∈ vs, v.ts.length ≤ 9223372036854775807 ∧ v.s.size ≤ 9223372036854775807) (hv2 : Vg w w.heap.size a2 bs) (hl1 : bs.length ≤ 9223372036854775807) (hm1 : ∀ v ∈ bs, v.ts.length ≤ 9223372036854775807 ∧ v.s.size ≤ 9223372036854775807) :
    Calls Try.prog 7 #[.agg #[.slice a vs.length c], .agg #[.slice a2 bs.length c2]] w fun e w' => e = .returned (.bool true) ∧ Below w.heap.size w w' := by
  have S0 := ((Inv.start w).box 37 #[.slice a vs.length c]).box 37 #[.slice a2 bs.length c2]
  simp only [World.size_alloc] at S0
  have HM := hide hm0
  have HMB := hide hm1
  clear hm0 hm1
  by_cases hsum : vs.length + tot vs ≤ 1048576
  · have hn : vs.length ≤ 1048576 := by omega
    have SM : Hid (Small vs) := fun v hv => ⟨by have := tot_mem hv; omega, (HM.out v hv).2⟩
    have HFEW := hide (few_join vs bs)
    have hp : ¬ ((1048576 : Int) - (vs.length : Int) - (tot vs : Int) < 0) := by omega
    go_enter Try.func7, Try.ntmps7
    go_wp2_with fail
    generalize (w.alloc (.cells #[.slice a vs.length c] 37)).alloc (.cells #[.slice a2 bs.length c2] 37) = W at S0 ⊢
    refine (szStore_fits a c vs 1048576 _ (by omega) (by omega) ((hv.on S0.below).up S0.base)).mono ?_
    rintro e w1 ⟨rfl, hb1⟩
    have S1 := S0.on hb1
    have k1 := (S1.nth 0 rfl).one.1
    clear S0
    go_wp2_with fail
    by_cases hsum2 : (bs.length : Int) + tot bs ≤ 1048576 - (vs.length : Int) - (tot vs : Int)
    · have hn1 : bs.length ≤ 1048576 := by omega
      have SB : Hid (Small bs) := fun v hv => ⟨by have := tot_mem hv; omega, (HMB.out v hv).2⟩
      have hp2 : ¬ ((1048576 : Int) - (vs.length : Int) - (tot vs : Int) - (bs.length : Int) - (tot bs : Int) < 0) := by omega
      have SC : ∀ (us ub : List V) (ga gb : Nat) (W : World), us.length = vs.length → Like us vs → ub.length = bs.length → Like ub bs → Vg W W.heap.size (some ⟨ga, 0, none⟩) us → Vg W W.heap.size (some ⟨gb, 0, none⟩) ub → Calls Try.prog 35 #[.agg #[.slice (some ⟨ga, 0, none⟩) vs.length vs.length], .agg #[.slice (some ⟨gb, 0, none⟩) bs.length bs.length]] W (AnswerS W (joinR vs bs)) := fun us ub ga gb W hl h hlb hb hv hv2 => by
        have C := specStoreJoin_any (some ⟨ga, 0, none⟩) (some ⟨gb, 0, none⟩) vs.length bs.length us ub W (by omega) (small_like hl h SM.out) hv (by omega) (small_like hlb hb SB.out) hv2
        rw [hl, hlb] at C
        have hq := joinR_like hl h hlb hb
        exact C.mono fun e w' ha => answer_like hq.1 hq.2 ha
      have HSC := hide SC
      clear SC
      have IC : ∀ (us ub : List V) (ga gb : Nat) (W : World), us.length = vs.length → Like us vs → ub.length = bs.length → Like ub bs → Vg W W.heap.size (some ⟨ga, 0, none⟩) us → Vg W W.heap.size (some ⟨gb, 0, none⟩) ub → Calls Try.prog 36 #[.agg #[.slice (some ⟨ga, 0, none⟩) vs.length vs.length], .agg #[.slice (some ⟨gb, 0, none⟩) bs.length bs.length]] W (AnswerS W (joinR vs bs)) := fun us ub ga gb W hl h hlb hb hv hv2 => by
        have C := implStoreJoin_any (some ⟨ga, 0, none⟩) (some ⟨gb, 0, none⟩) vs.length bs.length us ub W (by omega) (small_like hl h SM.out) hv (by omega) (small_like hlb hb SB.out) hv2
        rw [hl, hlb] at C
        have hq := joinR_like hl h hlb hb
        exact C.mono fun e w' ha => answer_like hq.1 hq.2 ha
      have HIC := hide IC
      clear IC
      refine (szStore_fits a2 c2 bs _ _ (by omega) hsum2 ((hv2.on S1.below).up S1.base)).mono ?_
      rintro e w2 ⟨rfl, hb2⟩
      have S2 := (S1.on hb2)
      clear S1 k1 hb1 hb2
      go_wp2_with fail
      clear hp hp2
      go_upto_region 8 with (fail)
      go_cut [6] (fun s wx => ∃ (p : Nat) (A : Option Addr) (cap B U : Nat) (us : List V), s = .pointer (some ⟨p, 0, none⟩) ∧ Blk wx p 48 #[.slice A (joinR vs bs).length cap] ∧ us.length = (joinR vs bs).length ∧ Like us (joinR vs bs) ∧ ResS wx B U A us ∧ Inv w (w.heap.size + 1 + 1) [(w.heap.size + 1, 37, #[.slice a2 bs.length c2]), (w.heap.size, 37, #[.slice a vs.length c])] wx ∧ (w.heap.size + 1 + 1) ≤ p ∧ (w.heap.size + 1 + 1) ≤ B ∧ U ≤ wx.heap.size ∧ (p < B ∨ U ≤ p))
      case first =>
        refine wp_region_noPanic ?_
        refine wp_region_held_drew (S := (fun w' => w'.cell? ⟨w.heap.size, 0, none⟩ = some (.slice a vs.length c) ∧ w'.cell? ⟨w.heap.size + 1, 0, none⟩ = some (.slice a2 bs.length c2) ∧ Inv w (w.heap.size + 1 + 1) [(w.heap.size + 1, 37, #[.slice a2 bs.length c2]), (w.heap.size, 37, #[.slice a vs.length c])] w')) (by kernel_rfl) (by exact ⟨(S2.drew.nth 1 rfl).at 0, (S2.drew.nth 0 rfl).at 0, S2.drew⟩) (fun hHeld => ?_)
        refine take_run 0 (some 24) (v := ?_) rfl rfl (by kernel_rfl) (by kernel_rfl) (by kernel_rfl) (fun _ _ _ h => h) (by rfl) ?_ hHeld ?_
        rotate_left
        · ((intro w hSw); (try dsimp only at hSw); go_simp <;> with_reducible rfl)
        simp only [Act.put, List.setIfInBounds_toArray, List.set_cons_zero, List.set_cons_succ]
        refine take_run 2 (some 26) (v := ?_) rfl rfl (by kernel_rfl) (by kernel_rfl) (by kernel_rfl) (fun _ _ _ h => h) (by rfl) ?_ hHeld ?_
        rotate_left
        · ((intro w hSw); (try dsimp only at hSw); go_simp <;> with_reducible rfl)
        simp only [Act.put, List.setIfInBounds_toArray, List.set_cons_zero, List.set_cons_succ]
        refine wpAnyH_ready (rs := [1, 5]) (by kernel_rfl) (by simp) ?_
        refine AllReadyH.cons rfl (fun K hK => ?_) (AllReadyH.cons rfl (fun K hK => ?_) AllReadyH.nil)
        · skip
          go_simp
          (have hr := hHeld.2.2.room; (try simp at hr); refine (toStore_own a c vs _ hn (fun v hv => (SM.out v hv).1) ((hv.on hHeld.2.2.below).up hHeld.2.2.base)).mono ?_; rintro e wa ⟨ga, usa, cura, rfl, hla, hlia, hRa, hb⟩; have HLa := hide hla; have HIa := hide hlia; have HRa := hide hRa; clear hla hlia hRa; have hz := hb.size; (try simp at hz); (first | (with_reducible have hx := Blk.on (Blk.drew (Blk.made _ _ #[.slice none 0 0])) hb) | (with_reducible have hx := Blk.on (Blk.made _ _ #[.slice none 0 0]) hb) | (with_reducible have hx := Blk.on (cs := #[.slice none 0 0]) (by assumption) hb) | skip); (try have kx := hx.one))
          try go_wp2_with fail
          refine hK.out _ _ (by exact ⟨((hHeld.2.2.on hb).nth 1 rfl).at 0, ((hHeld.2.2.on hb).nth 0 rfl).at 0, (hHeld.2.2.on hb)⟩) (fun hHeld => ?_)
          clear hK K
          refine wpAnyH_ready (rs := [3, 5]) (by kernel_rfl) (by simp) ?_
          refine AllReadyH.cons rfl (fun K hK => ?_) (AllReadyH.cons rfl (fun K hK => ?_) AllReadyH.nil)
          · skip
            go_simp
            (have hr := hHeld.2.2.room; (try simp at hr); refine (toStore_own a2 c2 bs _ hn1 (fun v hv => (SB.out v hv).1) ((hv2.on hHeld.2.2.below).up hHeld.2.2.base)).mono ?_; rintro e wb ⟨gb, usb, curb, rfl, hlb, hlib, hRb, hb⟩; have HLb := hide hlb; have HIb := hide hlib; have HRb := hide hRb; clear hlb hlib hRb; (first | have HRa' := hide (HRa.out.on hb) | have HRa' := hide ((HRa.out.on (below_alloc1 _ _)).on hb)); have hz := hb.size; (try simp at hz); (first | (with_reducible have hx := Blk.on (Blk.drew (Blk.made _ _ #[.slice none 0 0])) hb) | (with_reducible have hx := Blk.on (Blk.made _ _ #[.slice none 0 0]) hb) | (with_reducible have hx := Blk.on (cs := #[.slice none 0 0]) (by assumption) hb) | skip); (try have kx := hx.one))
            try go_wp2_with fail
            refine hK.out _ _ (by exact ⟨((hHeld.2.2.on hb).nth 1 rfl).at 0, ((hHeld.2.2.on hb).nth 0 rfl).at 0, (hHeld.2.2.on hb)⟩) (fun hHeld => ?_)
            clear hK K
            refine wpAnyH_ready (rs := [4, 5]) (by kernel_rfl) (by simp) ?_
            refine AllReadyH.cons rfl (fun K hK => ?_) (AllReadyH.cons rfl (fun K hK => ?_) AllReadyH.nil)
            · skip
              go_simp
              (have hr := hHeld.2.2.room; (try simp at hr); (first | (with_reducible refine (HSC.out usa usb ga gb _ HLa.out HIa.out HLb.out HIb.out HRa'.out.vg HRb.out.vg).mono ?_) | (with_reducible refine (HSC.out usa usb ga gb _ HLa.out HIa.out HLb.out HIb.out (HRa'.out.on (below_alloc1 _ _)).vg (HRb.out.on (below_alloc1 _ _)).vg).mono ?_)); rintro e wc hAN; obtain ⟨A5, cap5, us5, rfl, hl5, hli5, hR5, hb⟩ := answerS_form hAN; have HL5 := hide hl5; have HI5 := hide hli5; clear hl5 hli5 hAN; have hz := hb.size; (try simp at hz); (first | (with_reducible have hx := Blk.on (Blk.drew (Blk.made _ _ #[.slice none 0 0])) hb) | (with_reducible have hx := Blk.on (Blk.made _ _ #[.slice none 0 0]) hb) | (with_reducible have hx := Blk.on (cs := #[.slice none 0 0]) (by assumption) hb) | skip); (try have kx := hx.one))
              try go_wp2_with fail
              refine hK.out _ _ (by exact ⟨((hHeld.2.2.on hb).nth 1 rfl).at 0, ((hHeld.2.2.on hb).nth 0 rfl).at 0, (hHeld.2.2.on hb)⟩) (fun hHeld => ?_)
              clear hK K
              refine take_one 5 (by kernel_rfl) rfl (fun K hK => ?_)
              go_simp
              (have hr5 := hHeld.2.2.room; (try simp at hr5))
              try go_wp2_with fail
              refine hK.out _ _ (by exact ⟨((hHeld.2.2.alloc _).nth 1 rfl).at 0, ((hHeld.2.2.alloc _).nth 0 rfl).at 0, (hHeld.2.2.alloc _)⟩) (fun hHeld => ?_)
              clear hK K
              refine take_one 6 (by kernel_rfl) rfl (fun K hK => ?_)
              go_simp
              refine hK.out _ _ (by first | exact ⟨((hHeld.2.2.swap (o := .cells #[.slice none 0 0] 48) (by first | omega | (simp <;> omega)) (by first | omega | (simp <;> omega))).nth 1 rfl).at 0, ((hHeld.2.2.swap (o := .cells #[.slice none 0 0] 48) (by first | omega | (simp <;> omega)) (by first | omega | (simp <;> omega))).nth 0 rfl).at 0, (hHeld.2.2.swap (o := .cells #[.slice none 0 0] 48) (by first | omega | (simp <;> omega)) (by first | omega | (simp <;> omega)))⟩ | exact ⟨((hHeld.2.2.set (by first | omega | (simp <;> omega)) (by first | omega | (simp <;> omega)) _).nth 1 rfl).at 0, ((hHeld.2.2.set (by first | omega | (simp <;> omega)) (by first | omega | (simp <;> omega)) _).nth 0 rfl).at 0, (hHeld.2.2.set (by first | omega | (simp <;> omega)) (by first | omega | (simp <;> omega)) _)⟩) (fun hHeld => ?_)
              clear hK K
              refine wpAnyH_done (by kernel_rfl) ?_ _
              refine NoPanic.normal ?_
              go_wp2_with fail
              go_meet
              first | exact ⟨_, A5, cap5, _, _, us5, rfl, Blk.made _ _ _, HL5.out, HI5.out, hR5.alloc _, hHeld.2.2, (by first | omega | (simp <;> omega)), (by first | omega | (simp <;> omega)), (by first | omega | (simp <;> omega)), (by first | exact .inr (by first | omega | (simp <;> omega)) | exact .inl (by first | omega | (simp <;> omega)))⟩ | exact ⟨_, A5, cap5, _, _, us5, rfl, hx.put 0 _, HL5.out, HI5.out, hR5.set (by first | exact .inl (by first | omega | (simp <;> omega)) | exact .inr (by first | omega | (simp <;> omega))) _, hHeld.2.2, (by first | omega | (simp <;> omega)), (by first | omega | (simp <;> omega)), (by first | omega | (simp [World.setCell] <;> omega)), (by first | exact .inl (by first | omega | (simp <;> omega)) | exact .inr (by first | omega | (simp <;> omega)))⟩
            · skip
              go_simp
              (have hr5 := hHeld.2.2.room; (try simp at hr5))
              try go_wp2_with fail
              refine hK.out _ _ (by exact ⟨((hHeld.2.2.alloc _).nth 1 rfl).at 0, ((hHeld.2.2.alloc _).nth 0 rfl).at 0, (hHeld.2.2.alloc _)⟩) (fun hHeld => ?_)
              clear hK K
              refine take_one 4 (by kernel_rfl) rfl (fun K hK => ?_)
              go_simp
              (have hr := hHeld.2.2.room; (try simp at hr); (first | (with_reducible refine (HSC.out usa usb ga gb _ HLa.out HIa.out HLb.out HIb.out HRa'.out.vg HRb.out.vg).mono ?_) | (with_reducible refine (HSC.out usa usb ga gb _ HLa.out HIa.out HLb.out HIb.out (HRa'.out.on (below_alloc1 _ _)).vg (HRb.out.on (below_alloc1 _ _)).vg).mono ?_)); rintro e wc hAN; obtain ⟨A5, cap5, us5, rfl, hl5, hli5, hR5, hb⟩ := answerS_form hAN; have HL5 := hide hl5; have HI5 := hide hli5; clear hl5 hli5 hAN; have hz := hb.size; (try simp at hz); (first | (with_reducible have hx := Blk.on (Blk.drew (Blk.made _ _ #[.slice none 0 0])) hb) | (with_reducible have hx := Blk.on (Blk.made _ _ #[.slice none 0 0]) hb) | (with_reducible have hx := Blk.on (cs := #[.slice none 0 0]) (by assumption) hb) | skip); (try have kx := hx.one))
              try go_wp2_with fail
              refine hK.out _ _ (by exact ⟨((hHeld.2.2.on hb).nth 1 rfl).at 0, ((hHeld.2.2.on hb).nth 0 rfl).at 0, (hHeld.2.2.on hb)⟩) (fun hHeld => ?_)
              clear hK K
              refine take_one 6 (by kernel_rfl) rfl (fun K hK => ?_)
              go_simp
              refine hK.out _ _ (by first | exact ⟨((hHeld.2.2.swap (o := .cells #[.slice none 0 0] 48) (by first | omega | (simp <;> omega)) (by first | omega | (simp <;> omega))).nth 1 rfl).at 0, ((hHeld.2.2.swap (o := .cells #[.slice none 0 0] 48) (by first | omega | (simp <;> omega)) (by first | omega | (simp <;> omega))).nth 0 rfl).at 0, (hHeld.2.2.swap (o := .cells #[.slice none 0 0] 48) (by first | omega | (simp <;> omega)) (by first | omega | (simp <;> omega)))⟩ | exact ⟨((hHeld.2.2.set (by first | omega | (simp <;> omega)) (by first | omega | (simp <;> omega)) _).nth 1 rfl).at 0, ((hHeld.2.2.set (by first | omega | (simp <;> omega)) (by first | omega | (simp <;> omega)) _).nth 0 rfl).at 0, (hHeld.2.2.set (by first | omega | (simp <;> omega)) (by first | omega | (simp <;> omega)) _)⟩) (fun hHeld => ?_)
              clear hK K
              refine wpAnyH_done (by kernel_rfl) ?_ _
              refine NoPanic.normal ?_
              go_wp2_with fail
              go_meet
              first | exact ⟨_, A5, cap5, _, _, us5, rfl, Blk.made _ _ _, HL5.out, HI5.out, hR5.alloc _, hHeld.2.2, (by first | omega | (simp <;> omega)), (by first | omega | (simp <;> omega)), (by first | omega | (simp <;> omega)), (by first | exact .inr (by first | omega | (simp <;> omega)) | exact .inl (by first | omega | (simp <;> omega)))⟩ | exact ⟨_, A5, cap5, _, _, us5, rfl, hx.put 0 _, HL5.out, HI5.out, hR5.set (by first | exact .inl (by first | omega | (simp <;> omega)) | exact .inr (by first | omega | (simp <;> omega))) _, hHeld.2.2, (by first | omega | (simp <;> omega)), (by first | omega | (simp <;> omega)), (by first | omega | (simp [World.setCell] <;> omega)), (by first | exact .inl (by first | omega | (simp <;> omega)) | exact .inr (by first | omega | (simp <;> omega)))⟩
          · skip
            go_simp
            (have hr5 := hHeld.2.2.room; (try simp at hr5))
            try go_wp2_with fail
            refine hK.out _ _ (by exact ⟨((hHeld.2.2.alloc _).nth 1 rfl).at 0, ((hHeld.2.2.alloc _).nth 0 rfl).at 0, (hHeld.2.2.alloc _)⟩) (fun hHeld => ?_)
            clear hK K
            refine take_one 3 (by kernel_rfl) rfl (fun K hK => ?_)
            go_simp
            (have hr := hHeld.2.2.room; (try simp at hr); refine (toStore_own a2 c2 bs _ hn1 (fun v hv => (SB.out v hv).1) ((hv2.on hHeld.2.2.below).up hHeld.2.2.base)).mono ?_; rintro e wb ⟨gb, usb, curb, rfl, hlb, hlib, hRb, hb⟩; have HLb := hide hlb; have HIb := hide hlib; have HRb := hide hRb; clear hlb hlib hRb; (first | have HRa' := hide (HRa.out.on hb) | have HRa' := hide ((HRa.out.on (below_alloc1 _ _)).on hb)); have hz := hb.size; (try simp at hz); (first | (with_reducible have hx := Blk.on (Blk.drew (Blk.made _ _ #[.slice none 0 0])) hb) | (with_reducible have hx := Blk.on (Blk.made _ _ #[.slice none 0 0]) hb) | (with_reducible have hx := Blk.on (cs := #[.slice none 0 0]) (by assumption) hb) | skip); (try have kx := hx.one))
            try go_wp2_with fail
            refine hK.out _ _ (by exact ⟨((hHeld.2.2.on hb).nth 1 rfl).at 0, ((hHeld.2.2.on hb).nth 0 rfl).at 0, (hHeld.2.2.on hb)⟩) (fun hHeld => ?_)
            clear hK K
            refine take_one 4 (by kernel_rfl) rfl (fun K hK => ?_)
            go_simp
            (have hr := hHeld.2.2.room; (try simp at hr); (first | (with_reducible refine (HSC.out usa usb ga gb _ HLa.out HIa.out HLb.out HIb.out HRa'.out.vg HRb.out.vg).mono ?_) | (with_reducible refine (HSC.out usa usb ga gb _ HLa.out HIa.out HLb.out HIb.out (HRa'.out.on (below_alloc1 _ _)).vg (HRb.out.on (below_alloc1 _ _)).vg).mono ?_)); rintro e wc hAN; obtain ⟨A5, cap5, us5, rfl, hl5, hli5, hR5, hb⟩ := answerS_form hAN; have HL5 := hide hl5; have HI5 := hide hli5; clear hl5 hli5 hAN; have hz := hb.size; (try simp at hz); (first | (with_reducible have hx := Blk.on (Blk.drew (Blk.made _ _ #[.slice none 0 0])) hb) | (with_reducible have hx := Blk.on (Blk.made _ _ #[.slice none 0 0]) hb) | (with_reducible have hx := Blk.on (cs := #[.slice none 0 0]) (by assumption) hb) | skip); (try have kx := hx.one))
            try go_wp2_with fail
            refine hK.out _ _ (by exact ⟨((hHeld.2.2.on hb).nth 1 rfl).at 0, ((hHeld.2.2.on hb).nth 0 rfl).at 0, (hHeld.2.2.on hb)⟩) (fun hHeld => ?_)
            clear hK K
            refine take_one 6 (by kernel_rfl) rfl (fun K hK => ?_)
            go_simp
            refine hK.out _ _ (by first | exact ⟨((hHeld.2.2.swap (o := .cells #[.slice none 0 0] 48) (by first | omega | (simp <;> omega)) (by first | omega | (simp <;> omega))).nth 1 rfl).at 0, ((hHeld.2.2.swap (o := .cells #[.slice none 0 0] 48) (by first | omega | (simp <;> omega)) (by first | omega | (simp <;> omega))).nth 0 rfl).at 0, (hHeld.2.2.swap (o := .cells #[.slice none 0 0] 48) (by first | omega | (simp <;> omega)) (by first | omega | (simp <;> omega)))⟩ | exact ⟨((hHeld.2.2.set (by first | omega | (simp <;> omega)) (by first | omega | (simp <;> omega)) _).nth 1 rfl).at 0, ((hHeld.2.2.set (by first | omega | (simp <;> omega)) (by first | omega | (simp <;> omega)) _).nth 0 rfl).at 0, (hHeld.2.2.set (by first | omega | (simp <;> omega)) (by first | omega | (simp <;> omega)) _)⟩) (fun hHeld => ?_)
            clear hK K
            refine wpAnyH_done (by kernel_rfl) ?_ _
            refine NoPanic.normal ?_
            go_wp2_with fail
            go_meet
            first | exact ⟨_, A5, cap5, _, _, us5, rfl, Blk.made _ _ _, HL5.out, HI5.out, hR5.alloc _, hHeld.2.2, (by first | omega | (simp <;> omega)), (by first | omega | (simp <;> omega)), (by first | omega | (simp <;> omega)), (by first | exact .inr (by first | omega | (simp <;> omega)) | exact .inl (by first | omega | (simp <;> omega)))⟩ | exact ⟨_, A5, cap5, _, _, us5, rfl, hx.put 0 _, HL5.out, HI5.out, hR5.set (by first | exact .inl (by first | omega | (simp <;> omega)) | exact .inr (by first | omega | (simp <;> omega))) _, hHeld.2.2, (by first | omega | (simp <;> omega)), (by first | omega | (simp <;> omega)), (by first | omega | (simp [World.setCell] <;> omega)), (by first | exact .inl (by first | omega | (simp <;> omega)) | exact .inr (by first | omega | (simp <;> omega)))⟩
        · skip
          go_simp
          (have hr5 := hHeld.2.2.room; (try simp at hr5))
          try go_wp2_with fail
          refine hK.out _ _ (by exact ⟨((hHeld.2.2.alloc _).nth 1 rfl).at 0, ((hHeld.2.2.alloc _).nth 0 rfl).at 0, (hHeld.2.2.alloc _)⟩) (fun hHeld => ?_)
          clear hK K
          refine take_one 1 (by kernel_rfl) rfl (fun K hK => ?_)
          go_simp
          (have hr := hHeld.2.2.room; (try simp at hr); refine (toStore_own a c vs _ hn (fun v hv => (SM.out v hv).1) ((hv.on hHeld.2.2.below).up hHeld.2.2.base)).mono ?_; rintro e wa ⟨ga, usa, cura, rfl, hla, hlia, hRa, hb⟩; have HLa := hide hla; have HIa := hide hlia; have HRa := hide hRa; clear hla hlia hRa; have hz := hb.size; (try simp at hz); (first | (with_reducible have hx := Blk.on (Blk.drew (Blk.made _ _ #[.slice none 0 0])) hb) | (with_reducible have hx := Blk.on (Blk.made _ _ #[.slice none 0 0]) hb) | (with_reducible have hx := Blk.on (cs := #[.slice none 0 0]) (by assumption) hb) | skip); (try have kx := hx.one))
          try go_wp2_with fail
          refine hK.out _ _ (by exact ⟨((hHeld.2.2.on hb).nth 1 rfl).at 0, ((hHeld.2.2.on hb).nth 0 rfl).at 0, (hHeld.2.2.on hb)⟩) (fun hHeld => ?_)
          clear hK K
          refine take_one 3 (by kernel_rfl) rfl (fun K hK => ?_)
          go_simp
          (have hr := hHeld.2.2.room; (try simp at hr); refine (toStore_own a2 c2 bs _ hn1 (fun v hv => (SB.out v hv).1) ((hv2.on hHeld.2.2.below).up hHeld.2.2.base)).mono ?_; rintro e wb ⟨gb, usb, curb, rfl, hlb, hlib, hRb, hb⟩; have HLb := hide hlb; have HIb := hide hlib; have HRb := hide hRb; clear hlb hlib hRb; (first | have HRa' := hide (HRa.out.on hb) | have HRa' := hide ((HRa.out.on (below_alloc1 _ _)).on hb)); have hz := hb.size; (try simp at hz); (first | (with_reducible have hx := Blk.on (Blk.drew (Blk.made _ _ #[.slice none 0 0])) hb) | (with_reducible have hx := Blk.on (Blk.made _ _ #[.slice none 0 0]) hb) | (with_reducible have hx := Blk.on (cs := #[.slice none 0 0]) (by assumption) hb) | skip); (try have kx := hx.one))
          try go_wp2_with fail
          refine hK.out _ _ (by exact ⟨((hHeld.2.2.on hb).nth 1 rfl).at 0, ((hHeld.2.2.on hb).nth 0 rfl).at 0, (hHeld.2.2.on hb)⟩) (fun hHeld => ?_)
          clear hK K
          refine take_one 4 (by kernel_rfl) rfl (fun K hK => ?_)
          go_simp
          (have hr := hHeld.2.2.room; (try simp at hr); (first | (with_reducible refine (HSC.out usa usb ga gb _ HLa.out HIa.out HLb.out HIb.out HRa'.out.vg HRb.out.vg).mono ?_) | (with_reducible refine (HSC.out usa usb ga gb _ HLa.out HIa.out HLb.out HIb.out (HRa'.out.on (below_alloc1 _ _)).vg (HRb.out.on (below_alloc1 _ _)).vg).mono ?_)); rintro e wc hAN; obtain ⟨A5, cap5, us5, rfl, hl5, hli5, hR5, hb⟩ := answerS_form hAN; have HL5 := hide hl5; have HI5 := hide hli5; clear hl5 hli5 hAN; have hz := hb.size; (try simp at hz); (first | (with_reducible have hx := Blk.on (Blk.drew (Blk.made _ _ #[.slice none 0 0])) hb) | (with_reducible have hx := Blk.on (Blk.made _ _ #[.slice none 0 0]) hb) | (with_reducible have hx := Blk.on (cs := #[.slice none 0 0]) (by assumption) hb) | skip); (try have kx := hx.one))
          try go_wp2_with fail
          refine hK.out _ _ (by exact ⟨((hHeld.2.2.on hb).nth 1 rfl).at 0, ((hHeld.2.2.on hb).nth 0 rfl).at 0, (hHeld.2.2.on hb)⟩) (fun hHeld => ?_)
          clear hK K
          refine take_one 6 (by kernel_rfl) rfl (fun K hK => ?_)
          go_simp
          refine hK.out _ _ (by first | exact ⟨((hHeld.2.2.swap (o := .cells #[.slice none 0 0] 48) (by first | omega | (simp <;> omega)) (by first | omega | (simp <;> omega))).nth 1 rfl).at 0, ((hHeld.2.2.swap (o := .cells #[.slice none 0 0] 48) (by first | omega | (simp <;> omega)) (by first | omega | (simp <;> omega))).nth 0 rfl).at 0, (hHeld.2.2.swap (o := .cells #[.slice none 0 0] 48) (by first | omega | (simp <;> omega)) (by first | omega | (simp <;> omega)))⟩ | exact ⟨((hHeld.2.2.set (by first | omega | (simp <;> omega)) (by first | omega | (simp <;> omega)) _).nth 1 rfl).at 0, ((hHeld.2.2.set (by first | omega | (simp <;> omega)) (by first | omega | (simp <;> omega)) _).nth 0 rfl).at 0, (hHeld.2.2.set (by first | omega | (simp <;> omega)) (by first | omega | (simp <;> omega)) _)⟩) (fun hHeld => ?_)
          clear hK K
          refine wpAnyH_done (by kernel_rfl) ?_ _
          refine NoPanic.normal ?_
          go_wp2_with fail
          go_meet
          first | exact ⟨_, A5, cap5, _, _, us5, rfl, Blk.made _ _ _, HL5.out, HI5.out, hR5.alloc _, hHeld.2.2, (by first | omega | (simp <;> omega)), (by first | omega | (simp <;> omega)), (by first | omega | (simp <;> omega)), (by first | exact .inr (by first | omega | (simp <;> omega)) | exact .inl (by first | omega | (simp <;> omega)))⟩ | exact ⟨_, A5, cap5, _, _, us5, rfl, hx.put 0 _, HL5.out, HI5.out, hR5.set (by first | exact .inl (by first | omega | (simp <;> omega)) | exact .inr (by first | omega | (simp <;> omega))) _, hHeld.2.2, (by first | omega | (simp <;> omega)), (by first | omega | (simp <;> omega)), (by first | omega | (simp [World.setCell] <;> omega)), (by first | exact .inl (by first | omega | (simp <;> omega)) | exact .inr (by first | omega | (simp <;> omega)))⟩
      case rest =>
      obtain ⟨p0, A0, cap0, B0, U0, us0, rfl, hBp, HL0', HI0', R0, I0, hp0, hb0, hu0, hx0⟩ := hcut
      have HL0 := hide HL0'
      have HI0 := hide HI0'
      have I1 := (I0.add (by omega) hBp)
      have i0 := hBp.inside
      have k1 := (I1.nth 2 rfl).one.1
      clear S2 I0 hBp HL0' HI0'
      go_wp2_with fail
      refine (toStore_own a c vs _ hn (fun v hv => (SM.out v hv).1) ((hv.on I1.below).up I1.base)).mono ?_
      rintro e w7 ⟨g7, us7, cur7, rfl, hl7, hli7, hR7, hb7⟩
      have z7 := hb7.size
      have zb7 := I1.base
      have I2 := ((I1.on hb7).top).box 48 #[.slice (some ⟨g7, 0, none⟩) vs.length vs.length]
      have R1 := (R0.on hb7).alloc (.cells #[.slice (some ⟨g7, 0, none⟩) vs.length vs.length] 48)
      obtain ⟨B7, e7⟩ : ∃ B7, B7 = max U0 (p0 + 1) := ⟨_, rfl⟩
      have b7a : U0 ≤ B7 := by omega
      have b7b : p0 < B7 := by omega
      have hR7' : ORow w7 B7 w7.heap.size g7 us7 cur7 := hR7.low (by omega)
      clear e7
      have O7 := hide (hR7'.on (below_alloc1 w7 (.cells #[.slice (some ⟨g7, 0, none⟩) vs.length vs.length] 48)))
      have HL7 := hide hl7
      have HI7 := hide hli7
      have lo7 := hR7'.lo
      have hi7 := hR7.hi
      have k2 := (I2.nth 2 rfl).one.1
      clear I1 R0 hb7 hR7 hR7' hl7 hli7 k1
      go_wp2_with fail
      generalize hW7 : w7.alloc (.cells #[.slice (some ⟨g7, 0, none⟩) vs.length vs.length] 48) = W7 at I2 R1 O7 k2 ⊢
      have zW7 : w7.heap.size < W7.heap.size := by rw [← hW7]; simp
      clear hW7
      refine (toStore_own a2 c2 bs W7 hn1 (fun v hv => (SB.out v hv).1) ((hv2.on I2.below).up I2.base)).mono ?_
      rintro e w8 ⟨g8, us8, cur8, rfl, hl8, hli8, hR8, hb8⟩
      have z8 := hb8.size
      have zb8 := I2.base
      have I3 := ((I2.on hb8).top).box 48 #[.slice (some ⟨g8, 0, none⟩) bs.length bs.length]
      have R2 := (R1.on hb8).alloc (.cells #[.slice (some ⟨g8, 0, none⟩) bs.length bs.length] 48)
      have O8 := hide ((O7.out.on hb8).on (below_alloc1 w8 (.cells #[.slice (some ⟨g8, 0, none⟩) bs.length bs.length] 48)))
      have P8 := hide (hR8.on (below_alloc1 w8 (.cells #[.slice (some ⟨g8, 0, none⟩) bs.length bs.length] 48)))
      have HL8 := hide hl8
      have HI8 := hide hli8
      have lo8 := hR8.lo
      have hi8 := hR8.hi
      have k3 := (I3.nth 1 rfl).one.1
      clear I2 R1 hb8 O7 hR8 hl8 hli8 k2
      go_wp2_with fail
      generalize hW8 : w8.alloc (.cells #[.slice (some ⟨g8, 0, none⟩) bs.length bs.length] 48) = W8 at I3 R2 O8 P8 k3 ⊢
      have zW8 : w8.heap.size < W8.heap.size := by rw [← hW8]; simp
      clear hW8
      refine (HIC.out us7 us8 g7 g8 W8 HL7.out HI7.out HL8.out HI8.out O8.out.vg P8.out.vg).mono ?_
      rintro e w9 hAN
      obtain ⟨A9, cap9, us9, rfl, hl9, hli9, Q0, hb9⟩ := answerS_form hAN
      have HL9 := hide hl9
      have HI9 := hide hli9
      have z9 := hb9.size
      have I4 := ((I3.on hb9).top).box 48 #[.slice A9 (joinR vs bs).length cap9]
      have R3 := (R2.on hb9).alloc (.cells #[.slice A9 (joinR vs bs).length cap9] 48)
      have Q1 := Q0.alloc (.cells #[.slice A9 (joinR vs bs).length cap9] 48)
      have O9 := hide ((O8.out.on hb9).on (below_alloc1 w9 (.cells #[.slice A9 (joinR vs bs).length cap9] 48)))
      have P9 := hide ((P8.out.on hb9).on (below_alloc1 w9 (.cells #[.slice A9 (joinR vs bs).length cap9] 48)))
      have k4 := (I4.nth 3 rfl).one.1
      clear I3 R2 Q0 hb9 O8 P8 hAN hl9 hli9 k3
      go_wp2_with fail
      generalize hW9 : w9.alloc (.cells #[.slice A9 (joinR vs bs).length cap9] 48) = W9 at I4 R3 Q1 O9 P9 k4 ⊢
      have zW9 : w9.heap.size < W9.heap.size := by rw [← hW9]; simp
      clear hW9
      have hf4 : (joinR vs bs).length ≤ 4 := HFEW.out.1
      refine (eqStore_same _ _ _ _ (joinR vs bs).length us9 us0 W9 (by omega) HL9.out HL0.out (like_both HL9.out HL0.out HI9.out HI0.out) (fun x hx => by have := (few_like HL9.out HI9.out HFEW.out).2 x hx; omega) Q1.vg R3.vg).mono ?_
      rintro e w10 ⟨rfl, hb10⟩
      have z10 := hb10.size
      have I5 := (I4.on hb10).top
      have R4 := R3.on hb10
      have Q2 := Q1.on hb10
      have O10 := hide (O9.out.on hb10)
      have P10 := hide (P9.out.on hb10)
      clear I4 R3 Q1 O9 P9 k4 hb10
      go_wp2_with fail
      refine wp_region_noPanic ?_
      refine wp_region_held_drew (S := (fun w' => w'.cell? ⟨w7.heap.size, 0, none⟩ = some (.slice (some ⟨g7, 0, none⟩) vs.length vs.length) ∧ w'.cell? ⟨w.heap.size, 0, none⟩ = some (.slice a vs.length c) ∧ Inv w w10.heap.size [(w9.heap.size, 48, #[.slice A9 (joinR vs bs).length cap9]), (w8.heap.size, 48, #[.slice (some ⟨g8, 0, none⟩) bs.length bs.length]), (w7.heap.size, 48, #[.slice (some ⟨g7, 0, none⟩) vs.length vs.length]), (p0, 48, #[.slice A0 (joinR vs bs).length cap0]), (w.heap.size + 1, 37, #[.slice a2 bs.length c2]), (w.heap.size, 37, #[.slice a vs.length c])] w' ∧ Hid (ORow w' B7 w7.heap.size g7 us7 cur7) ∧ Hid (ORow w' W7.heap.size w8.heap.size g8 us8 cur8) ∧ ResS w' B0 U0 A0 us0 ∧ ResS w' W8.heap.size w9.heap.size A9 us9)) (by kernel_rfl) (by exact ⟨(I5.nth 2 rfl).at 0, (I5.nth 5 rfl).at 0, I5.drew, O10.out.on (Below.refl _ _).drew, P10.out.on (Below.refl _ _).drew, R4.drew, Q2.drew⟩) (fun hHeld => ?_)
      refine take_run 0 (some 40) (v := ?_) rfl rfl (by kernel_rfl) (by kernel_rfl) (by kernel_rfl) (fun _ _ _ h => h) (by rfl) ?_ hHeld ?_
      rotate_left
      · ((intro w hSw); (try dsimp only at hSw); go_simp <;> with_reducible rfl)
      simp only [Act.put, List.setIfInBounds_toArray, List.set_cons_zero, List.set_cons_succ]
      refine take_run 1 (some 41) (v := ?_) rfl rfl (by kernel_rfl) (by kernel_rfl) (by kernel_rfl) (fun _ _ _ h => h) (by rfl) ?_ hHeld ?_
      rotate_left
      · ((intro w hSw); (try dsimp only at hSw); go_simp <;> with_reducible rfl)
      simp only [Act.put, List.setIfInBounds_toArray, List.set_cons_zero, List.set_cons_succ]
      refine take_one 2 (by kernel_rfl) rfl (fun K hK => ?_)
      go_simp
      (refine (toStore_own a c vs _ hn (fun v hv => (SM.out v hv).1) ((hv.on hHeld.2.2.1.below).up hHeld.2.2.1.base)).mono ?_; rintro e wd ⟨gd, usd, curd, rfl, hld, hlid, hRd, hb⟩; have Rd := hide hRd; have HLd := hide hld; have HId := hide hlid; clear hRd hld hlid)
      try go_wp2_with fail
      refine hK.out _ _ (by exact ⟨((hHeld.2.2.1.on hb).nth 2 rfl).at 0, ((hHeld.2.2.1.on hb).nth 5 rfl).at 0, hHeld.2.2.1.on hb, hHeld.2.2.2.1.out.on hb, hHeld.2.2.2.2.1.out.on hb, hHeld.2.2.2.2.2.1.on hb, hHeld.2.2.2.2.2.2.on hb⟩) (fun hHeld => ?_)
      clear hK K
      refine take_one 3 (by kernel_rfl) rfl (fun K hK => ?_)
      go_simp
      (refine (eqStore_same _ _ _ _ vs.length us7 usd _ hn HL7.out HLd.out (like_both HL7.out HLd.out HI7.out HId.out) (fun v hv => ((small_like HL7.out HI7.out SM.out) v hv).1) hHeld.2.2.2.1.out.vg Rd.out.vg).mono ?_; rintro e we ⟨rfl, hb⟩)
      try go_wp2_with fail
      refine hK.out _ _ (by exact ⟨((hHeld.2.2.1.on hb).nth 2 rfl).at 0, ((hHeld.2.2.1.on hb).nth 5 rfl).at 0, hHeld.2.2.1.on hb, hHeld.2.2.2.1.out.on hb, hHeld.2.2.2.2.1.out.on hb, hHeld.2.2.2.2.2.1.on hb, hHeld.2.2.2.2.2.2.on hb⟩) (fun hHeld => ?_)
      clear hK K
      refine take_run 4 (some 44) (v := ?_) rfl rfl (by kernel_rfl) (by kernel_rfl) (by kernel_rfl) (fun _ _ _ h => h) (by rfl) ?_ hHeld ?_
      rotate_left
      · ((intro w hSw); (try dsimp only at hSw); go_simp <;> with_reducible rfl)
      simp only [Act.put, List.setIfInBounds_toArray, List.set_cons_zero, List.set_cons_succ]
      refine wpAnyH_done (by kernel_rfl) ?_ _
      refine NoPanic.normal ?_
      obtain ⟨-, -, I6, O11, P11, R5, Q3⟩ := hHeld
      clear I5 R4 Q2 O10 P10 Rd HLd HId
      go_wp2_with fail
      refine wp_region_noPanic ?_
      refine wp_region_held_drew (S := (fun w' => w'.cell? ⟨w8.heap.size, 0, none⟩ = some (.slice (some ⟨g8, 0, none⟩) bs.length bs.length) ∧ w'.cell? ⟨w.heap.size + 1, 0, none⟩ = some (.slice a2 bs.length c2) ∧ Inv w w10.heap.size [(w9.heap.size, 48, #[.slice A9 (joinR vs bs).length cap9]), (w8.heap.size, 48, #[.slice (some ⟨g8, 0, none⟩) bs.length bs.length]), (w7.heap.size, 48, #[.slice (some ⟨g7, 0, none⟩) vs.length vs.length]), (p0, 48, #[.slice A0 (joinR vs bs).length cap0]), (w.heap.size + 1, 37, #[.slice a2 bs.length c2]), (w.heap.size, 37, #[.slice a vs.length c])] w' ∧ Hid (ORow w' B7 w7.heap.size g7 us7 cur7) ∧ Hid (ORow w' W7.heap.size w8.heap.size g8 us8 cur8) ∧ ResS w' B0 U0 A0 us0 ∧ ResS w' W8.heap.size w9.heap.size A9 us9)) (by kernel_rfl) (by exact ⟨(I6.nth 1 rfl).at 0, (I6.nth 4 rfl).at 0, I6.drew, O11.out.on (Below.refl _ _).drew, P11.out.on (Below.refl _ _).drew, R5.drew, Q3.drew⟩) (fun hHeld => ?_)
      refine take_run 0 (some 45) (v := ?_) rfl rfl (by kernel_rfl) (by kernel_rfl) (by kernel_rfl) (fun _ _ _ h => h) (by rfl) ?_ hHeld ?_
      rotate_left
      · ((intro w hSw); (try dsimp only at hSw); go_simp <;> with_reducible rfl)
      simp only [Act.put, List.setIfInBounds_toArray, List.set_cons_zero, List.set_cons_succ]
      refine take_run 1 (some 46) (v := ?_) rfl rfl (by kernel_rfl) (by kernel_rfl) (by kernel_rfl) (fun _ _ _ h => h) (by rfl) ?_ hHeld ?_
      rotate_left
      · ((intro w hSw); (try dsimp only at hSw); go_simp <;> with_reducible rfl)
      simp only [Act.put, List.setIfInBounds_toArray, List.set_cons_zero, List.set_cons_succ]
      refine take_one 2 (by kernel_rfl) rfl (fun K hK => ?_)
      go_simp
      (refine (toStore_own a2 c2 bs _ hn1 (fun v hv => (SB.out v hv).1) ((hv2.on hHeld.2.2.1.below).up hHeld.2.2.1.base)).mono ?_; rintro e wf ⟨gf, usf, curf, rfl, hlf, hlif, hRf, hb⟩; have Rf := hide hRf; have HLf := hide hlf; have HIf := hide hlif; clear hRf hlf hlif)
      try go_wp2_with fail
      refine hK.out _ _ (by exact ⟨((hHeld.2.2.1.on hb).nth 1 rfl).at 0, ((hHeld.2.2.1.on hb).nth 4 rfl).at 0, hHeld.2.2.1.on hb, hHeld.2.2.2.1.out.on hb, hHeld.2.2.2.2.1.out.on hb, hHeld.2.2.2.2.2.1.on hb, hHeld.2.2.2.2.2.2.on hb⟩) (fun hHeld => ?_)
      clear hK K
      refine take_one 3 (by kernel_rfl) rfl (fun K hK => ?_)
      go_simp
      (refine (eqStore_same _ _ _ _ bs.length us8 usf _ hn1 HL8.out HLf.out (like_both HL8.out HLf.out HI8.out HIf.out) (fun v hv => ((small_like HL8.out HI8.out SB.out) v hv).1) hHeld.2.2.2.2.1.out.vg Rf.out.vg).mono ?_; rintro e wg ⟨rfl, hb⟩)
      try go_wp2_with fail
      refine hK.out _ _ (by exact ⟨((hHeld.2.2.1.on hb).nth 1 rfl).at 0, ((hHeld.2.2.1.on hb).nth 4 rfl).at 0, hHeld.2.2.1.on hb, hHeld.2.2.2.1.out.on hb, hHeld.2.2.2.2.1.out.on hb, hHeld.2.2.2.2.2.1.on hb, hHeld.2.2.2.2.2.2.on hb⟩) (fun hHeld => ?_)
      clear hK K
      refine take_run 4 (some 49) (v := ?_) rfl rfl (by kernel_rfl) (by kernel_rfl) (by kernel_rfl) (fun _ _ _ h => h) (by rfl) ?_ hHeld ?_
      rotate_left
      · ((intro w hSw); (try dsimp only at hSw); go_simp <;> with_reducible rfl)
      simp only [Act.put, List.setIfInBounds_toArray, List.set_cons_zero, List.set_cons_succ]
      refine wpAnyH_done (by kernel_rfl) ?_ _
      refine NoPanic.normal ?_
      obtain ⟨-, -, I7, O12, P12, R6, Q4⟩ := hHeld
      clear I6 R5 Q3 O11 P11 Rf HLf HIf
      have I8 := I7.top
      have zg := I7.room
      have k5 := (I8.nth 2 rfl).one.1
      clear I7
      have hwt : Hid (wts us7 ≤ 5 * (vs.length : Int) + 2 * (tot vs : Int)) := by
        have := wts_tot us7
        rw [HL7.out, tot_like HL7.out HI7.out] at this
        exact this
      have hwp := wts_pos us7
      have C9 := markStore_any B7 w7.heap.size g7 vs.length us7 cur7 1 wg O12.out (fun v hv => ((small_like HL7.out HI7.out SM.out) v hv).1) (by have := HL7.out; omega) (by omega) (by have := hwt.out; omega)
      rw [HL7.out] at C9
      have HC9 := hide C9
      clear C9
      go_wp2_with fail
      refine HC9.out.mono ?_
      rintro e wh ⟨rfl, -, hTh⟩
      have R7 := R6.turn hTh (fun g h1 h2 h3 => by omega)
      have Q5 := Q4.turn hTh (fun g h1 h2 h3 => by omega)
      have I9 := I8.turned hTh (fun g h => by have hq := h.1; omega) (fun x hx h => by
        simp only [List.mem_cons, List.not_mem_nil, or_false] at hx
        rcases hx with rfl | rfl | rfl | rfl | rfl | rfl <;> simp only at h <;> omega)
      have P13 := hide (P12.out.turned hTh (fun g h1 h2 h3 => by omega))
      have zh := hTh.size
      have k6 := (I9.nth 1 rfl).one.1
      clear R6 Q4 I8 hTh O12 P12 HC9 k5
      have hwt2 : Hid (wts us8 ≤ 5 * (bs.length : Int) + 2 * (tot bs : Int)) := by
        have := wts_tot us8
        rw [HL8.out, tot_like HL8.out HI8.out] at this
        exact this
      have hwp2 := wts_pos us8
      have CK := markStore_any W7.heap.size w8.heap.size g8 bs.length us8 cur8 (1 + wts us7) wh P13.out (fun v hv => ((small_like HL8.out HI8.out SB.out) v hv).1) (by have := HL8.out; omega) (by omega) (by have := hwt.out; have := hwt2.out; omega)
      rw [HL8.out] at CK
      have HCK := hide CK
      clear CK
      have hwk : Hid (1 + wts us7 + wts us8 ≤ 1000000000) := by have := hwt.out; have := hwt2.out; unfold Hid; omega
      go_wp2_with fail
      refine HCK.out.mono ?_
      rintro e wi ⟨rfl, -, hTi⟩
      have R8 := R7.turn hTi (fun g h1 h2 h3 => by omega)
      have Q6 := Q5.turn hTi (fun g h1 h2 h3 => by omega)
      have I10 := (I9.sub (bs' := [(w9.heap.size, 48, #[.slice A9 (joinR vs bs).length cap9]), (p0, 48, #[.slice A0 (joinR vs bs).length cap0]), (w.heap.size + 1, 37, #[.slice a2 bs.length c2]), (w.heap.size, 37, #[.slice a vs.length c])]) (fun x hx => by
        simp only [List.mem_cons, List.not_mem_nil, or_false] at hx ⊢
        rcases hx with rfl | rfl | rfl | rfl <;> simp)).turned hTi (fun g h => by have hq := h.1; omega) (fun x hx h => by
        simp only [List.mem_cons, List.not_mem_nil, or_false] at hx
        rcases hx with rfl | rfl | rfl | rfl <;> simp only at h <;> omega)
      have zi := hTi.size
      have hpi : ¬ ((1 : Int) + wts us7 + wts us8 < 0) := by omega
      have k7 := (I10.nth 0 rfl).one.1
      have k8 := (I10.nth 1 rfl).one.1
      clear R7 Q5 I9 hTi k6 P13 HCK
      go_wp2_with fail
      refine (eqStore_same _ _ _ _ (joinR vs bs).length us9 us0 wi (by omega) HL9.out HL0.out (like_both HL9.out HL0.out HI9.out HI0.out) (fun x hx => by have := (few_like HL9.out HI9.out HFEW.out).2 x hx; omega) Q6.vg R8.vg).mono ?_
      rintro e wj ⟨rfl, hbj⟩
      have zj := hbj.size
      have I11 := (I10.on hbj).top
      have R9 := R8.on hbj
      have Q7 := Q6.on hbj
      clear I10 R8 Q6 hbj k7 k8
      have k7 := (I11.nth 0 rfl).one.1
      have HF9 := hide (few_like HL9.out HI9.out HFEW.out)
      have hw9 := HF9.out.wts
      have hw9p := wts_pos us9
      have CM := markResS_any W8.heap.size w9.heap.size A9 cap9 us9 1 wj Q7 (fun x hx => by have := HF9.out.2 x hx; omega) (by have := HF9.out.1; omega) (by omega) (by omega)
      rw [HL9.out] at CM
      have HCM := hide CM
      clear CM
      go_wp2_with fail
      refine HCM.out.mono ?_
      rintro e wk ⟨rfl, Q8, hTk⟩
      have R10 := R9.turn hTk (fun g h1 h2 h3 => by omega)
      have I12 := I11.turned hTk (fun g h => by have hq := h.1; omega) (fun x hx h => by
        simp only [List.mem_cons, List.not_mem_nil, or_false] at hx
        rcases hx with rfl | rfl | rfl | rfl <;> simp only at h <;> omega)
      have zk := hTk.size
      clear R9 Q7 I11 hTk HCM k7
      have k7 := (I12.nth 0 rfl).one.1
      have HHELD : Hid (∀ W : World, ResS W W8.heap.size w9.heap.size A9 (mkVs 1 us9) → Calls Try.prog 29 #[.agg #[.slice A9 (joinR vs bs).length cap9], .int .i64 1] W fun e w' => e = .returned (.int .i64 (1 + wts us9)) ∧ Below W.heap.size W w') := fun W hR => by
        have := heldResS_any W8.heap.size w9.heap.size A9 cap9 us9 1 W hR (fun x hx => by have := HF9.out.2 x hx; omega) (by have := HF9.out.1; omega) (by omega) (by omega)
        rw [HL9.out] at this
        exact this
      go_wp2_with fail
      refine (HHELD.out wk Q8).mono ?_
      rintro e wl ⟨rfl, hbl⟩
      have zl := hbl.size
      have I13 := (I12.on hbl).top
      have R11 := R10.on hbl
      have Q9 := Q8.on hbl
      clear I12 R10 Q8 hbl k7
      have hp12 : ¬ ((1 : Int) + wts us9 < 0) := by omega
      have hne : ((1 : Int) + wts us9 != 1 + wts us9) = false := by simp
      have zb13 := I13.base
      go_wp2_with fail
      go_upto_region 31 with (fail)
      go_cut [13] (fun s wx => ∃ (p : Nat) (A : Option Addr) (cap B U : Nat) (us : List V), s = .pointer (some ⟨p, 0, none⟩) ∧ Blk wx p 48 #[.slice A (joinR vs bs).length cap] ∧ us.length = (joinR vs bs).length ∧ Like us (joinR vs bs) ∧ ResS wx B U A us ∧ Inv w wl.heap.size [(w9.heap.size, 48, #[.slice A9 (joinR vs bs).length cap9]), (p0, 48, #[.slice A0 (joinR vs bs).length cap0]), (w.heap.size + 1, 37, #[.slice a2 bs.length c2]), (w.heap.size, 37, #[.slice a vs.length c])] wx ∧ ResS wx B0 U0 A0 us0 ∧ ResS wx W8.heap.size w9.heap.size A9 (mkVs 1 us9) ∧ wl.heap.size ≤ p ∧ wl.heap.size ≤ B ∧ U ≤ wx.heap.size ∧ (p < B ∨ U ≤ p))
      case first =>
        refine wp_region_noPanic ?_
        refine wp_region_held_drew (S := (fun w' => w'.cell? ⟨w.heap.size, 0, none⟩ = some (.slice a vs.length c) ∧ w'.cell? ⟨w.heap.size + 1, 0, none⟩ = some (.slice a2 bs.length c2) ∧ Inv w wl.heap.size [(w9.heap.size, 48, #[.slice A9 (joinR vs bs).length cap9]), (p0, 48, #[.slice A0 (joinR vs bs).length cap0]), (w.heap.size + 1, 37, #[.slice a2 bs.length c2]), (w.heap.size, 37, #[.slice a vs.length c])] w' ∧ ResS w' B0 U0 A0 us0 ∧ ResS w' W8.heap.size w9.heap.size A9 (mkVs 1 us9))) (by kernel_rfl) (by exact ⟨(I13.drew.nth 3 rfl).at 0, (I13.drew.nth 2 rfl).at 0, I13.drew, R11.drew, Q9.drew⟩) (fun hHeld => ?_)
        refine take_run 0 (some 75) (v := ?_) rfl rfl (by kernel_rfl) (by kernel_rfl) (by kernel_rfl) (fun _ _ _ h => h) (by rfl) ?_ hHeld ?_
        rotate_left
        · ((intro w hSw); (try dsimp only at hSw); go_simp <;> with_reducible rfl)
        simp only [Act.put, List.setIfInBounds_toArray, List.set_cons_zero, List.set_cons_succ]
        refine take_run 2 (some 77) (v := ?_) rfl rfl (by kernel_rfl) (by kernel_rfl) (by kernel_rfl) (fun _ _ _ h => h) (by rfl) ?_ hHeld ?_
        rotate_left
        · ((intro w hSw); (try dsimp only at hSw); go_simp <;> with_reducible rfl)
        simp only [Act.put, List.setIfInBounds_toArray, List.set_cons_zero, List.set_cons_succ]
        refine wpAnyH_ready (rs := [1, 5]) (by kernel_rfl) (by simp) ?_
        refine AllReadyH.cons rfl (fun K hK => ?_) (AllReadyH.cons rfl (fun K hK => ?_) AllReadyH.nil)
        · skip
          go_simp
          (have hr := hHeld.2.2.1.room; (try simp at hr); refine (toStore_own a c vs _ hn (fun v hv => (SM.out v hv).1) ((hv.on hHeld.2.2.1.below).up hHeld.2.2.1.base)).mono ?_; rintro e wa ⟨ga, usa, cura, rfl, hla, hlia, hRa, hb⟩; have HLa := hide hla; have HIa := hide hlia; have HRa := hide hRa; clear hla hlia hRa; have hz := hb.size; (try simp at hz); (first | (with_reducible have hx := Blk.on (Blk.drew (Blk.made _ _ #[.slice none 0 0])) hb) | (with_reducible have hx := Blk.on (Blk.made _ _ #[.slice none 0 0]) hb) | (with_reducible have hx := Blk.on (cs := #[.slice none 0 0]) (by assumption) hb) | skip); (try have kx := hx.one))
          try go_wp2_with fail
          refine hK.out _ _ (by exact ⟨((hHeld.2.2.1.on hb).nth 3 rfl).at 0, ((hHeld.2.2.1.on hb).nth 2 rfl).at 0, (hHeld.2.2.1.on hb), (hHeld.2.2.2.1).on hb, (hHeld.2.2.2.2).on hb⟩) (fun hHeld => ?_)
          clear hK K
          refine wpAnyH_ready (rs := [3, 5]) (by kernel_rfl) (by simp) ?_
          refine AllReadyH.cons rfl (fun K hK => ?_) (AllReadyH.cons rfl (fun K hK => ?_) AllReadyH.nil)
          · skip
            go_simp
            (have hr := hHeld.2.2.1.room; (try simp at hr); refine (toStore_own a2 c2 bs _ hn1 (fun v hv => (SB.out v hv).1) ((hv2.on hHeld.2.2.1.below).up hHeld.2.2.1.base)).mono ?_; rintro e wb ⟨gb, usb, curb, rfl, hlb, hlib, hRb, hb⟩; have HLb := hide hlb; have HIb := hide hlib; have HRb := hide hRb; clear hlb hlib hRb; (first | have HRa' := hide (HRa.out.on hb) | have HRa' := hide ((HRa.out.on (below_alloc1 _ _)).on hb)); have hz := hb.size; (try simp at hz); (first | (with_reducible have hx := Blk.on (Blk.drew (Blk.made _ _ #[.slice none 0 0])) hb) | (with_reducible have hx := Blk.on (Blk.made _ _ #[.slice none 0 0]) hb) | (with_reducible have hx := Blk.on (cs := #[.slice none 0 0]) (by assumption) hb) | skip); (try have kx := hx.one))
            try go_wp2_with fail
            refine hK.out _ _ (by exact ⟨((hHeld.2.2.1.on hb).nth 3 rfl).at 0, ((hHeld.2.2.1.on hb).nth 2 rfl).at 0, (hHeld.2.2.1.on hb), (hHeld.2.2.2.1).on hb, (hHeld.2.2.2.2).on hb⟩) (fun hHeld => ?_)
            clear hK K
            refine wpAnyH_ready (rs := [4, 5]) (by kernel_rfl) (by simp) ?_
            refine AllReadyH.cons rfl (fun K hK => ?_) (AllReadyH.cons rfl (fun K hK => ?_) AllReadyH.nil)
            · skip
              go_simp
              (have hr := hHeld.2.2.1.room; (try simp at hr); (first | (with_reducible refine (HIC.out usa usb ga gb _ HLa.out HIa.out HLb.out HIb.out HRa'.out.vg HRb.out.vg).mono ?_) | (with_reducible refine (HIC.out usa usb ga gb _ HLa.out HIa.out HLb.out HIb.out (HRa'.out.on (below_alloc1 _ _)).vg (HRb.out.on (below_alloc1 _ _)).vg).mono ?_)); rintro e wc hAN; obtain ⟨A5, cap5, us5, rfl, hl5, hli5, hR5, hb⟩ := answerS_form hAN; have HL5 := hide hl5; have HI5 := hide hli5; clear hl5 hli5 hAN; have hz := hb.size; (try simp at hz); (first | (with_reducible have hx := Blk.on (Blk.drew (Blk.made _ _ #[.slice none 0 0])) hb) | (with_reducible have hx := Blk.on (Blk.made _ _ #[.slice none 0 0]) hb) | (with_reducible have hx := Blk.on (cs := #[.slice none 0 0]) (by assumption) hb) | skip); (try have kx := hx.one))
              try go_wp2_with fail
              refine hK.out _ _ (by exact ⟨((hHeld.2.2.1.on hb).nth 3 rfl).at 0, ((hHeld.2.2.1.on hb).nth 2 rfl).at 0, (hHeld.2.2.1.on hb), (hHeld.2.2.2.1).on hb, (hHeld.2.2.2.2).on hb⟩) (fun hHeld => ?_)
              clear hK K
              refine take_one 5 (by kernel_rfl) rfl (fun K hK => ?_)
              go_simp
              (have hr5 := hHeld.2.2.1.room; (try simp at hr5))
              try go_wp2_with fail
              refine hK.out _ _ (by exact ⟨((hHeld.2.2.1.alloc _).nth 3 rfl).at 0, ((hHeld.2.2.1.alloc _).nth 2 rfl).at 0, (hHeld.2.2.1.alloc _), (hHeld.2.2.2.1).alloc _, (hHeld.2.2.2.2).alloc _⟩) (fun hHeld => ?_)
              clear hK K
              refine take_one 6 (by kernel_rfl) rfl (fun K hK => ?_)
              go_simp
              refine hK.out _ _ (by first | exact ⟨((hHeld.2.2.1.swap (o := .cells #[.slice none 0 0] 48) (by first | omega | (simp <;> omega)) (by first | omega | (simp <;> omega))).nth 3 rfl).at 0, ((hHeld.2.2.1.swap (o := .cells #[.slice none 0 0] 48) (by first | omega | (simp <;> omega)) (by first | omega | (simp <;> omega))).nth 2 rfl).at 0, (hHeld.2.2.1.swap (o := .cells #[.slice none 0 0] 48) (by first | omega | (simp <;> omega)) (by first | omega | (simp <;> omega))), ResS.swap (o := .cells #[.slice none 0 0] 48) (hHeld.2.2.2.1) (by first | omega | (simp <;> omega)), ResS.swap (o := .cells #[.slice none 0 0] 48) (hHeld.2.2.2.2) (by first | omega | (simp <;> omega))⟩ | exact ⟨((hHeld.2.2.1.set (by first | omega | (simp <;> omega)) (by first | omega | (simp <;> omega)) _).nth 3 rfl).at 0, ((hHeld.2.2.1.set (by first | omega | (simp <;> omega)) (by first | omega | (simp <;> omega)) _).nth 2 rfl).at 0, (hHeld.2.2.1.set (by first | omega | (simp <;> omega)) (by first | omega | (simp <;> omega)) _), (hHeld.2.2.2.1).set (.inr (by first | omega | (simp <;> omega))) _, (hHeld.2.2.2.2).set (.inr (by first | omega | (simp <;> omega))) _⟩) (fun hHeld => ?_)
              clear hK K
              refine wpAnyH_done (by kernel_rfl) ?_ _
              refine NoPanic.normal ?_
              go_wp2_with fail
              go_meet
              first | exact ⟨_, A5, cap5, _, _, us5, rfl, Blk.made _ _ _, HL5.out, HI5.out, hR5.alloc _, hHeld.2.2.1, hHeld.2.2.2.1, hHeld.2.2.2.2, (by first | omega | (simp <;> omega)), (by first | omega | (simp <;> omega)), (by first | omega | (simp <;> omega)), (by first | exact .inr (by first | omega | (simp <;> omega)) | exact .inl (by first | omega | (simp <;> omega)))⟩ | exact ⟨_, A5, cap5, _, _, us5, rfl, hx.put 0 _, HL5.out, HI5.out, hR5.set (by first | exact .inl (by first | omega | (simp <;> omega)) | exact .inr (by first | omega | (simp <;> omega))) _, hHeld.2.2.1, hHeld.2.2.2.1, hHeld.2.2.2.2, (by first | omega | (simp <;> omega)), (by first | omega | (simp <;> omega)), (by first | omega | (simp [World.setCell] <;> omega)), (by first | exact .inl (by first | omega | (simp <;> omega)) | exact .inr (by first | omega | (simp <;> omega)))⟩
            · skip
              go_simp
              (have hr5 := hHeld.2.2.1.room; (try simp at hr5))
              try go_wp2_with fail
              refine hK.out _ _ (by exact ⟨((hHeld.2.2.1.alloc _).nth 3 rfl).at 0, ((hHeld.2.2.1.alloc _).nth 2 rfl).at 0, (hHeld.2.2.1.alloc _), (hHeld.2.2.2.1).alloc _, (hHeld.2.2.2.2).alloc _⟩) (fun hHeld => ?_)
              clear hK K
              refine take_one 4 (by kernel_rfl) rfl (fun K hK => ?_)
              go_simp
              (have hr := hHeld.2.2.1.room; (try simp at hr); (first | (with_reducible refine (HIC.out usa usb ga gb _ HLa.out HIa.out HLb.out HIb.out HRa'.out.vg HRb.out.vg).mono ?_) | (with_reducible refine (HIC.out usa usb ga gb _ HLa.out HIa.out HLb.out HIb.out (HRa'.out.on (below_alloc1 _ _)).vg (HRb.out.on (below_alloc1 _ _)).vg).mono ?_)); rintro e wc hAN; obtain ⟨A5, cap5, us5, rfl, hl5, hli5, hR5, hb⟩ := answerS_form hAN; have HL5 := hide hl5; have HI5 := hide hli5; clear hl5 hli5 hAN; have hz := hb.size; (try simp at hz); (first | (with_reducible have hx := Blk.on (Blk.drew (Blk.made _ _ #[.slice none 0 0])) hb) | (with_reducible have hx := Blk.on (Blk.made _ _ #[.slice none 0 0]) hb) | (with_reducible have hx := Blk.on (cs := #[.slice none 0 0]) (by assumption) hb) | skip); (try have kx := hx.one))
              try go_wp2_with fail
              refine hK.out _ _ (by exact ⟨((hHeld.2.2.1.on hb).nth 3 rfl).at 0, ((hHeld.2.2.1.on hb).nth 2 rfl).at 0, (hHeld.2.2.1.on hb), (hHeld.2.2.2.1).on hb, (hHeld.2.2.2.2).on hb⟩) (fun hHeld => ?_)
              clear hK K
              refine take_one 6 (by kernel_rfl) rfl (fun K hK => ?_)
              go_simp
              refine hK.out _ _ (by first | exact ⟨((hHeld.2.2.1.swap (o := .cells #[.slice none 0 0] 48) (by first | omega | (simp <;> omega)) (by first | omega | (simp <;> omega))).nth 3 rfl).at 0, ((hHeld.2.2.1.swap (o := .cells #[.slice none 0 0] 48) (by first | omega | (simp <;> omega)) (by first | omega | (simp <;> omega))).nth 2 rfl).at 0, (hHeld.2.2.1.swap (o := .cells #[.slice none 0 0] 48) (by first | omega | (simp <;> omega)) (by first | omega | (simp <;> omega))), ResS.swap (o := .cells #[.slice none 0 0] 48) (hHeld.2.2.2.1) (by first | omega | (simp <;> omega)), ResS.swap (o := .cells #[.slice none 0 0] 48) (hHeld.2.2.2.2) (by first | omega | (simp <;> omega))⟩ | exact ⟨((hHeld.2.2.1.set (by first | omega | (simp <;> omega)) (by first | omega | (simp <;> omega)) _).nth 3 rfl).at 0, ((hHeld.2.2.1.set (by first | omega | (simp <;> omega)) (by first | omega | (simp <;> omega)) _).nth 2 rfl).at 0, (hHeld.2.2.1.set (by first | omega | (simp <;> omega)) (by first | omega | (simp <;> omega)) _), (hHeld.2.2.2.1).set (.inr (by first | omega | (simp <;> omega))) _, (hHeld.2.2.2.2).set (.inr (by first | omega | (simp <;> omega))) _⟩) (fun hHeld => ?_)
              clear hK K
              refine wpAnyH_done (by kernel_rfl) ?_ _
              refine NoPanic.normal ?_
              go_wp2_with fail
              go_meet
              first | exact ⟨_, A5, cap5, _, _, us5, rfl, Blk.made _ _ _, HL5.out, HI5.out, hR5.alloc _, hHeld.2.2.1, hHeld.2.2.2.1, hHeld.2.2.2.2, (by first | omega | (simp <;> omega)), (by first | omega | (simp <;> omega)), (by first | omega | (simp <;> omega)), (by first | exact .inr (by first | omega | (simp <;> omega)) | exact .inl (by first | omega | (simp <;> omega)))⟩ | exact ⟨_, A5, cap5, _, _, us5, rfl, hx.put 0 _, HL5.out, HI5.out, hR5.set (by first | exact .inl (by first | omega | (simp <;> omega)) | exact .inr (by first | omega | (simp <;> omega))) _, hHeld.2.2.1, hHeld.2.2.2.1, hHeld.2.2.2.2, (by first | omega | (simp <;> omega)), (by first | omega | (simp <;> omega)), (by first | omega | (simp [World.setCell] <;> omega)), (by first | exact .inl (by first | omega | (simp <;> omega)) | exact .inr (by first | omega | (simp <;> omega)))⟩
          · skip
            go_simp
            (have hr5 := hHeld.2.2.1.room; (try simp at hr5))
            try go_wp2_with fail
            refine hK.out _ _ (by exact ⟨((hHeld.2.2.1.alloc _).nth 3 rfl).at 0, ((hHeld.2.2.1.alloc _).nth 2 rfl).at 0, (hHeld.2.2.1.alloc _), (hHeld.2.2.2.1).alloc _, (hHeld.2.2.2.2).alloc _⟩) (fun hHeld => ?_)
            clear hK K
            refine take_one 3 (by kernel_rfl) rfl (fun K hK => ?_)
            go_simp
            (have hr := hHeld.2.2.1.room; (try simp at hr); refine (toStore_own a2 c2 bs _ hn1 (fun v hv => (SB.out v hv).1) ((hv2.on hHeld.2.2.1.below).up hHeld.2.2.1.base)).mono ?_; rintro e wb ⟨gb, usb, curb, rfl, hlb, hlib, hRb, hb⟩; have HLb := hide hlb; have HIb := hide hlib; have HRb := hide hRb; clear hlb hlib hRb; (first | have HRa' := hide (HRa.out.on hb) | have HRa' := hide ((HRa.out.on (below_alloc1 _ _)).on hb)); have hz := hb.size; (try simp at hz); (first | (with_reducible have hx := Blk.on (Blk.drew (Blk.made _ _ #[.slice none 0 0])) hb) | (with_reducible have hx := Blk.on (Blk.made _ _ #[.slice none 0 0]) hb) | (with_reducible have hx := Blk.on (cs := #[.slice none 0 0]) (by assumption) hb) | skip); (try have kx := hx.one))
            try go_wp2_with fail
            refine hK.out _ _ (by exact ⟨((hHeld.2.2.1.on hb).nth 3 rfl).at 0, ((hHeld.2.2.1.on hb).nth 2 rfl).at 0, (hHeld.2.2.1.on hb), (hHeld.2.2.2.1).on hb, (hHeld.2.2.2.2).on hb⟩) (fun hHeld => ?_)
            clear hK K
            refine take_one 4 (by kernel_rfl) rfl (fun K hK => ?_)
            go_simp
            (have hr := hHeld.2.2.1.room; (try simp at hr); (first | (with_reducible refine (HIC.out usa usb ga gb _ HLa.out HIa.out HLb.out HIb.out HRa'.out.vg HRb.out.vg).mono ?_) | (with_reducible refine (HIC.out usa usb ga gb _ HLa.out HIa.out HLb.out HIb.out (HRa'.out.on (below_alloc1 _ _)).vg (HRb.out.on (below_alloc1 _ _)).vg).mono ?_)); rintro e wc hAN; obtain ⟨A5, cap5, us5, rfl, hl5, hli5, hR5, hb⟩ := answerS_form hAN; have HL5 := hide hl5; have HI5 := hide hli5; clear hl5 hli5 hAN; have hz := hb.size; (try simp at hz); (first | (with_reducible have hx := Blk.on (Blk.drew (Blk.made _ _ #[.slice none 0 0])) hb) | (with_reducible have hx := Blk.on (Blk.made _ _ #[.slice none 0 0]) hb) | (with_reducible have hx := Blk.on (cs := #[.slice none 0 0]) (by assumption) hb) | skip); (try have kx := hx.one))
            try go_wp2_with fail
            refine hK.out _ _ (by exact ⟨((hHeld.2.2.1.on hb).nth 3 rfl).at 0, ((hHeld.2.2.1.on hb).nth 2 rfl).at 0, (hHeld.2.2.1.on hb), (hHeld.2.2.2.1).on hb, (hHeld.2.2.2.2).on hb⟩) (fun hHeld => ?_)
            clear hK K
            refine take_one 6 (by kernel_rfl) rfl (fun K hK => ?_)
            go_simp
            refine hK.out _ _ (by first | exact ⟨((hHeld.2.2.1.swap (o := .cells #[.slice none 0 0] 48) (by first | omega | (simp <;> omega)) (by first | omega | (simp <;> omega))).nth 3 rfl).at 0, ((hHeld.2.2.1.swap (o := .cells #[.slice none 0 0] 48) (by first | omega | (simp <;> omega)) (by first | omega | (simp <;> omega))).nth 2 rfl).at 0, (hHeld.2.2.1.swap (o := .cells #[.slice none 0 0] 48) (by first | omega | (simp <;> omega)) (by first | omega | (simp <;> omega))), ResS.swap (o := .cells #[.slice none 0 0] 48) (hHeld.2.2.2.1) (by first | omega | (simp <;> omega)), ResS.swap (o := .cells #[.slice none 0 0] 48) (hHeld.2.2.2.2) (by first | omega | (simp <;> omega))⟩ | exact ⟨((hHeld.2.2.1.set (by first | omega | (simp <;> omega)) (by first | omega | (simp <;> omega)) _).nth 3 rfl).at 0, ((hHeld.2.2.1.set (by first | omega | (simp <;> omega)) (by first | omega | (simp <;> omega)) _).nth 2 rfl).at 0, (hHeld.2.2.1.set (by first | omega | (simp <;> omega)) (by first | omega | (simp <;> omega)) _), (hHeld.2.2.2.1).set (.inr (by first | omega | (simp <;> omega))) _, (hHeld.2.2.2.2).set (.inr (by first | omega | (simp <;> omega))) _⟩) (fun hHeld => ?_)
            clear hK K
            refine wpAnyH_done (by kernel_rfl) ?_ _
            refine NoPanic.normal ?_
            go_wp2_with fail
            go_meet
            first | exact ⟨_, A5, cap5, _, _, us5, rfl, Blk.made _ _ _, HL5.out, HI5.out, hR5.alloc _, hHeld.2.2.1, hHeld.2.2.2.1, hHeld.2.2.2.2, (by first | omega | (simp <;> omega)), (by first | omega | (simp <;> omega)), (by first | omega | (simp <;> omega)), (by first | exact .inr (by first | omega | (simp <;> omega)) | exact .inl (by first | omega | (simp <;> omega)))⟩ | exact ⟨_, A5, cap5, _, _, us5, rfl, hx.put 0 _, HL5.out, HI5.out, hR5.set (by first | exact .inl (by first | omega | (simp <;> omega)) | exact .inr (by first | omega | (simp <;> omega))) _, hHeld.2.2.1, hHeld.2.2.2.1, hHeld.2.2.2.2, (by first | omega | (simp <;> omega)), (by first | omega | (simp <;> omega)), (by first | omega | (simp [World.setCell] <;> omega)), (by first | exact .inl (by first | omega | (simp <;> omega)) | exact .inr (by first | omega | (simp <;> omega)))⟩
        · skip
          go_simp
          (have hr5 := hHeld.2.2.1.room; (try simp at hr5))
          try go_wp2_with fail
          refine hK.out _ _ (by exact ⟨((hHeld.2.2.1.alloc _).nth 3 rfl).at 0, ((hHeld.2.2.1.alloc _).nth 2 rfl).at 0, (hHeld.2.2.1.alloc _), (hHeld.2.2.2.1).alloc _, (hHeld.2.2.2.2).alloc _⟩) (fun hHeld => ?_)
          clear hK K
          refine take_one 1 (by kernel_rfl) rfl (fun K hK => ?_)
          go_simp
          (have hr := hHeld.2.2.1.room; (try simp at hr); refine (toStore_own a c vs _ hn (fun v hv => (SM.out v hv).1) ((hv.on hHeld.2.2.1.below).up hHeld.2.2.1.base)).mono ?_; rintro e wa ⟨ga, usa, cura, rfl, hla, hlia, hRa, hb⟩; have HLa := hide hla; have HIa := hide hlia; have HRa := hide hRa; clear hla hlia hRa; have hz := hb.size; (try simp at hz); (first | (with_reducible have hx := Blk.on (Blk.drew (Blk.made _ _ #[.slice none 0 0])) hb) | (with_reducible have hx := Blk.on (Blk.made _ _ #[.slice none 0 0]) hb) | (with_reducible have hx := Blk.on (cs := #[.slice none 0 0]) (by assumption) hb) | skip); (try have kx := hx.one))
          try go_wp2_with fail
          refine hK.out _ _ (by exact ⟨((hHeld.2.2.1.on hb).nth 3 rfl).at 0, ((hHeld.2.2.1.on hb).nth 2 rfl).at 0, (hHeld.2.2.1.on hb), (hHeld.2.2.2.1).on hb, (hHeld.2.2.2.2).on hb⟩) (fun hHeld => ?_)
          clear hK K
          refine take_one 3 (by kernel_rfl) rfl (fun K hK => ?_)
          go_simp
          (have hr := hHeld.2.2.1.room; (try simp at hr); refine (toStore_own a2 c2 bs _ hn1 (fun v hv => (SB.out v hv).1) ((hv2.on hHeld.2.2.1.below).up hHeld.2.2.1.base)).mono ?_; rintro e wb ⟨gb, usb, curb, rfl, hlb, hlib, hRb, hb⟩; have HLb := hide hlb; have HIb := hide hlib; have HRb := hide hRb; clear hlb hlib hRb; (first | have HRa' := hide (HRa.out.on hb) | have HRa' := hide ((HRa.out.on (below_alloc1 _ _)).on hb)); have hz := hb.size; (try simp at hz); (first | (with_reducible have hx := Blk.on (Blk.drew (Blk.made _ _ #[.slice none 0 0])) hb) | (with_reducible have hx := Blk.on (Blk.made _ _ #[.slice none 0 0]) hb) | (with_reducible have hx := Blk.on (cs := #[.slice none 0 0]) (by assumption) hb) | skip); (try have kx := hx.one))
          try go_wp2_with fail
          refine hK.out _ _ (by exact ⟨((hHeld.2.2.1.on hb).nth 3 rfl).at 0, ((hHeld.2.2.1.on hb).nth 2 rfl).at 0, (hHeld.2.2.1.on hb), (hHeld.2.2.2.1).on hb, (hHeld.2.2.2.2).on hb⟩) (fun hHeld => ?_)
          clear hK K
          refine take_one 4 (by kernel_rfl) rfl (fun K hK => ?_)
          go_simp
          (have hr := hHeld.2.2.1.room; (try simp at hr); (first | (with_reducible refine (HIC.out usa usb ga gb _ HLa.out HIa.out HLb.out HIb.out HRa'.out.vg HRb.out.vg).mono ?_) | (with_reducible refine (HIC.out usa usb ga gb _ HLa.out HIa.out HLb.out HIb.out (HRa'.out.on (below_alloc1 _ _)).vg (HRb.out.on (below_alloc1 _ _)).vg).mono ?_)); rintro e wc hAN; obtain ⟨A5, cap5, us5, rfl, hl5, hli5, hR5, hb⟩ := answerS_form hAN; have HL5 := hide hl5; have HI5 := hide hli5; clear hl5 hli5 hAN; have hz := hb.size; (try simp at hz); (first | (with_reducible have hx := Blk.on (Blk.drew (Blk.made _ _ #[.slice none 0 0])) hb) | (with_reducible have hx := Blk.on (Blk.made _ _ #[.slice none 0 0]) hb) | (with_reducible have hx := Blk.on (cs := #[.slice none 0 0]) (by assumption) hb) | skip); (try have kx := hx.one))
          try go_wp2_with fail
          refine hK.out _ _ (by exact ⟨((hHeld.2.2.1.on hb).nth 3 rfl).at 0, ((hHeld.2.2.1.on hb).nth 2 rfl).at 0, (hHeld.2.2.1.on hb), (hHeld.2.2.2.1).on hb, (hHeld.2.2.2.2).on hb⟩) (fun hHeld => ?_)
          clear hK K
          refine take_one 6 (by kernel_rfl) rfl (fun K hK => ?_)
          go_simp
          refine hK.out _ _ (by first | exact ⟨((hHeld.2.2.1.swap (o := .cells #[.slice none 0 0] 48) (by first | omega | (simp <;> omega)) (by first | omega | (simp <;> omega))).nth 3 rfl).at 0, ((hHeld.2.2.1.swap (o := .cells #[.slice none 0 0] 48) (by first | omega | (simp <;> omega)) (by first | omega | (simp <;> omega))).nth 2 rfl).at 0, (hHeld.2.2.1.swap (o := .cells #[.slice none 0 0] 48) (by first | omega | (simp <;> omega)) (by first | omega | (simp <;> omega))), ResS.swap (o := .cells #[.slice none 0 0] 48) (hHeld.2.2.2.1) (by first | omega | (simp <;> omega)), ResS.swap (o := .cells #[.slice none 0 0] 48) (hHeld.2.2.2.2) (by first | omega | (simp <;> omega))⟩ | exact ⟨((hHeld.2.2.1.set (by first | omega | (simp <;> omega)) (by first | omega | (simp <;> omega)) _).nth 3 rfl).at 0, ((hHeld.2.2.1.set (by first | omega | (simp <;> omega)) (by first | omega | (simp <;> omega)) _).nth 2 rfl).at 0, (hHeld.2.2.1.set (by first | omega | (simp <;> omega)) (by first | omega | (simp <;> omega)) _), (hHeld.2.2.2.1).set (.inr (by first | omega | (simp <;> omega))) _, (hHeld.2.2.2.2).set (.inr (by first | omega | (simp <;> omega))) _⟩) (fun hHeld => ?_)
          clear hK K
          refine wpAnyH_done (by kernel_rfl) ?_ _
          refine NoPanic.normal ?_
          go_wp2_with fail
          go_meet
          first | exact ⟨_, A5, cap5, _, _, us5, rfl, Blk.made _ _ _, HL5.out, HI5.out, hR5.alloc _, hHeld.2.2.1, hHeld.2.2.2.1, hHeld.2.2.2.2, (by first | omega | (simp <;> omega)), (by first | omega | (simp <;> omega)), (by first | omega | (simp <;> omega)), (by first | exact .inr (by first | omega | (simp <;> omega)) | exact .inl (by first | omega | (simp <;> omega)))⟩ | exact ⟨_, A5, cap5, _, _, us5, rfl, hx.put 0 _, HL5.out, HI5.out, hR5.set (by first | exact .inl (by first | omega | (simp <;> omega)) | exact .inr (by first | omega | (simp <;> omega))) _, hHeld.2.2.1, hHeld.2.2.2.1, hHeld.2.2.2.2, (by first | omega | (simp <;> omega)), (by first | omega | (simp <;> omega)), (by first | omega | (simp [World.setCell] <;> omega)), (by first | exact .inl (by first | omega | (simp <;> omega)) | exact .inr (by first | omega | (simp <;> omega)))⟩
      case rest =>
      obtain ⟨p1, A14, cap14, B14, U14, us14, rfl, hBq, HL14', HI14', P14, I14, R12, Q10, hp1, hb1, hu1, hx1⟩ := hcut
      have HL14 := hide HL14'
      have HI14 := hide HI14'
      have I15 := I14.add (by omega) hBq
      have k9 := (I15.nth 0 rfl).one.1
      have k10 := (I15.nth 2 rfl).one.1
      clear I13 R11 Q9 I14 hBq HL14' HI14'
      go_wp2_with fail
      refine (eqStore_same _ _ _ _ (joinR vs bs).length us14 us0 _ (by omega) HL14.out HL0.out (like_both HL14.out HL0.out HI14.out HI0.out) (fun x hx => by have := (few_like HL14.out HI14.out HFEW.out).2 x hx; omega) P14.vg R12.vg).mono ?_
      rintro e wq ⟨rfl, hbq⟩
      have I16 := (I15.on hbq).top
      have Q11 := Q10.on hbq
      clear I15 R12 Q10 P14 hbq k9 k10
      have k9 := (I16.nth 1 rfl).one.1
      go_wp2_with fail
      refine (HHELD.out wq Q11).mono ?_
      rintro e wr ⟨rfl, hbr⟩
      have I17 := I16.on hbr
      clear I16 Q11 k9 hbr
      go_wp2
      go_ret
      exact ⟨rfl, I17.below⟩
  
    · refine (szStore_not a2 c2 bs _ _ (by omega) (by omega) hl1 HMB.out (by omega) ((hv2.on S1.below).up S1.base)).mono ?_
      rintro e w2 ⟨rfl, hb2⟩
      have S2 := S1.on hb2
      clear S1 k1
      go_wp2
      go_ret
      exact ⟨rfl, S2.below⟩
  · go_enter Try.func7, Try.ntmps7
    go_wp2_with fail
    refine (szStore_not a c vs 1048576 _ (by omega) (by omega) hl HM.out (by omega) ((hv.on S0.below).up S0.base)).mono ?_
    rintro e w1 ⟨rfl, hb1⟩
    have S1 := S0.on hb1
    clear S0
    go_wp2
    go_ret
    exact ⟨rfl, S1.below⟩

set_option maxRecDepth 100000 in
theorem lifted (os : Os) (started : os.Started) (H : Type) (enc : TypeId × Value → H) :
    ReturnsInHanded {} Try.checked os 7 .any (Rows.fnExactStoreJoinSpec.pre6 enc Try.prog Try.f7 Rows.fnExactStoreJoinRow.domain false) (Rows.fnExactStoreJoinSpec.post enc Try.prog Try.f7 false true false false) := by
  refine returnsInHanded_of_change (C := Try.checked) own started (by kernel_rfl) Try.func7
    (ChangeSpec.witness6 (enc := enc) (C := Try.checked) false ⟨#[], #[.agg #[.slice none 0 0], .agg #[.slice none 0 0]], []⟩ 8 (by kernel_rfl) (by kernel_rfl) (by kernel_rfl) (by kernel_rfl)) ?_
  intro W base args ds gs before hval0 hW hcnd _
  have hval : ∀ (j : Nat) t v, Try.f7.params[j]? = some t → args[j]? = some v → Value.okWide Try.prog W .any base t v := hval0
  have hW' := hW
  obtain ⟨p, q, hA0, hV, rfl, hfz, hnd⟩ := hW
  have hA : DataW.TrodAll enc Try.prog W 0 (fun _ => true) true Try.f7.params.toList args.toList ds p := hA0
  rw [Try.params7] at hA hval
  have hK := hA
  obtain ⟨v0, vs0, d0, ds0, p0, q0, hargs, rfl, rfl, h0, r0⟩ := trodAll_cons hA
  obtain ⟨v1, vs1, d1, ds1, p1, q1, rfl, rfl, rfl, h1, r1⟩ := trodAll_cons r0
  obtain ⟨rfl, rfl, rfl⟩ := trodAll_nil r1
  obtain rfl : args = #[v0, v1] := by cases args; simp_all
  obtain ⟨rfl, rfl⟩ := trodVars_none hV
  obtain ⟨a0, cap0, z0, rfl, b0⟩ := read_store (hval 0 37 v0 rfl rfl) h0
  obtain ⟨a1, cap1, z1, rfl, b1⟩ := read_store (hval 1 37 v1 rfl rfl) h1
  clear hA0 hval0
  refine (walk a0 cap0 z0 a1 cap1 z1 W b0.1 b0.2.1 b0.2.2 b1.1 b1.2.1 b1.2.2).mono fun e W' ⟨he, hb⟩ => ?_
  subst he
  have hK' := stay_all hb (by intro t ht; simp only [List.mem_cons, List.not_mem_nil, or_false] at ht; rcases ht with rfl | rfl <;> exact ⟨by kernel_rfl, of_decide_eq_true (by kernel_rfl)⟩) hK
  exact ⟨_, rfl, _, _, _, [], _, [], hW', trodAll_mk1 (shut_bool Try.underlying4 _), hK', rfl, hb.frame _, fun h => by cases h⟩

theorem over : Rows.fnExactStoreJoinRow.holds Try.pinned (OpenSpec.ofChange Rows.fnExactStoreJoinSpec) :=
  OpenClaim.holds_of_wide 7 Try.f7 rfl rfl rfl rfl rfl rfl rfl ⟨rfl, rfl, rfl, rfl, rfl⟩ rfl rfl rfl rfl rfl (by kernel_rfl) Try.func7
    (by refine joined_of ?_; kernel_rfl) (of_decide_eq_true (by kernel_rfl)) (by unfold Func.isWrapper; first | (rw [if_pos (by decide +kernel)]; kernel_rfl) | (rw [if_neg (by decide +kernel)]; exact ⟨rfl, rfl⟩))
    (fun os started H enc _ => lifted os started H enc)
end Go.Proofs.Ytkkjhfgjjakmfaa.LawStoreJoin
namespace Go.Proofs.Ytkkjhfgjjakmfaa
/-- The statement itself. -/
theorem fnExactStoreJoin_holds : Rows.FnExactStoreJoinSaid := LawStoreJoin.over
#print axioms fnExactStoreJoin_holds
end Go.Proofs.Ytkkjhfgjjakmfaa
namespace Go.Proofs.Ytkkjhfgjjakmfaa.LawStoreJoin
end Go.Proofs.Ytkkjhfgjjakmfaa.LawStoreJoin
