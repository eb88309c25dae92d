/- A place as a function works on it: how it is made, and handed over. Condition: sizes that memory holds. -/
import Derived.Test.YtnaggcdhimcilaaGreatJLogRow
import Derived.Test.YtnaggcdhimcilaaGreatJPlaceOk4
import Derived.Test.YtnaggcdhimcilaaGreatJNotePure
import Derived.Test.YtnaggcdhimcilaaGreatJChainClone2
import Derived.Test.YtnaggcdhimcilaaGreatJStorePure
namespace Go.Proofs.YtnaggcdhimcilaaGreat
open Go.RowKit Go.Joins
attribute [local go_sem ↓] Go.wp_at_zero Go.wp_at_succ

/-- A place in the making: its cells in a block of type centre, its parts in memory of its own. -/
structure Ctr (w : World) (B C : Nat) (q : Pl) : Prop where
  blk : Blk w C 73 (ctC q)
  lo : B ≤ C
  chain : ResN w B w.heap.size q.ca q.ns
  log : CRow B w (.slice q.la q.log.length q.lc) q.log
  got : HRow B w (.slice q.ga q.gs.length q.gc) q.gs
  cl : ∀ g, FootC q.ca q.ns g → ¬ FootV q.la q.lc q.log g
  cg : ∀ g, FootC q.ca q.ns g → ¬ FootH (.slice q.ga q.gs.length q.gc) q.gs g
  lg : ∀ g, FootV q.la q.lc q.log g → ¬ FootH (.slice q.ga q.gs.length q.gc) q.gs g
  nc : ¬ FootC q.ca q.ns C
  nl : ¬ FootV q.la q.lc q.log C
  ng : ¬ FootH (.slice q.ga q.gs.length q.gc) q.gs C
theorem Ctr.on {w w' : World} {B C : Nat} {q : Pl} (h : Ctr w B C q) (hb : Below w.heap.size w w') : Ctr w' B C q :=
  ⟨h.blk.on hb, h.lo, (h.chain.on hb).wide (Nat.le_refl _) hb.size, h.log.on hb, h.got.on hb, h.cl, h.cg, h.lg, h.nc, h.nl, h.ng⟩
theorem footL_H {A : Option Addr} {c : Nat} {ls : List Lg} {g : Nat} (h : FootL A ls g) : FootH (.slice A ls.length c) ls g := by
  obtain ⟨_, G, rfl, h⟩ := h
  rcases h with rfl | ⟨i, l, hi, hf⟩
  · exact .inl rfl
  · exact .inr ⟨i, l, hi, .inl hf⟩
theorem Ctr.pres {w : World} {B C : Nat} {q : Pl} (h : Ctr w B C q) : PRes w B w.heap.size q :=
  ⟨h.chain, h.log.resV.2, h.got.res.2, fun g h1 h2 => h.cl g h1 (.inl h2), fun g h1 h2 => h.cg g h1 (footL_H h2), fun g h1 h2 => h.lg g (.inl h1) (footL_H h2)⟩
/-- What centreOf leaves. -/
def MadeCtr (w : World) (p : Pl) (e : Ending) (w' : World) : Prop :=
  ∃ (C : Nat) (q : Pl), e = .returned (.pointer (some ⟨C, 0, none⟩)) ∧ LP q p ∧ Ctr w' w.heap.size C q ∧ Below w.heap.size w w'
theorem lls_push {us ls : List Lg} {k : Nat} {v y : Lg} (h : ∀ (i : Nat) v v', us[i]? = some v → ls[i]? = some v' → LL v.vs v'.vs) (hk : us.length = k) (hy : ls[k]? = some y) (hl : LL v.vs y.vs) : ∀ (i : Nat) x x', (us ++ [v])[i]? = some x → ls[i]? = some x' → LL x.vs x'.vs := fun i x x' hx hx' => by
  rcases snoc_get hk i x hx with ⟨rfl, rfl⟩ | ⟨_, hq⟩
  · rw [hy] at hx'
    injection hx' with hx'
    subst hx'
    exact hl
  · exact h i x x' hq hx'
set_option maxRecDepth 100000 in
set_option maxHeartbeats 8000000 in
theorem centreOf_any (p : Pl) (w : World) (hm : SmP p) (hC : Cp w p) :
    Calls Tryz.prog 70 #[.agg (plCells p)] w (MadeCtr w p) := by
  obtain ⟨i0, hi0, hz0, hz1, hz2⟩ := info_parts vers_info
  have I0 := hide hi0
  have I1 := hide hz0
  have I2 := hide hz1
  have I3 := hide hz2
  clear hi0 hz0 hz1 hz2
  obtain ⟨⟨m1, m2⟩, ⟨m3, m4⟩, m5, m6⟩ := hm
  obtain ⟨t1, t2, t3⟩ := hC
  have HCL : Hid (∀ W, Below w.heap.size w W → Calls Tryz.prog 66 #[.agg #[.slice p.ca p.ns.length p.cc]] W (ClonedC W p.ns)) := fun W hW => chainClone_any p.ca p.cc p.ns W m1 m2 (t1.on hW)
  have HLG : Hid (∀ W, Below w.heap.size w W → Calls Tryz.prog 107 #[.slice p.la p.log.length p.lc] W (CopiedR W p.log)) := fun W hW => copyVers_any p.la p.lc p.log W m3 (small_tags m4) ((t2.on hW).up hW.size)
  have HGT : Hid (∀ (i : Nat) l, p.gs[i]? = some l → ∀ W, Below w.heap.size w W → Calls Tryz.prog 107 #[.slice l.a l.vs.length l.c] W (CopiedR W l.vs)) := fun i l hi W hW => by
    have hm := m6 l (List.mem_of_getElem? hi)
    have hv : Vg w w.heap.size l.a l.vs := by
      rcases t3 with h | ⟨b, off, _, _, hx⟩
      · rw [h] at hi; simp at hi
      · exact (hx i l hi).2
    exact copyVers_any l.a l.c l.vs W hm.1 (small_tags hm.2) ((hv.on hW).up hW.size)
  have HT3 := hide t3
  clear m1 m2 m3 m4 m6 t1 t2 t3
  obtain ⟨me, ck, ca, cc, ns, la, lc, log, ga, gc, gs, fell⟩ := p
  simp only at HCL HLG HGT HT3 m5
  have S0 := (Inv.start w).box 36 (plAt me ck ca ns.length cc la log.length lc ga gs.length gc fell)
  simp only [World.size_alloc] at S0
  go_enter Tryz.func70, Tryz.ntmps70
  go_wp2_with fail
  generalize hW0 : w.alloc (.cells (plAt me ck ca ns.length cc la log.length lc ga gs.length gc fell) 36) = W0 at S0 ⊢
  have zW0 : W0.heap.size = w.heap.size + 1 := by rw [← hW0]; simp
  clear hW0
  refine wp_region_noPanic ?_
  refine wp_region_held_drew (S := (fun w' => (w'.cell? ⟨w.heap.size, 0, none⟩ = some (.int .i64 me) ∧ w'.cell? ⟨w.heap.size, 1, none⟩ = some (.int .i64 ck) ∧ w'.cell? ⟨w.heap.size, 2, none⟩ = some (.slice ca ns.length cc) ∧ w'.cell? ⟨w.heap.size, 3, none⟩ = some (.slice la log.length lc) ∧ w'.cell? ⟨w.heap.size, 4, none⟩ = some (.slice ga gs.length gc) ∧ w'.cell? ⟨w.heap.size, 5, none⟩ = some (.bool fell)) ∧ Inv w (w.heap.size + 1) [(w.heap.size, 36, plAt me ck ca ns.length cc la log.length lc ga gs.length gc fell)] w')) (by kernel_rfl) (by exact ⟨(S0.drew.nth 0 rfl).six.1, S0.drew⟩) (fun hHeld => ?_)
  refine mvR 0 (some 6) hHeld ?_
  refine mvR 1 (some 7) hHeld ?_
  refine mvR 3 (some 9) hHeld ?_
  refine mvR 4 (some 10) hHeld ?_
  refine mvR 5 (some 11) hHeld ?_
  refine mvR 6 (some 12) hHeld ?_
  refine mvR 7 (some 13) hHeld ?_
  refine mvR 8 (some 14) hHeld ?_
  refine mvR 10 (some 16) hHeld ?_
  refine mvR 11 (some 17) hHeld ?_
  refine take_one 2 (by kernel_rfl) rfl (fun K hK => ?_)
  go_simp
  ((with_reducible refine (HCL.out _ hHeld.2.below).mono ?_); rintro e w1 ⟨x1, us, rfl, hlu, hgu, hb⟩; obtain ⟨xa, xc, rfl⟩ := hgu.form; have HLU := hide hlu; have HGU := hide hgu; have z1 : W0.heap.size ≤ w1.heap.size := (by have := hb.size; simpa using this); clear hlu hgu)
  try go_wp2_with fail
  refine hK.out _ _ (by exact ⟨((hHeld.2.on hb).nth 0 rfl).six.1, hHeld.2.on hb⟩) (fun hHeld => ?_)
  clear hK K
  refine take_one 9 (by kernel_rfl) rfl (fun K hK => ?_)
  go_simp
  ((with_reducible refine (HLG.out _ hHeld.2.below).mono ?_); rintro e w2 ⟨x2, vs, rfl, hvl, hvk, hcr, hb⟩; obtain ⟨ya, yc, rfl, -⟩ := hcr.resS; have HLV : Hid (LL vs log) := ⟨hvl, hvk⟩; have HCR := hide hcr; have HGU2 := hide (HGU.out.on hb); have z2 := hb.size; have HI2 := hide (hHeld.2.on hb).below; clear hvl hvk hcr)
  try go_wp2_with fail
  refine hK.out _ _ (by exact ⟨((hHeld.2.on hb).nth 0 rfl).six.1, hHeld.2.on hb⟩) (fun hHeld => ?_)
  clear hK K
  refine mvR 12 (some 18) hHeld ?_
  refine take_one 13 (by kernel_rfl) rfl (fun K hK => ?_)
  go_simp
  refine hK.out _ _ (by exact ⟨((hHeld.2.alloc _).nth 0 rfl).six.1, hHeld.2.alloc _⟩) (fun hHeld => ?_)
  clear hK K
  refine mvR 14 (some 3) hHeld ?_
  refine wpAnyH_done (by kernel_rfl) ?_ _
  refine NoPanic.normal ?_
  have J0 := hHeld.2
  clear hHeld S0
  have V0 := Blk.made w2 73 (ctAt me ck xa us.length xc ya vs.length yc none 0 0 fell)
  have B0 := hide (below_alloc1 w2 (.cells (ctAt me ck xa us.length xc ya vs.length yc none 0 0 fell) 73))
  have HC0 := hide (HRow.start (w2.heap.size + 1) (w2.alloc (.cells (ctAt me ck xa us.length xc ya vs.length yc none 0 0 fell) 73)) (by simp))
  generalize hnn : gs.length = n at *
  have HN := hide hnn
  clear hnn
  have q0 := (J0.nth 0 rfl).six.1
  go_wp2
  clear q0
  go_loopw [23] (fun i wr => ∃ (k : Nat) (x : Value) (hs : List Lg), k ≤ n ∧ i = .int .i64 (k : Int) ∧ Blk wr w2.heap.size 73 #[.slice xa us.length xc, .int .i64 me, .int .i64 ck, .slice ya vs.length yc, x, .bool fell] ∧ Hid (hs.length = k) ∧ Hid (∀ (i : Nat) v v', hs[i]? = some v → gs[i]? = some v' → LL v.vs v'.vs) ∧ Hid (HRow (w2.heap.size + 1) wr x hs) ∧ Inv w (w.heap.size + 1) [(w.heap.size, 36, plAt me ck ca ns.length cc la log.length lc ga n gc fell)] wr ∧ Below w2.heap.size w2 wr) (fun i _ => n - (intOf i).toNat)
  case atStart => exact ⟨0, _, [], Nat.zero_le _, rfl, V0, rfl, fun i v v' hi => by simp at hi, HC0.out, J0, B0.out⟩
  case round =>
    obtain ⟨k, x, hs, hk, rfl, hV, HU, HL, HG, hI, hB⟩ := hrel
    clear J0 V0 HC0 B0
    by_cases hlt : k < n
    · rcases HT3.out with h0 | ⟨b, off, rfl, hb0, hx0⟩
      · have := HN.out; rw [h0] at this; simp at this; omega
      have hkl : k < gs.length := by have := HN.out; omega
      have HX := hide (List.getElem?_eq_getElem hkl)
      generalize gs[k] = ld at HX
      have n0 := (hI.below.cell (p := ⟨b, off + k, none⟩) hb0).trans (hx0 k ld HX.out).1
      have HCP := hide (HGT.out k ld HX.out)
      have i1 : (0 : Int) ≤ (k : Int) := by omega
      have i2 : (k : Int) < (n : Int) := by omega
      obtain ⟨ha, hc, rfl⟩ := HG.out.form
      have HVT := hide (HG.out.typed)
      have hlo := HG.out.lo
      have V1 := hV.drew
      have q1 : wr.drew.cell? ⟨w2.heap.size, 4, none⟩ = some (.slice ha hs.length hc) := V1.at 4
      have C1 := hide (HG.out.on (Below.refl _ _).drew)
      have J1 := hI.drew
      have B1 := hB.drew
      obtain ⟨da, dc, dv⟩ := ld
      simp only at n0 HCP
      clear hx0
      go_wp2_with fail
      refine wp_region_noPanic ?_
      refine wp_region_held_drew (S := (fun w' => Inv w (w.heap.size + 1) [(w.heap.size, 36, plAt me ck ca ns.length cc la log.length lc (some ⟨b, off, none⟩) n gc fell)] w' ∧ Below w2.heap.size w2 w')) (by kernel_rfl) (by exact ⟨J1, B1⟩) (fun hHeld => ?_)
      refine mvR 0 (some 27) hHeld ?_
      refine mvR 1 (some 28) hHeld ?_
      refine mvR 2 (some 29) hHeld ?_
      refine mvR 3 (some 30) hHeld ?_
      refine mvR 5 (some 32) hHeld ?_
      refine wpAnyH_ready (rs := [4, 6]) (by kernel_rfl) (by simp) ?_
      refine AllReadyH.cons rfl (fun K hK => ?_) (AllReadyH.cons rfl (fun K hK => ?_) AllReadyH.nil)
      · skip
        go_simp
        refine hK.out _ _ (by exact hHeld) (fun hHeld => ?_)
        clear hK K
        refine take_one 6 (by kernel_rfl) rfl (fun K hK => ?_)
        go_simp
        ((with_reducible refine (HCP.out _ hHeld.1.below).mono ?_); rintro e w5 ⟨x5, v5, rfl, hul, hli, hcr, hb5⟩; obtain ⟨A5, cap5, rfl, -⟩ := hcr.resS; have HL5 : Hid (LL v5 dv) := ⟨hul, hli⟩; have HC5 := hide hcr; have C2 := hide (C1.out.on hb5); have V2 := V1.on hb5; have z5 : wr.heap.size ≤ w5.heap.size := (by have := hb5.size; simpa using this); have HR := hide (show w5.ownsRow (w2.heap.size + 1) 33 1 (.slice ha hs.length hc) k (flatG hs) by have := C2.out.row; rw [HU.out] at this ⊢; exact this); have HB5 := hide hb5; have q2 : w5.cell? ⟨w2.heap.size, 4, none⟩ = some (.slice ha hs.length hc) := V2.at 4; have q4 : (w5.alloc (.cells #[.slice A5 v5.length cap5] 33)).cell? ⟨w2.heap.size, 4, none⟩ = some (.slice ha hs.length hc) := (V2.more _).at 4; clear hul hli hcr)
        try go_wp2_with fail
        refine hK.out _ _ (by exact ⟨hHeld.1.on HB5.out, hHeld.2.trans (HB5.out.mono hHeld.2.size)⟩) (fun hHeld => ?_)
        clear hK K
        refine take_one 7 (by kernel_rfl) rfl (fun K hK => ?_)
        go_simp
        refine hK.out _ _ (by exact ⟨hHeld.1.alloc _, hHeld.2.alloc hHeld.2.size _⟩) (fun hHeld => ?_)
        clear hK K
        refine take_one 8 (by kernel_rfl) rfl (fun K hK => ?_)
        (refine step_append_lies _ (by rfl) _ _ _ (by rfl) (w2.heap.size + 1) 33 i0 _ 1 24 Tryz.underlying34 I0.out I1.out I2.out I3.out rfl (by omega) (.slice ha hs.length hc) k (flatG hs) (by rfl) (HR.out.alloc _) ⟨w5.heap.size, 0, none⟩ 1 1 [cellG ⟨A5, cap5, v5⟩] (by rfl) (by rfl) (World.news_of_block (cs := #[.slice A5 v5.length cap5]) (t := 33) (fr := (0, 0)) (heap_alloc_new w5 _)) (by simp [cellG, Value.oneCell']) (by omega) (by unfold maxLen; omega) (by omega) (by simp; omega) _ rfl ?_; intro g cap w6 hown2 hgrow hat hlt2; have V3 := (V2.more (.cells #[.slice A5 v5.length cap5] 33)).kept hgrow (by intro e; have hq := HVT.out _ e; obtain ⟨_, _, h1, _⟩ := hq; omega); have q3 : w6.cell? ⟨w2.heap.size, 4, none⟩ = some (.slice ha hs.length hc) := V3.at 4; have f3 := V3.loose 4; have OW := hide hown2; have GW := hide hgrow; clear hown2)
        simp only [List.getElem_toArray, List.getElem_cons_zero, List.getElem_cons_succ, Act.put, List.setIfInBounds_toArray, List.set_cons_zero, List.set_cons_succ]
        refine hK.out _ _ (by exact ⟨Inv.grow hHeld.1 hgrow (fun g' e => by have hq := HVT.out _ e; obtain ⟨_, _, h1, _⟩ := hq; have := hHeld.1.base; omega), hHeld.2.grown hgrow hHeld.2.size (fun g' e => by have hq := HVT.out _ e; obtain ⟨_, _, h1, _⟩ := hq; omega)⟩) (fun hHeld => ?_)
        clear hK K
        refine mvR 9 (some 36) hHeld ?_
        refine mvR 10 (some 37) hHeld ?_
        refine take_one 11 (by kernel_rfl) rfl (fun K hK => ?_)
        go_simp
        refine hK.out _ _ (by exact ⟨hHeld.1.set (by simp; omega) (by simp; omega) _, hHeld.2.setCell (Nat.le_refl _) _⟩) (fun hHeld => ?_)
        clear hK K
        refine wpAnyH_done (by kernel_rfl) ?_ _
        refine NoPanic.normal ?_
        have I9 := hHeld.1
        have B9 := hHeld.2
        have C9 := C1.out.push (w1 := w5.alloc (.cells #[.slice A5 v5.length cap5] 33)) (v := ⟨A5, cap5, v5⟩) (g := g) (cap := cap) (w2 := w6) (HB5.out.trans ((below_alloc1 w5 _).mono HB5.out.size)) (HC5.out.on (below_alloc1 w5 _)) (by rw [HU.out]; exact OW.out) GW.out
        rw [HU.out] at C9
        have C10 := hide (C9.aside (p := ⟨w2.heap.size, 4, none⟩) (by simp) (.slice (some ⟨g, 0, none⟩) (k + 1) cap))
        have V9 := V3.put 4 (.slice (some ⟨g, 0, none⟩) (k + 1) cap)
        have HL9 := hide (lls_push (v := ⟨A5, cap5, v5⟩) HL.out HU.out HX.out HL5.out)
        have HU9 : Hid ((hs ++ [(⟨A5, cap5, v5⟩ : Lg)]).length = k + 1) := (by unfold Hid; rw [List.length_append, HU.out]; rfl)
        clear hHeld V3 q3 q1 q2 q4 V1 V2 C9 C1 C2 HG n0
        go_wp2
        exact ⟨⟨k + 1, _, _, by omega, by go_num, V9, HU9, HL9, C10, I9, B9⟩, by simp [intOf]; omega⟩
      · skip
        go_simp
        ((with_reducible refine (HCP.out _ hHeld.1.below).mono ?_); rintro e w5 ⟨x5, v5, rfl, hul, hli, hcr, hb5⟩; obtain ⟨A5, cap5, rfl, -⟩ := hcr.resS; have HL5 : Hid (LL v5 dv) := ⟨hul, hli⟩; have HC5 := hide hcr; have C2 := hide (C1.out.on hb5); have V2 := V1.on hb5; have z5 : wr.heap.size ≤ w5.heap.size := (by have := hb5.size; simpa using this); have HR := hide (show w5.ownsRow (w2.heap.size + 1) 33 1 (.slice ha hs.length hc) k (flatG hs) by have := C2.out.row; rw [HU.out] at this ⊢; exact this); have HB5 := hide hb5; have q2 : w5.cell? ⟨w2.heap.size, 4, none⟩ = some (.slice ha hs.length hc) := V2.at 4; have q4 : (w5.alloc (.cells #[.slice A5 v5.length cap5] 33)).cell? ⟨w2.heap.size, 4, none⟩ = some (.slice ha hs.length hc) := (V2.more _).at 4; clear hul hli hcr)
        try go_wp2_with fail
        refine hK.out _ _ (by exact ⟨hHeld.1.on HB5.out, hHeld.2.trans (HB5.out.mono hHeld.2.size)⟩) (fun hHeld => ?_)
        clear hK K
        refine wpAnyH_ready (rs := [4, 7]) (by kernel_rfl) (by simp) ?_
        refine AllReadyH.cons rfl (fun K hK => ?_) (AllReadyH.cons rfl (fun K hK => ?_) AllReadyH.nil)
        · skip
          go_simp
          refine hK.out _ _ (by exact hHeld) (fun hHeld => ?_)
          clear hK K
          refine take_one 7 (by kernel_rfl) rfl (fun K hK => ?_)
          go_simp
          refine hK.out _ _ (by exact ⟨hHeld.1.alloc _, hHeld.2.alloc hHeld.2.size _⟩) (fun hHeld => ?_)
          clear hK K
          refine take_one 8 (by kernel_rfl) rfl (fun K hK => ?_)
          (refine step_append_lies _ (by rfl) _ _ _ (by rfl) (w2.heap.size + 1) 33 i0 _ 1 24 Tryz.underlying34 I0.out I1.out I2.out I3.out rfl (by omega) (.slice ha hs.length hc) k (flatG hs) (by rfl) (HR.out.alloc _) ⟨w5.heap.size, 0, none⟩ 1 1 [cellG ⟨A5, cap5, v5⟩] (by rfl) (by rfl) (World.news_of_block (cs := #[.slice A5 v5.length cap5]) (t := 33) (fr := (0, 0)) (heap_alloc_new w5 _)) (by simp [cellG, Value.oneCell']) (by omega) (by unfold maxLen; omega) (by omega) (by simp; omega) _ rfl ?_; intro g cap w6 hown2 hgrow hat hlt2; have V3 := (V2.more (.cells #[.slice A5 v5.length cap5] 33)).kept hgrow (by intro e; have hq := HVT.out _ e; obtain ⟨_, _, h1, _⟩ := hq; omega); have q3 : w6.cell? ⟨w2.heap.size, 4, none⟩ = some (.slice ha hs.length hc) := V3.at 4; have f3 := V3.loose 4; have OW := hide hown2; have GW := hide hgrow; clear hown2)
          simp only [List.getElem_toArray, List.getElem_cons_zero, List.getElem_cons_succ, Act.put, List.setIfInBounds_toArray, List.set_cons_zero, List.set_cons_succ]
          refine hK.out _ _ (by exact ⟨Inv.grow hHeld.1 hgrow (fun g' e => by have hq := HVT.out _ e; obtain ⟨_, _, h1, _⟩ := hq; have := hHeld.1.base; omega), hHeld.2.grown hgrow hHeld.2.size (fun g' e => by have hq := HVT.out _ e; obtain ⟨_, _, h1, _⟩ := hq; omega)⟩) (fun hHeld => ?_)
          clear hK K
          refine mvR 9 (some 36) hHeld ?_
          refine mvR 10 (some 37) hHeld ?_
          refine take_one 11 (by kernel_rfl) rfl (fun K hK => ?_)
          go_simp
          refine hK.out _ _ (by exact ⟨hHeld.1.set (by simp; omega) (by simp; omega) _, hHeld.2.setCell (Nat.le_refl _) _⟩) (fun hHeld => ?_)
          clear hK K
          refine wpAnyH_done (by kernel_rfl) ?_ _
          refine NoPanic.normal ?_
          have I9 := hHeld.1
          have B9 := hHeld.2
          have C9 := C1.out.push (w1 := w5.alloc (.cells #[.slice A5 v5.length cap5] 33)) (v := ⟨A5, cap5, v5⟩) (g := g) (cap := cap) (w2 := w6) (HB5.out.trans ((below_alloc1 w5 _).mono HB5.out.size)) (HC5.out.on (below_alloc1 w5 _)) (by rw [HU.out]; exact OW.out) GW.out
          rw [HU.out] at C9
          have C10 := hide (C9.aside (p := ⟨w2.heap.size, 4, none⟩) (by simp) (.slice (some ⟨g, 0, none⟩) (k + 1) cap))
          have V9 := V3.put 4 (.slice (some ⟨g, 0, none⟩) (k + 1) cap)
          have HL9 := hide (lls_push (v := ⟨A5, cap5, v5⟩) HL.out HU.out HX.out HL5.out)
          have HU9 : Hid ((hs ++ [(⟨A5, cap5, v5⟩ : Lg)]).length = k + 1) := (by unfold Hid; rw [List.length_append, HU.out]; rfl)
          clear hHeld V3 q3 q1 q2 q4 V1 V2 C9 C1 C2 HG n0
          go_wp2
          exact ⟨⟨k + 1, _, _, by omega, by go_num, V9, HU9, HL9, C10, I9, B9⟩, by simp [intOf]; omega⟩
        · skip
          go_simp
          refine hK.out _ _ (by exact ⟨hHeld.1.alloc _, hHeld.2.alloc hHeld.2.size _⟩) (fun hHeld => ?_)
          clear hK K
          refine take_one 4 (by kernel_rfl) rfl (fun K hK => ?_)
          go_simp
          refine hK.out _ _ (by exact hHeld) (fun hHeld => ?_)
          clear hK K
          refine take_one 8 (by kernel_rfl) rfl (fun K hK => ?_)
          (refine step_append_lies _ (by rfl) _ _ _ (by rfl) (w2.heap.size + 1) 33 i0 _ 1 24 Tryz.underlying34 I0.out I1.out I2.out I3.out rfl (by omega) (.slice ha hs.length hc) k (flatG hs) (by rfl) (HR.out.alloc _) ⟨w5.heap.size, 0, none⟩ 1 1 [cellG ⟨A5, cap5, v5⟩] (by rfl) (by rfl) (World.news_of_block (cs := #[.slice A5 v5.length cap5]) (t := 33) (fr := (0, 0)) (heap_alloc_new w5 _)) (by simp [cellG, Value.oneCell']) (by omega) (by unfold maxLen; omega) (by omega) (by simp; omega) _ rfl ?_; intro g cap w6 hown2 hgrow hat hlt2; have V3 := (V2.more (.cells #[.slice A5 v5.length cap5] 33)).kept hgrow (by intro e; have hq := HVT.out _ e; obtain ⟨_, _, h1, _⟩ := hq; omega); have q3 : w6.cell? ⟨w2.heap.size, 4, none⟩ = some (.slice ha hs.length hc) := V3.at 4; have f3 := V3.loose 4; have OW := hide hown2; have GW := hide hgrow; clear hown2)
          simp only [List.getElem_toArray, List.getElem_cons_zero, List.getElem_cons_succ, Act.put, List.setIfInBounds_toArray, List.set_cons_zero, List.set_cons_succ]
          refine hK.out _ _ (by exact ⟨Inv.grow hHeld.1 hgrow (fun g' e => by have hq := HVT.out _ e; obtain ⟨_, _, h1, _⟩ := hq; have := hHeld.1.base; omega), hHeld.2.grown hgrow hHeld.2.size (fun g' e => by have hq := HVT.out _ e; obtain ⟨_, _, h1, _⟩ := hq; omega)⟩) (fun hHeld => ?_)
          clear hK K
          refine mvR 9 (some 36) hHeld ?_
          refine mvR 10 (some 37) hHeld ?_
          refine take_one 11 (by kernel_rfl) rfl (fun K hK => ?_)
          go_simp
          refine hK.out _ _ (by exact ⟨hHeld.1.set (by simp; omega) (by simp; omega) _, hHeld.2.setCell (Nat.le_refl _) _⟩) (fun hHeld => ?_)
          clear hK K
          refine wpAnyH_done (by kernel_rfl) ?_ _
          refine NoPanic.normal ?_
          have I9 := hHeld.1
          have B9 := hHeld.2
          have C9 := C1.out.push (w1 := w5.alloc (.cells #[.slice A5 v5.length cap5] 33)) (v := ⟨A5, cap5, v5⟩) (g := g) (cap := cap) (w2 := w6) (HB5.out.trans ((below_alloc1 w5 _).mono HB5.out.size)) (HC5.out.on (below_alloc1 w5 _)) (by rw [HU.out]; exact OW.out) GW.out
          rw [HU.out] at C9
          have C10 := hide (C9.aside (p := ⟨w2.heap.size, 4, none⟩) (by simp) (.slice (some ⟨g, 0, none⟩) (k + 1) cap))
          have V9 := V3.put 4 (.slice (some ⟨g, 0, none⟩) (k + 1) cap)
          have HL9 := hide (lls_push (v := ⟨A5, cap5, v5⟩) HL.out HU.out HX.out HL5.out)
          have HU9 : Hid ((hs ++ [(⟨A5, cap5, v5⟩ : Lg)]).length = k + 1) := (by unfold Hid; rw [List.length_append, HU.out]; rfl)
          clear hHeld V3 q3 q1 q2 q4 V1 V2 C9 C1 C2 HG n0
          go_wp2
          exact ⟨⟨k + 1, _, _, by omega, by go_num, V9, HU9, HL9, C10, I9, B9⟩, by simp [intOf]; omega⟩
    · have hkn : k = n := by omega
      subst hkn
      clear hlt
      obtain ⟨ha, hc, rfl⟩ := HG.out.form
      have HI := hide hI
      have HBB := hide hB
      have HV := hide hV
      clear hI hB hV
      go_wp2
      go_ret
      have zb := HBB.out.size
      have zd : W0.drew.heap.size = W0.heap.size := rfl
      have cN := (HGU2.out.on HBB.out).res.2
      have cL := HCR.out.on HBB.out
      have f1 : ∀ g, FootC xa us g → g < w2.heap.size := fun g hf => by have := HGU2.out.res.2.foot hf; omega
      have f1' : ∀ g, FootC xa us g → w.heap.size ≤ g ∧ g < w1.heap.size := fun g hf => by have := HGU.out.res.2.foot hf; omega
      have f2 : ∀ g, FootV ya yc vs g → w1.heap.size ≤ g ∧ g < w2.heap.size := fun g hf => HCR.out.foot hf
      have f3 : ∀ g, FootH (.slice ha hs.length hc) hs g → w2.heap.size + 1 ≤ g := fun g hf => (HG.out.foot hf).1
      refine ⟨w2.heap.size, ⟨me, ck, xa, xc, us, ya, yc, vs, ha, hc, hs, fell⟩, rfl, ⟨rfl, rfl, HLU.out, HLV.out, ⟨HU.out.trans HN.out.symm, HL.out⟩, rfl⟩, ⟨HV.out, by omega, cN.wide (by omega) (Nat.le_refl _), cL.down (by omega), HG.out.down (by omega), fun g h1 h2 => by have := f1' g h1; have := f2 g h2; omega, fun g h1 h2 => by have := f1 g h1; have := f3 g h2; omega, fun g h1 h2 => by have := f2 g h1; have := f3 g h2; omega, fun h => by have := f1 _ h; omega, fun h => by have := f2 _ h; omega, fun h => by have := f3 _ h; omega⟩, HI.out.below⟩
end Go.Proofs.YtnaggcdhimcilaaGreat
/- A place as a function works on it is handed over. Condition: its cells in a block. -/
namespace Go.Proofs.YtnaggcdhimcilaaGreat
open Go.RowKit Go.Joins
attribute [local go_sem ↓] Go.wp_at_zero Go.wp_at_succ

set_option maxRecDepth 100000 in
set_option maxHeartbeats 2000000 in
theorem place_any (C : Nat) (q : Pl) (w : World) (hB : Blk w C 73 (ctC q)) :
    Calls Tryz.prog 71 #[.pointer (some ⟨C, 0, none⟩)] w fun e w' => e = .returned (.agg (plCells q)) ∧ Below w.heap.size w w' := by
  obtain ⟨me, ck, ca, cc, ns, la, lc, log, ga, gc, gs, fell⟩ := q
  have HB := hide (show Blk w C 73 (ctAt me ck ca ns.length cc la log.length lc ga gs.length gc fell) from hB)
  have S0 := (Inv.start w).box 36 (plAt 0 0 none 0 0 none 0 0 none 0 0 false)
  simp only [World.size_alloc] at S0
  have V0 := Blk.made w 36 (plAt 0 0 none 0 0 none 0 0 none 0 0 false)
  have p0 := V0.six
  clear hB
  go_enter Tryz.func71, Tryz.ntmps71
  go_wp2_with fail
  generalize w.alloc (.cells (plAt 0 0 none 0 0 none 0 0 none 0 0 false) 36) = W0 at S0 V0 p0 ⊢
  refine wp_region_noPanic ?_
  refine wp_region_held_drew (S := (fun w' => (w'.cell? ⟨C, 0, none⟩ = some (.slice ca ns.length cc) ∧ w'.cell? ⟨C, 1, none⟩ = some (.int .i64 me) ∧ w'.cell? ⟨C, 2, none⟩ = some (.int .i64 ck) ∧ w'.cell? ⟨C, 3, none⟩ = some (.slice la log.length lc) ∧ w'.cell? ⟨C, 4, none⟩ = some (.slice ga gs.length gc) ∧ w'.cell? ⟨C, 5, none⟩ = some (.bool fell)) ∧ Below w.heap.size w w')) (by kernel_rfl) (by exact ⟨(HB.out.on S0.drew.below).six.1, S0.drew.below⟩) (fun hHeld => ?_)
  refine mvR 0 (some 3) hHeld ?_
  refine mvR 1 (some 4) hHeld ?_
  refine mvR 2 (some 5) hHeld ?_
  refine mvR 3 (some 6) hHeld ?_
  refine mvR 4 (some 7) hHeld ?_
  refine mvR 5 (some 8) hHeld ?_
  refine mvR 6 (some 9) hHeld ?_
  refine mvR 7 (some 10) hHeld ?_
  refine mvR 8 (some 11) hHeld ?_
  refine mvR 9 (some 12) hHeld ?_
  refine mvR 10 (some 13) hHeld ?_
  refine mvR 11 (some 14) hHeld ?_
  refine mvR 12 (some 15) hHeld ?_
  refine mvR 13 (some 16) hHeld ?_
  refine mvR 14 (some 17) hHeld ?_
  refine mvR 15 (some 18) hHeld ?_
  refine mvR 16 (some 19) hHeld ?_
  refine mvR 17 (some 20) hHeld ?_
  refine mvR 18 (some 21) hHeld ?_
  refine mvR 19 (some 22) hHeld ?_
  refine mvR 20 (some 23) hHeld ?_
  refine mvR 21 (some 24) hHeld ?_
  refine mvR 22 (some 25) hHeld ?_
  refine mvR 23 (some 26) hHeld ?_
  refine mvR 24 (some 27) hHeld ?_
  refine take_one 25 (by kernel_rfl) rfl (fun K hK => ?_)
  go_simp
  refine hK.out _ _ (by exact ⟨(HB.out.on (below_set6 S0.below (Nat.le_refl _) (.int .i64 me) (.int .i64 ck) (.slice ca ns.length cc) (.slice la log.length lc) (.slice ga gs.length gc) (.bool fell)).drew).six.1, (below_set6 S0.below (Nat.le_refl _) (.int .i64 me) (.int .i64 ck) (.slice ca ns.length cc) (.slice la log.length lc) (.slice ga gs.length gc) (.bool fell)).drew⟩) (fun hHeld => ?_)
  clear hK K
  refine wpAnyH_done (by kernel_rfl) ?_ _
  refine NoPanic.normal ?_
  have S1 := hide hHeld.2
  clear hHeld
  have V9 := (((((V0.put 0 (.int .i64 me)).put 1 (.int .i64 ck)).put 2 (.slice ca ns.length cc)).put 3 (.slice la log.length lc)).put 4 (.slice ga gs.length gc)).put 5 (.bool fell)
  simp only [List.setIfInBounds_toArray, List.set_cons_zero, List.set_cons_succ] at V9
  have q9 := V9.six
  clear p0
  go_wp2
  refine bodyPost_ret (v := .agg (plAt me ck ca ns.length cc la log.length lc ga gs.length gc fell)) (by simp [results, Tryz.results71, go_sem, q9]) rfl ?_
  exact ⟨rfl, S1.out⟩
end Go.Proofs.YtnaggcdhimcilaaGreat
/- How the program changes a place: the needs of a change in their order, then the change. Condition: sizes that memory holds, and what is said of the needs. -/
namespace Go.Proofs.YtnaggcdhimcilaaGreat
open Go.RowKit Go.Joins
attribute [local go_sem ↓] Go.wp_at_zero Go.wp_at_succ

/-- What a change of a place answers: a place that says the same as r in memory of its own, and b. -/
def AnswerPB (w : World) (r : Pl) (b : Bool) (e : Ending) (w' : World) : Prop :=
  ∃ q : Pl, e = .returned (.tuple #[.agg (plCells q), .bool b]) ∧ LP q r ∧ PRes w' w.heap.size w'.heap.size q ∧ Below w.heap.size w w'
theorem Ctr.low {w : World} {B B' C : Nat} {q : Pl} (h : Ctr w B C q) (hb : B' ≤ B) : Ctr w B' C q :=
  ⟨h.blk, by have := h.lo; omega, h.chain.wide hb (Nat.le_refl _), h.log.down hb, h.got.down hb, h.cl, h.cg, h.lg, h.nc, h.nl, h.ng⟩
/-- A need of a change: whether it is met, and what it makes of the place. -/
def NeedOk (w0 : World) (N : Nat) (caps : Array Value) (r r' : Pl) (b : Bool) : Prop :=
  ∀ W C q, Below w0.heap.size w0 W → LP q r → Ctr W w0.heap.size C q → Calls Tryz.prog N (#[.pointer (some ⟨C, 0, none⟩)] ++ caps) W fun e W' => e = .returned (.bool b) ∧ (∃ q', LP q' r' ∧ Ctr W' w0.heap.size C q') ∧ Below w0.heap.size W W'
/-- What is done when all needs are met. -/
def ThenOk (w0 : World) (N : Nat) (caps : Array Value) (r r' : Pl) : Prop :=
  ∀ W C q, Below w0.heap.size w0 W → LP q r → Ctr W w0.heap.size C q → Calls Tryz.prog N (#[.pointer (some ⟨C, 0, none⟩)] ++ caps) W fun e W' => e = .returned (.tuple #[]) ∧ (∃ q', LP q' r' ∧ Ctr W' w0.heap.size C q') ∧ Below w0.heap.size W W'
/-- What a change comes to. -/
def Chg (p : Pl) (n : Nat) (rs : Nat → Pl) (bs : Nat → Bool) (rf r : Pl) (b : Bool) : Prop :=
  (plB p = false ∧ r = noP ∧ b = false) ∨ (plB p = true ∧ ((∃ k, k < n ∧ (∀ j, j < k → bs j = true) ∧ bs k = false ∧ r = rs (k + 1) ∧ b = false) ∨ ((∀ j, j < n → bs j = true) ∧ r = rf ∧ b = true)))
theorem turn_w6 (w : World) (b : Nat) (x0 x1 x2 x3 x4 x5 : Value) :
    Turn (fun g => g = b) w ((((((w.setCell ⟨b, 0, none⟩ x0).setCell ⟨b, 1, none⟩ x1).setCell ⟨b, 2, none⟩ x2).setCell ⟨b, 3, none⟩ x3).setCell ⟨b, 4, none⟩ x4).setCell ⟨b, 5, none⟩ x5) :=
  ((((((Turn.refl (fun g => g = b) w).set (p := ⟨b, 0, none⟩) rfl _).set (p := ⟨b, 1, none⟩) rfl _).set (p := ⟨b, 2, none⟩) rfl _).set (p := ⟨b, 3, none⟩) rfl _).set (p := ⟨b, 4, none⟩) rfl _).set (p := ⟨b, 5, none⟩) rfl _
theorem size_w6 (w : World) (b : Nat) (x0 x1 x2 x3 x4 x5 : Value) :
    ((((((w.setCell ⟨b, 0, none⟩ x0).setCell ⟨b, 1, none⟩ x1).setCell ⟨b, 2, none⟩ x2).setCell ⟨b, 3, none⟩ x3).setCell ⟨b, 4, none⟩ x4).setCell ⟨b, 5, none⟩ x5).heap.size = w.heap.size := by simp [World.setCell]
theorem noP_res (w : World) (B U : Nat) : PRes w B U noP :=
  ⟨.inl rfl, .inl rfl, .inl rfl, fun _ h => absurd rfl h.1, fun _ h => absurd rfl h.1, fun _ h => absurd rfl h.1⟩
set_option maxRecDepth 100000 in
set_option maxHeartbeats 4000000 in
theorem change_any (p : Pl) (w : World) (nb nc : Nat) (ms : List (Nat × Array Value)) (T : Nat) (tc : Array Value) (rs : Nat → Pl) (bs : Nat → Bool) (rf : Pl) (hm : SmP p) (hcap : p.log.length ≤ p.lc ∧ ∀ l ∈ p.gs, l.vs.length ≤ l.c) (hC : Cp w p) (hn : ms.length ≤ 4)
    (hnb : nb < w.heap.size) (hmem : ∀ (i : Nat) m, ms[i]? = some m → w.cell? ⟨nb, i, none⟩ = some (.func (.func m.1) #[] m.2)) (hent : ∀ m ∈ ms, EnteredV m.1) (hT : EnteredV T) (h0 : rs 0 = p)
    (hneed : plB p = true → ∀ w0, Below w.heap.size w w0 → ∀ (i : Nat) m, ms[i]? = some m → (∀ j, j < i → bs j = true) → NeedOk w0 m.1 m.2 (rs i) (rs (i + 1)) (bs i)) (hthen : plB p = true → ∀ w0, Below w.heap.size w w0 → (∀ j, j < ms.length → bs j = true) → ThenOk w0 T tc (rs ms.length) rf) :
    Calls Tryz.prog 31 #[.agg (plCells p), .slice (some ⟨nb, 0, none⟩) ms.length nc, .func (.func T) #[] tc] w fun e w' => ∃ r b, Chg p ms.length rs bs rf r b ∧ AnswerPB w r b e w' := by
  have HOK : Hid (∀ W, Below w.heap.size w W → Calls Tryz.prog 69 #[.agg (plCells p)] W fun e w' => e = .returned (.bool (plB p)) ∧ Below W.heap.size W w') := fun W hW => implPlaceOk_any p W hm hcap (hC.on hW)
  have HCT : Hid (∀ W, Below w.heap.size w W → Calls Tryz.prog 70 #[.agg (plCells p)] W (MadeCtr W p)) := fun W hW => centreOf_any p W hm (hC.on hW)
  have HNE := hide hneed
  have HTH := hide hthen
  have HMEM := hide hmem
  have HENT := hide hent
  have HCH1 : Hid (plB p = false → Chg p ms.length rs bs rf noP false) := fun h => .inl ⟨h, rfl, rfl⟩
  have HCH2 : Hid (plB p = true → ∀ k, k < ms.length → (∀ j, j < k → bs j = true) → bs k = false → Chg p ms.length rs bs rf (rs (k + 1)) false) := fun h k h1 h2 h3 => .inr ⟨h, .inl ⟨k, h1, h2, h3, rfl, rfl⟩⟩
  have HCH3 : Hid (plB p = true → (∀ j, j < ms.length → bs j = true) → Chg p ms.length rs bs rf rf true) := fun h h1 => .inr ⟨h, .inr ⟨h1, rfl, rfl⟩⟩
  have H0 : Hid (∀ q, LP q p → LP q (rs 0)) := fun q h => by rw [h0]; exact h
  unfold EnteredV at hT
  clear hm hcap hC hmem hent hneed hthen h0
  generalize Chg p ms.length rs bs rf = CH at HCH1 HCH2 HCH3 ⊢
  generalize plB p = ok at *
  obtain ⟨me, ck, ca, cc, ns, la, lc, log, ga, gc, gs, fell⟩ := p
  change Calls _ _ #[.agg (plAt me ck ca ns.length cc la log.length lc ga gs.length gc fell), _, _] _ _
  generalize hnn : ms.length = n at *
  have HN := hide hnn
  clear hnn
  have S0 := ((Inv.start w).box 36 (plAt me ck ca ns.length cc la log.length lc ga gs.length gc fell)).box 36 (plAt 0 0 none 0 0 none 0 0 none 0 0 false)
  simp only [World.size_alloc] at S0
  have q0 := (S0.nth 1 rfl).six
  go_enter Tryz.func31, Tryz.ntmps31
  go_wp2_with fail
  generalize hW0 : (w.alloc (.cells (plAt me ck ca ns.length cc la log.length lc ga gs.length gc fell) 36)).alloc (.cells (plAt 0 0 none 0 0 none 0 0 none 0 0 false) 36) = W0 at S0 q0 ⊢
  have zW0 : W0.heap.size = w.heap.size + 2 := by rw [← hW0]; simp
  clear hW0
  with_reducible refine (HOK.out _ S0.below).mono ?_
  rintro e w1 ⟨rfl, hb1⟩
  have S1 := S0.on hb1
  have q1 := (S1.nth 1 rfl).six
  have p1 := (S1.nth 0 rfl).six
  have z1 := hb1.size
  clear S0 q0 hb1
  cases ok
  · have HX := hide (HCH1.out rfl)
    have HL := hide S1.below
    clear S1 q1
    go_wp2
    refine bodyPost_ret (v := .tuple #[.agg (plAt 0 0 none 0 0 none 0 0 none 0 0 false), .bool false]) (by simp [results, Tryz.results31, go_sem, p1]) rfl ?_
    exact ⟨noP, false, HX.out, noP, rfl, lp_refl _, noP_res _ _ _, below_set6 HL.out (by omega) _ _ _ _ _ _⟩
  · go_wp2_with fail
    with_reducible refine (HCT.out _ S1.below).mono ?_
    rintro e w2 ⟨C, q, rfl, hq, hctr, hb2⟩
    have S2 := S1.on hb2
    have z2 := hb2.size
    have HC2 := hide hctr
    have HQ2 := hide (H0.out q hq)
    have HB2 := hide hb2
    have HS1 := hide S1
    have HL1 := hide S1.below
    have HNE1 := hide (HNE.out trivial w1 S1.below)
    have HTH1 := hide (HTH.out trivial w1 S1.below)
    have HCH2 := hide (HCH2.out trivial)
    have HCH3 := hide (HCH3.out trivial)
    have hz1 : w.heap.size + 2 ≤ w1.heap.size := by omega
    clear S1 q1 p1 S2 hctr hq hb2 HCH1 HNE HTH z2
    go_wp2
    go_loopw [19] (fun i wr => ∃ (k : Nat) (q : Pl), k ≤ n ∧ i = .int .i64 (k : Int) ∧ Hid (∀ j, j < k → bs j = true) ∧ Hid (LP q (rs k)) ∧ Hid (Ctr wr w1.heap.size C q) ∧ Hid (Below w1.heap.size w1 wr)) (fun i _ => n - (intOf i).toNat)
    case atStart => exact ⟨0, q, Nat.zero_le _, rfl, fun j hj => absurd hj (by omega), HQ2.out, HC2.out, HB2.out⟩
    case round =>
      obtain ⟨k, q, hk, rfl, hall, HQ, HC, HB⟩ := hrel
      clear HC2 HQ2 HB2
      have zr := HB.out.size
      by_cases hlt : k < n
      · obtain ⟨m, hm⟩ : ∃ m, ms[k]? = some m := ⟨_, List.getElem?_eq_getElem (by have := HN.out; omega)⟩
        have hc0 := HMEM.out k m hm
        have n0 := ((HL1.out.trans (HB.out.mono HL1.out.size)).cell (p := ⟨nb, k, none⟩) hnb).trans hc0
        have hent := HENT.out m (List.mem_of_getElem? hm)
        have CN := hide (HNE1.out k m hm hall.out wr C q HB.out HQ.out HC.out)
        have HCK := hide (fun h => HCH2.out k hlt hall.out h)
        unfold EnteredV at hent
        obtain ⟨N, caps⟩ := m
        simp only at n0 hent CN
        have i1 : (0 : Int) ≤ (k : Int) := by omega
        have i2 : (k : Int) < (n : Int) := by omega
        clear hm hc0
        go_wp2_with fail
        with_reducible refine CN.out.mono ?_
        rintro e w3 ⟨rfl, ⟨q3, hq3, hc3⟩, hb3⟩
        have HQ3 := hide hq3
        have HC3 := hide hc3
        have HB3 := hide (HB.out.trans hb3)
        have z3 := hb3.size
        clear hq3 hc3 hb3 CN n0
        cases hbk : bs k
        · have HX := hide (HCK.out hbk)
          have CP := hide (place_any C q3 w3 HC3.out.blk)
          clear hbk
          obtain ⟨me3, ck3, ca3, cc3, ns3, la3, lc3, log3, ga3, gc3, gs3, fell3⟩ := q3
          go_wp2_with fail
          with_reducible refine CP.out.mono ?_
          rintro e w4 ⟨rfl, hb4⟩
          have HB4 := hide (HB3.out.trans (hb4.mono (by omega)))
          have S4 := HS1.out.on HB4.out
          have q4 := (S4.nth 0 rfl).six
          have HP := hide (HC3.out.on hb4).pres
          have z4 := hb4.size
          have HL4 := hide S4.below
          clear S4 hb4 CP
          go_wp2
          refine bodyPost_ret (v := .tuple #[.agg (plAt me3 ck3 ca3 ns3.length cc3 la3 log3.length lc3 ga3 gs3.length gc3 fell3), .bool false]) (by simp [results, Tryz.results31, go_sem, q4]) rfl ?_
          refine ⟨_, _, HX.out, ⟨me3, ck3, ca3, cc3, ns3, la3, lc3, log3, ga3, gc3, gs3, fell3⟩, rfl, HQ3.out, ?_, below_set6 HL4.out (by omega) _ _ _ _ _ _⟩
          rw [size_w6]
          exact (HP.out.turn (turn_w6 w4 (w.heap.size + 1) _ _ _ _ _ _) (fun g a b => by omega)).wide (by omega) (Nat.le_refl _)
        · have HA : Hid (∀ j, j < k + 1 → bs j = true) := fun j hj => by
            by_cases e : j = k
            · rw [e]; exact hbk
            · exact hall.out j (by omega)
          clear hbk hent
          go_wp2
          exact ⟨⟨k + 1, q3, by omega, by go_num, HA, HQ3, HC3, HB3⟩, by simp [intOf]; omega⟩
      · have hkn : k = n := by omega
        subst hkn
        clear hlt
        have HX := hide (HCH3.out hall.out)
        have CN := hide (HTH1.out hall.out wr C q HB.out HQ.out HC.out)
        go_wp2_with fail
        with_reducible refine CN.out.mono ?_
        rintro e w3 ⟨rfl, ⟨q3, hq3, hc3⟩, hb3⟩
        have HQ3 := hide hq3
        have HC3 := hide hc3
        have HB3 := hide (HB.out.trans hb3)
        have z3 := hb3.size
        have CP := hide (place_any C q3 w3 hc3.blk)
        clear hq3 hc3 hb3 CN
        obtain ⟨me3, ck3, ca3, cc3, ns3, la3, lc3, log3, ga3, gc3, gs3, fell3⟩ := q3
        go_wp2_with fail
        with_reducible refine CP.out.mono ?_
        rintro e w4 ⟨rfl, hb4⟩
        have HB4 := hide (HB3.out.trans (hb4.mono (by omega)))
        have S4 := HS1.out.on HB4.out
        have q4 := (S4.nth 0 rfl).six
        have HP := hide (HC3.out.on hb4).pres
        have z4 := hb4.size
        have HL4 := hide S4.below
        clear S4 hb4 CP
        go_wp2
        refine bodyPost_ret (v := .tuple #[.agg (plAt me3 ck3 ca3 ns3.length cc3 la3 log3.length lc3 ga3 gs3.length gc3 fell3), .bool true]) (by simp [results, Tryz.results31, go_sem, q4]) rfl ?_
        refine ⟨_, _, HX.out, ⟨me3, ck3, ca3, cc3, ns3, la3, lc3, log3, ga3, gc3, gs3, fell3⟩, rfl, HQ3.out, ?_, below_set6 HL4.out (by omega) _ _ _ _ _ _⟩
        rw [size_w6]
        exact (HP.out.turn (turn_w6 w4 (w.heap.size + 1) _ _ _ _ _ _) (fun g a b => by omega)).wide (by omega) (Nat.le_refl _)
end Go.Proofs.YtnaggcdhimcilaaGreat
/- A log with one version more, in a place as a function works on it: where it lies, and that the other parts stay. Condition: what is said of the append. -/
namespace Go.Proofs.YtnaggcdhimcilaaGreat
open Go.RowKit Go.Joins

/-- The blocks of a log with one version more. -/
theorem footV_push {w : World} {base : Nat} {A : Option Addr} {c g cap z : Nat} {us : List V} {v : V} (h : CRow base w (.slice A us.length c) us) (hat : (Value.slice A us.length c).ownBlock = some g ∨ z ≤ g) (hv : ∀ y, v.ts ≠ [] → v.a = some ⟨y, 0, none⟩ → z ≤ y) :
    ∀ y, FootV (some ⟨g, 0, none⟩) cap (us ++ [v]) y → FootV A c us y ∨ z ≤ y := fun y hy => by
  have hgy : ∀ {x : Nat}, x = g → FootV A c us x ∨ z ≤ x := fun e => by
    subst e
    exact hat.elim (fun e => .inl (.inr e)) .inr
  rcases hy with ⟨_, G, e, hf⟩ | e
  · injection e with e
    injection e with e
    subst e
    rcases hf with e | ⟨i, x, hi, hn, ha⟩
    · exact hgy e
    · rcases snoc_get rfl i x hi with ⟨_, rfl⟩ | ⟨_, hq⟩
      · exact .inr (hv y hn ha)
      · exact .inl (.inl (h.tagFoot hq hn ha))
  · simp only [Value.ownBlock] at e
    injection e with e
    exact hgy e.symm
theorem own1_at {w : World} {B U : Nat} {v : V} (h : Own1 w B U v) {y : Nat} (hn : v.ts ≠ []) (ha : v.a = some ⟨y, 0, none⟩) : B ≤ y := by
  rcases h with h | ⟨g, _, e, q, _⟩
  · exact absurd h hn
  · rw [e] at ha
    injection ha with ha
    injection ha with ha
    omega
/-- A place in the making whose log has one version more. -/
theorem Ctr.note {W w1 w2 : World} {B C B1 g cap : Nat} {q : Pl} {v : V} (h : Ctr W B C q) (hb : Below W.heap.size W w1) (hB : W.heap.size ≤ B1) (ho : Own1 w1 B1 w1.heap.size v)
    (hown : w2.ownsRow B 96 6 (.slice (some ⟨g, 0, none⟩) (q.log.length + 1) cap) (q.log.length + 1) (flat6 q.log ++ cells6 v)) (hg : w1.grownBy w2 (Value.slice q.la q.log.length q.lc).ownBlock) (hat : (Value.slice q.la q.log.length q.lc).ownBlock = some g ∨ W.heap.size ≤ g) :
    Ctr (w2.setCell ⟨C, 3, none⟩ (.slice (some ⟨g, 0, none⟩) (q.log.length + 1) cap)) B C ⟨q.me, q.ck, q.ca, q.cc, q.ns, some ⟨g, 0, none⟩, cap, q.log ++ [v], q.ga, q.gc, q.gs, q.fell⟩ := by
  have hT2 : Turn (fun y => (Value.slice q.la q.log.length q.lc).ownBlock = some y) W w2 := (Turn.below hb).trans (.of hg (fun y e => e))
  have hT := (hT2.sub (Q := fun y => (Value.slice q.la q.log.length q.lc).ownBlock = some y ∨ y = C) (fun _ => .inl)).set (p := ⟨C, 3, none⟩) (.inr rfl) (.slice (some ⟨g, 0, none⟩) (q.log.length + 1) cap)
  have hF := footV_push (g := g) (cap := cap) (z := W.heap.size) (v := v) h.log hat (fun y hn ha => Nat.le_trans hB (own1_at ho hn ha))
  have hCi := h.blk.inside
  have hl2 := h.log.push hb hB ho hown hg
  have hnl : ¬ FootV (some ⟨g, 0, none⟩) cap (q.log ++ [v]) C := fun a => by
    rcases hF C a with a | a
    · exact h.nl a
    · omega
  refine ⟨?_, h.lo, (h.chain.turnF hT (fun y hf hp => hp.elim (fun e => h.cl y hf (.inr e)) (fun e => h.nc (e ▸ hf)))).wide (Nat.le_refl _) hT.size, ?_, h.got.turned hT (fun y hf hp => hp.elim (fun e => h.lg y (.inr e) hf) (fun e => h.ng (e ▸ hf))), fun y a b => ?_, h.cg, fun y a b => ?_, h.nc, hnl, h.ng⟩
  · have hk := ((h.blk.on hb).kept hg (fun e => h.nl (.inr e))).put 3 (.slice (some ⟨g, 0, none⟩) (q.log.length + 1) cap)
    simpa [ctC] using hk
  · have h3 : CRow B w2 (.slice (some ⟨g, 0, none⟩) (q.log ++ [v]).length cap) (q.log ++ [v]) := by simpa using hl2
    exact h3.turnP ((Turn.refl (fun y => y = C) w2).set (p := ⟨C, 3, none⟩) rfl _) (fun y a e => hnl (e ▸ a))
  · rcases hF y b with b | b
    · exact h.cl y a b
    · have := (h.chain.foot a).2
      omega
  · rcases hF y a with a | a
    · exact h.lg y a b
    · have := (h.got.foot b).2
      omega
theorem Ctr.setC {W : World} {B C : Nat} {q q' : Pl} (h : Ctr W B C q) (i : Nat) (x : Value) (hq : (ctC q).setIfInBounds i x = ctC q') (h1 : q'.ca = q.ca) (h2 : q'.ns = q.ns) (h3 : q'.la = q.la) (h4 : q'.lc = q.lc) (h5 : q'.log = q.log) (h6 : q'.ga = q.ga) (h7 : q'.gc = q.gc) (h8 : q'.gs = q.gs) :
    Ctr (W.setCell ⟨C, i, none⟩ x) B C q' := by
  have ht : Turn (fun g => g = C) W (W.setCell ⟨C, i, none⟩ x) := (Turn.refl (fun g => g = C) W).set (p := ⟨C, i, none⟩) rfl x
  obtain ⟨me, ck, ca, cc, ns, la, lc, log, ga, gc, gs, fell⟩ := q
  obtain ⟨me', ck', ca', cc', ns', la', lc', log', ga', gc', gs', fell'⟩ := q'
  simp only at h1 h2 h3 h4 h5 h6 h7 h8
  subst h1 h2 h3 h4 h5 h6 h7 h8
  refine ⟨?_, h.lo, (h.chain.turnF ht (fun y hf e => h.nc (e ▸ hf))).wide (Nat.le_refl _) ht.size, h.log.turnP ht (fun y hf e => h.nl (e ▸ hf)), h.got.turned ht (fun y hf e => h.ng (e ▸ hf)), h.cl, h.cg, h.lg, h.nc, h.nl, h.ng⟩
  rw [← hq]
  exact h.blk.put i x
theorem Ctr.fellSet {W : World} {B C : Nat} {q : Pl} (h : Ctr W B C q) (f : Bool) : Ctr (W.setCell ⟨C, 5, none⟩ (.bool f)) B C (fellP q f) := h.setC 5 _ (by simp [ctC, fellP]) rfl rfl rfl rfl rfl rfl rfl rfl
end Go.Proofs.YtnaggcdhimcilaaGreat
/- What one version adds to what a place records, said plainly. No condition. -/
namespace Go.Proofs.YtnaggcdhimcilaaGreat
open Go.RowKit Go.Joins

theorem noteB_like {me : Int} {l l' : List V} {v : V} (h : LL l l') : noteB me l v = noteB me l' v := by unfold noteB; rw [hasB_like h]
theorem note_no {me : Int} {l us vs : List V} {k : Nat} {v : V} (h : LL us (noteL me l (vs.take k))) (hk : vs[k]? = some v) (hn : noteB me us v = false) : LL us (noteL me l (vs.take (k + 1))) := by
  rw [noteL_step hk]
  unfold stepNote
  rw [← noteB_like h, hn]
  simpa using h
theorem note_yes {me : Int} {l us vs : List V} {k : Nat} {v v' : V} (h : LL us (noteL me l (vs.take k))) (hk : vs[k]? = some v) (hn : noteB me us v = true) (hl : V.like v' v) : LL (us ++ [v']) (noteL me l (vs.take (k + 1))) := by
  rw [noteL_step hk]
  unfold stepNote
  rw [← noteB_like h, hn]
  simpa using ll_push h hl
theorem note_all {me : Int} {l us vs : List V} {k : Nat} (h : LL us (noteL me l (vs.take k))) (hk : vs.length = k) : LL us (noteL me l vs) := by
  rw [← noteL_all, hk]
  exact h
theorem note_few {me : Int} {l us vs : List V} (k : Nat) (h : LL us (noteL me l (vs.take k))) (hl : l.length ≤ 60) (hv : vs.length ≤ 4) : us.length ≤ 64 := by
  have h1 := noteL_len me (vs.take k) l
  have h2 := List.length_take_le k vs
  have h3 : (vs.take k).length ≤ vs.length := List.length_take_le' k vs
  rw [h.1]
  omega
theorem still_any (ns : List Nd) : (!ns.any fun n => decide (0 < n.ws.length)) = stillB ns := by
  unfold stillB
  induction ns with
  | nil => rfl
  | cons n r ih =>
    simp only [List.any_cons, List.all_cons, Bool.not_or, ih]
    congr 1
    by_cases h : n.ws.length = 0
    · rw [decide_eq_true h, decide_eq_false (by omega)]; rfl
    · rw [decide_eq_false h, decide_eq_true (by omega)]; rfl
end Go.Proofs.YtnaggcdhimcilaaGreat
