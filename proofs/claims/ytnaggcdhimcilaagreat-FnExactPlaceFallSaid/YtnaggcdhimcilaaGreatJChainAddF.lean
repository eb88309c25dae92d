/- A copy of a place, in the model: its parts in memory of their own. Condition: sizes that memory holds. -/
import Derived.Test.YtnaggcdhimcilaaGreatJPlaceCopy2
import Derived.Test.YtnaggcdhimcilaaGreatJNoteStep
import Derived.Test.YtnaggcdhimcilaaGreatJChainClone2
import Derived.Test.YtnaggcdhimcilaaGreatJFall
namespace Go.Proofs.YtnaggcdhimcilaaGreat
open Go.RowKit Go.Joins
attribute [local go_sem ↓] Go.wp_at_zero Go.wp_at_succ

/-- The blocks of a row of nodes, that of the row among them. -/
def FootK (x : Value) (us : List Nd) (g : Nat) : Prop := x.ownBlock = some g ∨ ∃ (i : Nat) (n : Nd), us[i]? = some n ∧ FootO n g
theorem GRow.footK {base : Nat} {wr : World} {x : Value} {us : List Nd} (h : GRow base wr x us) {g : Nat} (hf : FootK x us g) : base ≤ g ∧ g < wr.heap.size := by
  rcases hf with hf | ⟨i, n, hi, hf⟩
  · obtain ⟨_, _, h1⟩ := h.typed g hf
    exact h1
  · exact h.foot hi hf
theorem GRow.turnK {P : Nat → Prop} {base : Nat} {wr w2 : World} {x : Value} {us : List Nd} (h : GRow base wr x us) (ht : Turn P wr w2) (hp : ∀ g, FootK x us g → ¬ P g) : GRow base w2 x us := by
  refine ⟨⟨h.row.1, ?_⟩, fun i v hi => ((h.store i v hi).turnF ht (fun g hf => hp g (.inr ⟨i, v, hi, .inl hf⟩))).wide ht.size, fun i v hi => ((h.wait i v hi).turnF ht (fun g hf => hp g (.inr ⟨i, v, hi, .inr (.inl hf)⟩))).wide ht.size, h.two, h.apart, Nat.le_trans h.lo ht.size, fun i v hi => (h.own i v hi).turnP ht (fun g hf => hp g (.inr ⟨i, v, hi, .inr hf⟩))⟩
  rcases h.row.2 with h' | ⟨g, cap, cr, h1, h2, h3, h4⟩
  · exact .inl h'
  · exact .inr ⟨g, cap, cr, h1, h2, Blk.turned (show Blk wr g 90 cr from h3) ht (hp g (.inl (by rw [h1]; rfl))), h4⟩
theorem inv_set6 {w w1 : World} {n b : Nat} {bs : List (Nat × TypeId × Array Value)} (h : Inv w n bs w1) (hp : n ≤ b) (hw : w.heap.size ≤ b) (x0 x1 x2 x3 x4 x5 : Value) :
    Inv w n bs ((((((w1.setCell ⟨b, 0, none⟩ x0).setCell ⟨b, 1, none⟩ x1).setCell ⟨b, 2, none⟩ x2).setCell ⟨b, 3, none⟩ x3).setCell ⟨b, 4, none⟩ x4).setCell ⟨b, 5, none⟩ x5) :=
  (((((h.set (p := ⟨b, 0, none⟩) hp hw x0).set (p := ⟨b, 1, none⟩) hp hw x1).set (p := ⟨b, 2, none⟩) hp hw x2).set (p := ⟨b, 3, none⟩) hp hw x3).set (p := ⟨b, 4, none⟩) hp hw x4).set (p := ⟨b, 5, none⟩) hp hw x5
/-- The parts of a place, each in blocks of its own: the chain below M1, the log below M2, what was heard from there on. -/
structure OwnP (w : World) (B M1 M2 : Nat) (q : Pl) : Prop where
  chain : GRow B w (.slice q.ca q.ns.length q.cc) q.ns
  log : CRow B w (.slice q.la q.log.length q.lc) q.log
  got : HRow B w (.slice q.ga q.gs.length q.gc) q.gs
  fc : ∀ g, FootK (.slice q.ca q.ns.length q.cc) q.ns g → g < M1
  fl : ∀ g, FootV q.la q.lc q.log g → M1 ≤ g ∧ g < M2
  fg : ∀ g, FootH (.slice q.ga q.gs.length q.gc) q.gs g → M2 ≤ g
  m1 : B ≤ M1
  m2 : M1 ≤ M2
/-- What a copy of a place is. -/
def OwnedP (w : World) (p : Pl) (e : Ending) (w' : World) : Prop :=
  ∃ (q : Pl) (M1 M2 : Nat), e = .returned (.agg (plCells q)) ∧ LP q p ∧ OwnP w' w.heap.size M1 M2 q ∧ Below w.heap.size w w'
end Go.Proofs.YtnaggcdhimcilaaGreat
/- A copy of a place, in the model: its parts in memory of their own. Condition: sizes that memory holds. -/
namespace Go.Proofs.YtnaggcdhimcilaaGreat
open Go.RowKit Go.Joins
attribute [local go_sem ↓] Go.wp_at_zero Go.wp_at_succ

theorem blk_set6 {w : World} {O : Nat} {T : TypeId} {y0 y1 y2 y3 y4 y5 : Value} (h : Blk w O T #[y0, y1, y2, y3, y4, y5]) (x0 x1 x2 x3 x4 x5 : Value) :
    Blk ((((((w.setCell ⟨O, 0, none⟩ x0).setCell ⟨O, 1, none⟩ x1).setCell ⟨O, 2, none⟩ x2).setCell ⟨O, 3, none⟩ x3).setCell ⟨O, 4, none⟩ x4).setCell ⟨O, 5, none⟩ x5) O T #[x0, x1, x2, x3, x4, x5] := by
  have := (((((h.put 0 x0).put 1 x1).put 2 x2).put 3 x3).put 4 x4).put 5 x5
  simpa using this
/-- A place is stored whole, as one step of a region that draws its order. -/
theorem step_place {ops : Array Oper} {o : Oper} {a : Act} {w : World} {K : Act → World → Prop} {Q : Exit → Act → World → Prop} {E : Prop} (hg : o.guard = none) (x y : Operand) (hop : o.op = Op.store 36 x y) (hd : o.dst = none)
    (O : Nat) (T : TypeId) (y0 y1 y2 y3 y4 y5 : Value) (me ck : Int) (ca : Option Addr) (cn cc : Nat) (la : Option Addr) (ln lc : Nat) (ga : Option Addr) (gn gc : Nat) (f : Bool)
    (hx : a.eval x = .pointer (some ⟨O, 0, none⟩)) (hy : a.eval y = .agg (plAt me ck ca cn cc la ln lc ga gn gc f)) (hB : Blk w O T #[y0, y1, y2, y3, y4, y5])
    (hK : K a ((((((w.setCell ⟨O, 0, none⟩ (.int .i64 me)).setCell ⟨O, 1, none⟩ (.int .i64 ck)).setCell ⟨O, 2, none⟩ (.slice ca cn cc)).setCell ⟨O, 3, none⟩ (.slice la ln lc)).setCell ⟨O, 4, none⟩ (.slice ga gn gc)).setCell ⟨O, 5, none⟩ (.bool f))) :
    if Region.wanted o (yielded ops a.tmps) = true then Oper.wp Tryz.prog o a w K Q else E := by
  have hw : Region.wanted o (yielded ops a.tmps) = true := by simp [Region.wanted, hg]
  rw [if_pos hw]
  have q := hB.six
  unfold Oper.wp
  simp only [execOp, hop, hx, hy]
  go_simp
  exact hK
set_option maxRecDepth 100000 in
set_option maxHeartbeats 8000000 in
theorem l4Copy_any (p : Pl) (w : World) (hm : SmP p) (hC : Cp w p) :
    Calls Tryz.prog 21 #[.agg (plCells p)] w (OwnedP w p) := by
  obtain ⟨i0, hi0, hz0, hz1, hz2⟩ := info_parts vers_info
  have I0 := hide hi0
  have I1 := hide hz0
  have I2 := hide hz1
  have I3 := hide hz2
  clear hi0 hz0 hz1 hz2
  obtain ⟨⟨m1, m2⟩, ⟨m3, m4⟩, m5, m6⟩ := hm
  obtain ⟨t1, t2, t3⟩ := hC
  have HCL : Hid (∀ W, Below w.heap.size w W → Calls Tryz.prog 57 #[.agg #[.slice p.ca p.ns.length p.cc]] W (ClonedC W p.ns)) := fun W hW => l3Copy_any p.ca p.cc p.ns W m1 m2 (t1.on hW)
  have HLG : Hid (∀ W, Below w.heap.size w W → Calls Tryz.prog 58 #[.slice p.la p.log.length p.lc] W (CopiedR W p.log)) := fun W hW => l4Vers_any p.la p.lc p.log W m3 (small_tags m4) ((t2.on hW).up hW.size)
  have HGT : Hid (∀ (i : Nat) l, p.gs[i]? = some l → ∀ W, Below w.heap.size w W → Calls Tryz.prog 58 #[.slice l.a l.vs.length l.c] W (CopiedR W l.vs)) := fun i l hi W hW => by
    have hm := m6 l (List.mem_of_getElem? hi)
    have hv : Vg w w.heap.size l.a l.vs := by
      rcases t3 with h | ⟨b, off, _, _, hx⟩
      · rw [h] at hi; simp at hi
      · exact (hx i l hi).2
    exact l4Vers_any l.a l.c l.vs W hm.1 (small_tags hm.2) ((hv.on hW).up hW.size)
  have HT3 := hide t3
  clear m1 m2 m3 m4 m6 t1 t2 t3
  obtain ⟨me, ck, ca, cc, ns, la, lc, log, ga, gc, gs, fell⟩ := p
  simp only at HCL HLG HGT HT3 m5
  have S0 := ((Inv.start w).box 36 (plAt me ck ca ns.length cc la log.length lc ga gs.length gc fell)).box 36 (plAt 0 0 none 0 0 none 0 0 none 0 0 false)
  simp only [World.size_alloc] at S0
  go_enter Tryz.func21, Tryz.ntmps21
  go_wp2_with fail
  generalize hW0 : (w.alloc (.cells (plAt me ck ca ns.length cc la log.length lc ga gs.length gc fell) 36)).alloc (.cells (plAt 0 0 none 0 0 none 0 0 none 0 0 false) 36) = W0 at S0 ⊢
  have zW0 : W0.heap.size = w.heap.size + 2 := by rw [← hW0]; simp
  clear hW0
  rename_i K0 hK0
  have key : ∀ (z4 z5 z6 z7 z8 z9 z10 z11 z12 z13 z14 z15 z16 z17 z18 z19 z20 z21 z22 z23 z24 z25 z26 z27 z28 z29 z30 z31 z32 z33 z34 z35 z36 : Value) (O : Nat) (xa : Option Addr) (xc : Nat) (us : List Nd) (ya : Option Addr) (yc : Nat) (vs : List V) (M1 : Nat) (Wr : World), Blk Wr O 36 (plAt me ck xa us.length xc ya vs.length yc none 0 0 fell) → NL us ns → LL vs log → GRow (w.heap.size + 2) Wr (.slice xa us.length xc) us → (∀ g, FootK (.slice xa us.length xc) us g → w.heap.size + 2 ≤ g ∧ g < M1 ∧ g ≠ O) → CRow (w.heap.size + 2) Wr (.slice ya vs.length yc) vs → (∀ g, FootV ya yc vs g → M1 ≤ g ∧ g < Wr.heap.size ∧ g ≠ O) → w.heap.size + 2 ≤ M1 → M1 ≤ Wr.heap.size → w.heap.size + 2 ≤ O → O < Wr.heap.size → Inv w (w.heap.size + 1 + 1) [(w.heap.size + 1, 36, plAt 0 0 none 0 0 none 0 0 none 0 0 false), (w.heap.size, 36, plAt me ck ca ns.length cc la log.length lc ga gs.length gc fell)] Wr → K0 { tmps := (.agg (plAt me ck ca ns.length cc la log.length lc ga gs.length gc fell) :: .pointer (some ⟨w.heap.size, 0, none⟩) :: .pointer (some ⟨w.heap.size + 1, 0, none⟩) :: .pointer (some ⟨O, 0, none⟩) :: z4 :: z5 :: z6 :: z7 :: z8 :: z9 :: z10 :: z11 :: z12 :: z13 :: z14 :: z15 :: z16 :: z17 :: z18 :: z19 :: z20 :: z21 :: z22 :: z23 :: z24 :: z25 :: z26 :: z27 :: z28 :: z29 :: z30 :: z31 :: z32 :: z33 :: z34 :: z35 :: z36 :: []).toArray, defers := [] } Wr := by
    intro z4 z5 z6 z7 z8 z9 z10 z11 z12 z13 z14 z15 z16 z17 z18 z19 z20 z21 z22 z23 z24 z25 z26 z27 z28 z29 z30 z31 z32 z33 z34 z35 z36 O xa xc us ya yc vs M1 Wr V0 hLU hLV hGU hF1 hCR hF2 hm1 hm2 hO1 hO2 J0
    have HLU := hide hLU
    have HLV := hide hLV
    have HGU := hide hGU
    have HF1 := hide hF1
    have HCR := hide hCR
    have HF2 := hide hF2
    have HC0 := hide (HRow.start Wr.heap.size Wr (Nat.le_refl _))
    clear hLU hLV hGU hF1 hCR hF2
    apply hK0
    generalize hnn : gs.length = n at *
    have HN := hide hnn
    clear hnn
    have q0 := (J0.nth 1 rfl).six.1
    go_wp2
    clear q0
    go_loopw [4] (fun i wr => ∃ (k : Nat) (x : Value) (hs : List Lg), k ≤ n ∧ i = .int .i64 (k : Int) ∧ Blk wr O 36 #[.int .i64 me, .int .i64 ck, .slice xa us.length xc, .slice ya vs.length yc, x, .bool fell] ∧ Hid (hs.length = k) ∧ Hid (∀ (i : Nat) v v', hs[i]? = some v → gs[i]? = some v' → LL v.vs v'.vs) ∧ Hid (HRow Wr.heap.size wr x hs) ∧ Inv w (w.heap.size + 1 + 1) [(w.heap.size + 1, 36, plAt 0 0 none 0 0 none 0 0 none 0 0 false), (w.heap.size, 36, plAt me ck ca ns.length cc la log.length lc ga n gc fell)] wr ∧ Turn (fun g => g = O ∨ Wr.heap.size ≤ g) Wr wr) (fun i _ => n - (intOf i).toNat)
    case atStart => exact ⟨0, _, [], Nat.zero_le _, rfl, V0, rfl, fun i v v' hi => by simp at hi, HC0.out, J0, Turn.refl _ _⟩
    case round =>
      obtain ⟨k, x, hs, hk, rfl, hV, HU, HL, HG, hI, hB⟩ := hrel
      clear J0 V0 HC0
      by_cases hlt : k < n
      · rcases HT3.out with h0 | ⟨b, off, rfl, hb0, hx0⟩
        · have := HN.out; rw [h0] at this; simp at this; omega
        have hkl : k < gs.length := by have := HN.out; omega
        have HX := hide (List.getElem?_eq_getElem hkl)
        generalize gs[k] = ld at HX
        have n0 := (hI.below.cell (p := ⟨b, off + k, none⟩) hb0).trans (hx0 k ld HX.out).1
        have HCP := hide (HGT.out k ld HX.out)
        have i1 : (0 : Int) ≤ (k : Int) := by omega
        have i2 : (k : Int) < (n : Int) := by omega
        obtain ⟨ha, hc, rfl⟩ := HG.out.form
        have HVT := hide (HG.out.typed)
        have hlo := HG.out.lo
        have V1 := hV.drew
        have q1 : wr.drew.cell? ⟨O, 4, none⟩ = some (.slice ha hs.length hc) := V1.at 4
        have C1 := hide (HG.out.on (Below.refl _ _).drew)
        have J1 := hI.drew
        have B1 : Turn (fun g => g = O ∨ Wr.heap.size ≤ g) Wr wr.drew := hB.trans (.below (Below.refl _ _).drew)
        obtain ⟨da, dc, dv⟩ := ld
        simp only at n0 HCP
        have HN0 : Hid (∀ W, Below w.heap.size w W → W.cell? ⟨b, off + k, none⟩ = some (.slice da dv.length dc)) := fun W hW => (hW.cell (p := ⟨b, off + k, none⟩) hb0).trans (hx0 k _ HX.out).1
        have JH : ∀ {W : World}, Inv w (w.heap.size + 1 + 1) [(w.heap.size + 1, 36, plAt 0 0 none 0 0 none 0 0 none 0 0 false), (w.heap.size, 36, plAt me ck ca ns.length cc la log.length lc (some ⟨b, off, none⟩) n gc fell)] W → Turn (fun g => g = O ∨ Wr.heap.size ≤ g) Wr W → W.cell? ⟨w.heap.size, 4, none⟩ = some (.slice (some ⟨b, off, none⟩) n gc) ∧ W.cell? ⟨b, off + k, none⟩ = some (.slice da dv.length dc) ∧ Inv w (w.heap.size + 1 + 1) [(w.heap.size + 1, 36, plAt 0 0 none 0 0 none 0 0 none 0 0 false), (w.heap.size, 36, plAt me ck ca ns.length cc la log.length lc (some ⟨b, off, none⟩) n gc fell)] W ∧ Turn (fun g => g = O ∨ Wr.heap.size ≤ g) Wr W := fun h1 h2 => ⟨(h1.nth 1 rfl).at 4, HN0.out _ h1.below, h1, h2⟩
        have c0 := (hI.nth 1 rfl).at 4
        clear hx0
        go_wp2_with fail
        clear c0 n0
        refine wp_region_noPanic ?_
        refine wp_region_held_drew (S := (fun w' => w'.cell? ⟨w.heap.size, 4, none⟩ = some (.slice (some ⟨b, off, none⟩) n gc) ∧ w'.cell? ⟨b, off + k, none⟩ = some (.slice da dv.length dc) ∧ Inv w (w.heap.size + 1 + 1) [(w.heap.size + 1, 36, plAt 0 0 none 0 0 none 0 0 none 0 0 false), (w.heap.size, 36, plAt me ck ca ns.length cc la log.length lc (some ⟨b, off, none⟩) n gc fell)] w' ∧ Turn (fun g => g = O ∨ Wr.heap.size ≤ g) Wr w')) (by kernel_rfl) (by exact JH J1 B1) (fun hHeld => ?_)
        refine mvR 0 (some 25) hHeld ?_
        refine mvR 2 (some 27) hHeld ?_
        refine mvR 3 (some 28) hHeld ?_
        refine mvR 4 (some 29) hHeld ?_
        refine mvR 5 (some 30) hHeld ?_
        refine mvR 6 (some 31) hHeld ?_
        refine wpAnyH_ready (rs := [1, 7]) (by kernel_rfl) (by simp) ?_
        refine AllReadyH.cons rfl (fun K hK => ?_) (AllReadyH.cons rfl (fun K hK => ?_) AllReadyH.nil)
        · skip
          go_simp
          refine hK.out _ _ (by exact hHeld) (fun hHeld => ?_)
          clear hK K
          refine take_one 7 (by kernel_rfl) rfl (fun K hK => ?_)
          go_simp
          ((with_reducible refine (HCP.out _ hHeld.2.2.1.below).mono ?_); rintro e w5 ⟨x5, v5, rfl, hul, hli, hcr, hb5⟩; obtain ⟨A5, cap5, rfl, -⟩ := hcr.resS; have HL5 : Hid (LL v5 dv) := ⟨hul, hli⟩; have HC5 := hide hcr; have C2 := hide (C1.out.on hb5); have V2 := V1.on hb5; have z5 : wr.heap.size ≤ w5.heap.size := (by have := hb5.size; simpa using this); have HR := hide (show w5.ownsRow Wr.heap.size 33 1 (.slice ha hs.length hc) k (flatG hs) by have := C2.out.row; rw [HU.out] at this ⊢; exact this); have HB5 := hide hb5; have q2 : w5.cell? ⟨O, 4, none⟩ = some (.slice ha hs.length hc) := V2.at 4; have q4 : (w5.alloc (.cells #[.slice A5 v5.length cap5] 33)).cell? ⟨O, 4, none⟩ = some (.slice ha hs.length hc) := (V2.more _).at 4; clear hul hli hcr)
          try go_wp2_with fail
          refine hK.out _ _ (by exact JH (hHeld.2.2.1.on HB5.out) (hHeld.2.2.2.trans (.below HB5.out))) (fun hHeld => ?_)
          clear hK K
          refine take_one 8 (by kernel_rfl) rfl (fun K hK => ?_)
          go_simp
          refine hK.out _ _ (by exact JH (hHeld.2.2.1.alloc _) (hHeld.2.2.2.trans (.below (below_alloc1 _ _)))) (fun hHeld => ?_)
          clear hK K
          refine take_one 9 (by kernel_rfl) rfl (fun K hK => ?_)
          (refine step_append_lies _ (by rfl) _ _ _ (by rfl) Wr.heap.size 33 i0 _ 1 24 Tryz.underlying34 I0.out I1.out I2.out I3.out rfl (by omega) (.slice ha hs.length hc) k (flatG hs) (by rfl) (HR.out.alloc _) ⟨w5.heap.size, 0, none⟩ 1 1 [cellG ⟨A5, cap5, v5⟩] (by rfl) (by rfl) (World.news_of_block (cs := #[.slice A5 v5.length cap5]) (t := 33) (fr := (0, 0)) (heap_alloc_new w5 _)) (by simp [cellG, Value.oneCell']) (by omega) (by unfold maxLen; omega) (by omega) (by simp; omega) _ rfl ?_; intro g cap w6 hown2 hgrow hat hlt2; have V3 := (V2.more (.cells #[.slice A5 v5.length cap5] 33)).kept hgrow (by intro e; have hq := HVT.out _ e; obtain ⟨_, _, h1, _⟩ := hq; omega); have q3 : w6.cell? ⟨O, 4, none⟩ = some (.slice ha hs.length hc) := V3.at 4; have f3 := V3.loose 4; have OW := hide hown2; have GW := hide hgrow; clear hown2)
          simp only [List.getElem_toArray, List.getElem_cons_zero, List.getElem_cons_succ, Act.put, List.setIfInBounds_toArray, List.set_cons_zero, List.set_cons_succ]
          refine hK.out _ _ (by exact JH (Inv.grow hHeld.2.2.1 hgrow (fun g' e => by have hq := HVT.out _ e; obtain ⟨_, _, h1, _⟩ := hq; have := hHeld.2.2.1.base; omega)) (hHeld.2.2.2.trans (.of hgrow (fun g' e => by have hq := HVT.out _ e; obtain ⟨_, _, h1, _⟩ := hq; exact .inr h1)))) (fun hHeld => ?_)
          clear hK K
          refine mvR 10 (some 35) hHeld ?_
          refine take_one 11 (by kernel_rfl) rfl (fun K hK => ?_)
          go_simp
          refine hK.out _ _ (by exact JH (hHeld.2.2.1.set (by simp only; omega) (by simp only; omega) _) (hHeld.2.2.2.set (.inl rfl) _)) (fun hHeld => ?_)
          clear hK K
          refine wpAnyH_done (by kernel_rfl) ?_ _
          refine NoPanic.normal ?_
          have I9 := hHeld.2.2.1
          have B9 := hHeld.2.2.2
          have C9 := C1.out.push (w1 := w5.alloc (.cells #[.slice A5 v5.length cap5] 33)) (v := ⟨A5, cap5, v5⟩) (g := g) (cap := cap) (w2 := w6) (HB5.out.trans ((below_alloc1 w5 _).mono HB5.out.size)) (HC5.out.on (below_alloc1 w5 _)) (by rw [HU.out]; exact OW.out) GW.out
          rw [HU.out] at C9
          have C10 := hide (C9.aside (p := ⟨O, 4, none⟩) (by simp only; omega) (.slice (some ⟨g, 0, none⟩) (k + 1) cap))
          have V9 := V3.put 4 (.slice (some ⟨g, 0, none⟩) (k + 1) cap)
          have HL9 := hide (lls_push (v := ⟨A5, cap5, v5⟩) HL.out HU.out HX.out HL5.out)
          have HU9 : Hid ((hs ++ [(⟨A5, cap5, v5⟩ : Lg)]).length = k + 1) := (by unfold Hid; rw [List.length_append, HU.out]; rfl)
          clear hHeld V3 q3 q1 q2 q4 V1 V2 C9 C1 C2 HG
          go_wp2
          exact ⟨⟨k + 1, _, _, by omega, by go_num, V9, HU9, HL9, C10, I9, B9⟩, by simp [intOf]; omega⟩
        · skip
          go_simp
          ((with_reducible refine (HCP.out _ hHeld.2.2.1.below).mono ?_); rintro e w5 ⟨x5, v5, rfl, hul, hli, hcr, hb5⟩; obtain ⟨A5, cap5, rfl, -⟩ := hcr.resS; have HL5 : Hid (LL v5 dv) := ⟨hul, hli⟩; have HC5 := hide hcr; have C2 := hide (C1.out.on hb5); have V2 := V1.on hb5; have z5 : wr.heap.size ≤ w5.heap.size := (by have := hb5.size; simpa using this); have HR := hide (show w5.ownsRow Wr.heap.size 33 1 (.slice ha hs.length hc) k (flatG hs) by have := C2.out.row; rw [HU.out] at this ⊢; exact this); have HB5 := hide hb5; have q2 : w5.cell? ⟨O, 4, none⟩ = some (.slice ha hs.length hc) := V2.at 4; have q4 : (w5.alloc (.cells #[.slice A5 v5.length cap5] 33)).cell? ⟨O, 4, none⟩ = some (.slice ha hs.length hc) := (V2.more _).at 4; clear hul hli hcr)
          try go_wp2_with fail
          refine hK.out _ _ (by exact JH (hHeld.2.2.1.on HB5.out) (hHeld.2.2.2.trans (.below HB5.out))) (fun hHeld => ?_)
          clear hK K
          refine wpAnyH_ready (rs := [1, 8]) (by kernel_rfl) (by simp) ?_
          refine AllReadyH.cons rfl (fun K hK => ?_) (AllReadyH.cons rfl (fun K hK => ?_) AllReadyH.nil)
          · skip
            go_simp
            refine hK.out _ _ (by exact hHeld) (fun hHeld => ?_)
            clear hK K
            refine take_one 8 (by kernel_rfl) rfl (fun K hK => ?_)
            go_simp
            refine hK.out _ _ (by exact JH (hHeld.2.2.1.alloc _) (hHeld.2.2.2.trans (.below (below_alloc1 _ _)))) (fun hHeld => ?_)
            clear hK K
            refine take_one 9 (by kernel_rfl) rfl (fun K hK => ?_)
            (refine step_append_lies _ (by rfl) _ _ _ (by rfl) Wr.heap.size 33 i0 _ 1 24 Tryz.underlying34 I0.out I1.out I2.out I3.out rfl (by omega) (.slice ha hs.length hc) k (flatG hs) (by rfl) (HR.out.alloc _) ⟨w5.heap.size, 0, none⟩ 1 1 [cellG ⟨A5, cap5, v5⟩] (by rfl) (by rfl) (World.news_of_block (cs := #[.slice A5 v5.length cap5]) (t := 33) (fr := (0, 0)) (heap_alloc_new w5 _)) (by simp [cellG, Value.oneCell']) (by omega) (by unfold maxLen; omega) (by omega) (by simp; omega) _ rfl ?_; intro g cap w6 hown2 hgrow hat hlt2; have V3 := (V2.more (.cells #[.slice A5 v5.length cap5] 33)).kept hgrow (by intro e; have hq := HVT.out _ e; obtain ⟨_, _, h1, _⟩ := hq; omega); have q3 : w6.cell? ⟨O, 4, none⟩ = some (.slice ha hs.length hc) := V3.at 4; have f3 := V3.loose 4; have OW := hide hown2; have GW := hide hgrow; clear hown2)
            simp only [List.getElem_toArray, List.getElem_cons_zero, List.getElem_cons_succ, Act.put, List.setIfInBounds_toArray, List.set_cons_zero, List.set_cons_succ]
            refine hK.out _ _ (by exact JH (Inv.grow hHeld.2.2.1 hgrow (fun g' e => by have hq := HVT.out _ e; obtain ⟨_, _, h1, _⟩ := hq; have := hHeld.2.2.1.base; omega)) (hHeld.2.2.2.trans (.of hgrow (fun g' e => by have hq := HVT.out _ e; obtain ⟨_, _, h1, _⟩ := hq; exact .inr h1)))) (fun hHeld => ?_)
            clear hK K
            refine mvR 10 (some 35) hHeld ?_
            refine take_one 11 (by kernel_rfl) rfl (fun K hK => ?_)
            go_simp
            refine hK.out _ _ (by exact JH (hHeld.2.2.1.set (by simp only; omega) (by simp only; omega) _) (hHeld.2.2.2.set (.inl rfl) _)) (fun hHeld => ?_)
            clear hK K
            refine wpAnyH_done (by kernel_rfl) ?_ _
            refine NoPanic.normal ?_
            have I9 := hHeld.2.2.1
            have B9 := hHeld.2.2.2
            have C9 := C1.out.push (w1 := w5.alloc (.cells #[.slice A5 v5.length cap5] 33)) (v := ⟨A5, cap5, v5⟩) (g := g) (cap := cap) (w2 := w6) (HB5.out.trans ((below_alloc1 w5 _).mono HB5.out.size)) (HC5.out.on (below_alloc1 w5 _)) (by rw [HU.out]; exact OW.out) GW.out
            rw [HU.out] at C9
            have C10 := hide (C9.aside (p := ⟨O, 4, none⟩) (by simp only; omega) (.slice (some ⟨g, 0, none⟩) (k + 1) cap))
            have V9 := V3.put 4 (.slice (some ⟨g, 0, none⟩) (k + 1) cap)
            have HL9 := hide (lls_push (v := ⟨A5, cap5, v5⟩) HL.out HU.out HX.out HL5.out)
            have HU9 : Hid ((hs ++ [(⟨A5, cap5, v5⟩ : Lg)]).length = k + 1) := (by unfold Hid; rw [List.length_append, HU.out]; rfl)
            clear hHeld V3 q3 q1 q2 q4 V1 V2 C9 C1 C2 HG
            go_wp2
            exact ⟨⟨k + 1, _, _, by omega, by go_num, V9, HU9, HL9, C10, I9, B9⟩, by simp [intOf]; omega⟩
          · skip
            go_simp
            refine hK.out _ _ (by exact JH (hHeld.2.2.1.alloc _) (hHeld.2.2.2.trans (.below (below_alloc1 _ _)))) (fun hHeld => ?_)
            clear hK K
            refine take_one 1 (by kernel_rfl) rfl (fun K hK => ?_)
            go_simp
            refine hK.out _ _ (by exact hHeld) (fun hHeld => ?_)
            clear hK K
            refine take_one 9 (by kernel_rfl) rfl (fun K hK => ?_)
            (refine step_append_lies _ (by rfl) _ _ _ (by rfl) Wr.heap.size 33 i0 _ 1 24 Tryz.underlying34 I0.out I1.out I2.out I3.out rfl (by omega) (.slice ha hs.length hc) k (flatG hs) (by rfl) (HR.out.alloc _) ⟨w5.heap.size, 0, none⟩ 1 1 [cellG ⟨A5, cap5, v5⟩] (by rfl) (by rfl) (World.news_of_block (cs := #[.slice A5 v5.length cap5]) (t := 33) (fr := (0, 0)) (heap_alloc_new w5 _)) (by simp [cellG, Value.oneCell']) (by omega) (by unfold maxLen; omega) (by omega) (by simp; omega) _ rfl ?_; intro g cap w6 hown2 hgrow hat hlt2; have V3 := (V2.more (.cells #[.slice A5 v5.length cap5] 33)).kept hgrow (by intro e; have hq := HVT.out _ e; obtain ⟨_, _, h1, _⟩ := hq; omega); have q3 : w6.cell? ⟨O, 4, none⟩ = some (.slice ha hs.length hc) := V3.at 4; have f3 := V3.loose 4; have OW := hide hown2; have GW := hide hgrow; clear hown2)
            simp only [List.getElem_toArray, List.getElem_cons_zero, List.getElem_cons_succ, Act.put, List.setIfInBounds_toArray, List.set_cons_zero, List.set_cons_succ]
            refine hK.out _ _ (by exact JH (Inv.grow hHeld.2.2.1 hgrow (fun g' e => by have hq := HVT.out _ e; obtain ⟨_, _, h1, _⟩ := hq; have := hHeld.2.2.1.base; omega)) (hHeld.2.2.2.trans (.of hgrow (fun g' e => by have hq := HVT.out _ e; obtain ⟨_, _, h1, _⟩ := hq; exact .inr h1)))) (fun hHeld => ?_)
            clear hK K
            refine mvR 10 (some 35) hHeld ?_
            refine take_one 11 (by kernel_rfl) rfl (fun K hK => ?_)
            go_simp
            refine hK.out _ _ (by exact JH (hHeld.2.2.1.set (by simp only; omega) (by simp only; omega) _) (hHeld.2.2.2.set (.inl rfl) _)) (fun hHeld => ?_)
            clear hK K
            refine wpAnyH_done (by kernel_rfl) ?_ _
            refine NoPanic.normal ?_
            have I9 := hHeld.2.2.1
            have B9 := hHeld.2.2.2
            have C9 := C1.out.push (w1 := w5.alloc (.cells #[.slice A5 v5.length cap5] 33)) (v := ⟨A5, cap5, v5⟩) (g := g) (cap := cap) (w2 := w6) (HB5.out.trans ((below_alloc1 w5 _).mono HB5.out.size)) (HC5.out.on (below_alloc1 w5 _)) (by rw [HU.out]; exact OW.out) GW.out
            rw [HU.out] at C9
            have C10 := hide (C9.aside (p := ⟨O, 4, none⟩) (by simp only; omega) (.slice (some ⟨g, 0, none⟩) (k + 1) cap))
            have V9 := V3.put 4 (.slice (some ⟨g, 0, none⟩) (k + 1) cap)
            have HL9 := hide (lls_push (v := ⟨A5, cap5, v5⟩) HL.out HU.out HX.out HL5.out)
            have HU9 : Hid ((hs ++ [(⟨A5, cap5, v5⟩ : Lg)]).length = k + 1) := (by unfold Hid; rw [List.length_append, HU.out]; rfl)
            clear hHeld V3 q3 q1 q2 q4 V1 V2 C9 C1 C2 HG
            go_wp2
            exact ⟨⟨k + 1, _, _, by omega, by go_num, V9, HU9, HL9, C10, I9, B9⟩, by simp [intOf]; omega⟩
      · have hkn : k = n := by omega
        subst hkn
        clear hlt
        obtain ⟨ha, hc, rfl⟩ := HG.out.form
        have hqq := hV.six
        have c0 := (hI.nth 1 rfl).at 4
        have r0 := (hI.nth 0 rfl).six
        have HI := hide hI
        have HBB := hide hB
        clear hI hB hV
        go_wp2
        have zb := HBB.out.size
        refine bodyPost_ret (v := .agg (plAt me ck xa us.length xc ya vs.length yc ha hs.length hc fell)) (by simp [results, Tryz.results21, go_sem, r0]) rfl ?_
        have cN := HGU.out.turnK HBB.out (fun g hf e => by have := HF1.out g hf; omega)
        have cL := HCR.out.turnP HBB.out (fun g hf e => by have := HF2.out g hf; omega)
        have f3 : ∀ g, FootH (.slice ha hs.length hc) hs g → Wr.heap.size ≤ g := fun g hf => (HG.out.foot hf).1
        have TT := turn_w6 wr (w.heap.size + 1) (.int .i64 me) (.int .i64 ck) (.slice xa us.length xc) (.slice ya vs.length yc) (.slice ha hs.length hc) (.bool fell)
        refine ⟨⟨me, ck, xa, xc, us, ya, yc, vs, ha, hc, hs, fell⟩, M1, Wr.heap.size, rfl, ⟨rfl, rfl, HLU.out, HLV.out, ⟨HU.out.trans HN.out.symm, HL.out⟩, rfl⟩, ⟨(cN.turnK TT (fun g hf e => by have := HF1.out g hf; omega)).down (by omega), (cL.turnP TT (fun g hf e => by have := HF2.out g hf; omega)).down (by omega), (HG.out.turned TT (fun g hf e => by have := f3 g hf; omega)).down (by omega), fun g hf => (HF1.out g hf).2.1, fun g hf => ⟨(HF2.out g hf).1, (HF2.out g hf).2.1⟩, f3, by omega, by omega⟩, below_set6 HI.out.below (by omega) _ _ _ _ _ _⟩
  have KEY := hide key
  clear key
  have JK : ∀ {W : World}, Inv w (w.heap.size + 1 + 1) [(w.heap.size + 1, 36, plAt 0 0 none 0 0 none 0 0 none 0 0 false), (w.heap.size, 36, plAt me ck ca ns.length cc la log.length lc ga gs.length gc fell)] W → (W.cell? ⟨w.heap.size, 0, none⟩ = some (.int .i64 me) ∧ W.cell? ⟨w.heap.size, 1, none⟩ = some (.int .i64 ck) ∧ W.cell? ⟨w.heap.size, 2, none⟩ = some (.slice ca ns.length cc) ∧ W.cell? ⟨w.heap.size, 3, none⟩ = some (.slice la log.length lc) ∧ W.cell? ⟨w.heap.size, 4, none⟩ = some (.slice ga gs.length gc) ∧ W.cell? ⟨w.heap.size, 5, none⟩ = some (.bool fell)) ∧ Inv w (w.heap.size + 1 + 1) [(w.heap.size + 1, 36, plAt 0 0 none 0 0 none 0 0 none 0 0 false), (w.heap.size, 36, plAt me ck ca ns.length cc la log.length lc ga gs.length gc fell)] W := fun h => ⟨(h.nth 1 rfl).six.1, h⟩
  refine wp_region_noPanic ?_
  refine wp_region_held_drew (S := (fun w' => (w'.cell? ⟨w.heap.size, 0, none⟩ = some (.int .i64 me) ∧ w'.cell? ⟨w.heap.size, 1, none⟩ = some (.int .i64 ck) ∧ w'.cell? ⟨w.heap.size, 2, none⟩ = some (.slice ca ns.length cc) ∧ w'.cell? ⟨w.heap.size, 3, none⟩ = some (.slice la log.length lc) ∧ w'.cell? ⟨w.heap.size, 4, none⟩ = some (.slice ga gs.length gc) ∧ w'.cell? ⟨w.heap.size, 5, none⟩ = some (.bool fell)) ∧ Inv w (w.heap.size + 1 + 1) [(w.heap.size + 1, 36, plAt 0 0 none 0 0 none 0 0 none 0 0 false), (w.heap.size, 36, plAt me ck ca ns.length cc la log.length lc ga gs.length gc fell)] w')) (by kernel_rfl) (by exact JK S0.drew) (fun hHeld => ?_)
  refine mvR 0 (some 5) hHeld ?_
  refine mvR 1 (some 6) hHeld ?_
  refine mvR 2 (some 7) hHeld ?_
  refine mvR 3 (some 8) hHeld ?_
  refine mvR 4 (some 9) hHeld ?_
  refine mvR 5 (some 10) hHeld ?_
  refine mvR 6 (some 11) hHeld ?_
  refine mvR 7 (some 12) hHeld ?_
  refine mvR 9 (some 14) hHeld ?_
  refine mvR 10 (some 15) hHeld ?_
  refine wpAnyH_ready (rs := [8, 13]) (by kernel_rfl) (by simp) ?_
  refine AllReadyH.cons rfl (fun K hK => ?_) (AllReadyH.cons rfl (fun K hK => ?_) AllReadyH.nil)
  · skip
    go_simp
    ((with_reducible refine (HCL.out _ hHeld.2.below).mono ?_); rintro e w1 ⟨x1, us, rfl, hlu, hgu, hb1⟩; obtain ⟨xa, xc, rfl⟩ := hgu.form; have HLU := hide hlu; have z1 := hb1.size; (try simp at z1); (first | have HF1 : Hid (∀ g, FootK (.slice xa us.length xc) us g → w.heap.size + 2 ≤ g ∧ g < w1.heap.size ∧ g ≠ W0.heap.size) := (fun g hf => by have h := hgu.footK hf; (try simp at h); have hv := VB.out.inside; (try simp at hv); omega) | have HF1 : Hid (∀ g, FootK (.slice xa us.length xc) us g → w.heap.size + 2 ≤ g ∧ g < w1.heap.size) := (fun g hf => by have h := hgu.footK hf; (try simp at h); omega)); have HGU := hide (hgu.down (base' := w.heap.size + 2) (by first | omega | (simp; omega))); (try replace VB := hide (VB.out.on hb1)); clear hlu hgu)
    try go_wp2_with fail
    refine hK.out _ _ (by exact JK (hHeld.2.on hb1)) (fun hHeld => ?_)
    clear hK K
    refine wpAnyH_ready (rs := [11, 13]) (by kernel_rfl) (by simp) ?_
    refine AllReadyH.cons rfl (fun K hK => ?_) (AllReadyH.cons rfl (fun K hK => ?_) AllReadyH.nil)
    · skip
      go_simp
      ((with_reducible refine (HLG.out _ hHeld.2.below).mono ?_); rintro e w2 ⟨x2, vs, rfl, hvl, hvk, hcr, hb2⟩; obtain ⟨ya, yc, rfl, -⟩ := hcr.resS; have HLV : Hid (LL vs log) := ⟨hvl, hvk⟩; have z2 := hb2.size; (try simp at z2); have HF2 : Hid (∀ g, FootV ya yc vs g → w1.heap.size ≤ g ∧ g < w2.heap.size) := (fun g hf => by have h := hcr.foot hf; (try simp at h); omega); (try have HF3 : Hid (∀ g, FootV ya yc vs g → w1.heap.size + 1 ≤ g) := (fun g hf => by have h := hcr.foot hf; have hv := VB.out.inside; (try simp at h); omega)); have HCR := hide (hcr.down (base' := w.heap.size + 2) (by first | omega | (simp; omega))); replace HGU := hide (HGU.out.on hb2); (try replace VB := hide (VB.out.on hb2)); clear hvl hvk hcr)
      try go_wp2_with fail
      refine hK.out _ _ (by exact JK (hHeld.2.on hb2)) (fun hHeld => ?_)
      clear hK K
      refine mvR 12 (some 17) hHeld ?_
      refine take_one 13 (by kernel_rfl) rfl (fun K hK => ?_)
      go_simp
      (first | (have VB := hide (Blk.made w2 36 (plAt 0 0 none 0 0 none 0 0 none 0 0 false)); have tagC : Hid (∃ O, O = w2.heap.size) := ⟨_, rfl⟩; have hOlo : w.heap.size + 2 ≤ w2.heap.size := (by omega); replace HGU := hide (HGU.out.on (below_alloc1 w2 (.cells (plAt 0 0 none 0 0 none 0 0 none 0 0 false) 36))); replace HCR := hide (HCR.out.on (below_alloc1 w2 (.cells (plAt 0 0 none 0 0 none 0 0 none 0 0 false) 36)))) | (have VB := hide (Blk.made w1 36 (plAt 0 0 none 0 0 none 0 0 none 0 0 false)); have tagB : Hid (∃ O, O = w1.heap.size) := ⟨_, rfl⟩; have hOlo : w.heap.size + 2 ≤ w1.heap.size := (by omega); replace HGU := hide (HGU.out.on (below_alloc1 w1 (.cells (plAt 0 0 none 0 0 none 0 0 none 0 0 false) 36)))) | (have VB : Hid (Blk (W0.alloc (.cells (plAt 0 0 none 0 0 none 0 0 none 0 0 false) 36)).drew (w.heap.size + 2) 36 (plAt 0 0 none 0 0 none 0 0 none 0 0 false)) := (by rw [← zW0]; exact (Blk.made W0 36 (plAt 0 0 none 0 0 none 0 0 none 0 0 false)).drew); have tagA : Hid (∃ O, O = W0.heap.size) := ⟨_, rfl⟩; have hOlo : w.heap.size + 2 ≤ w.heap.size + 2 := Nat.le_refl _))
      try go_wp2_with fail
      refine hK.out _ _ (by exact JK (hHeld.2.alloc _)) (fun hHeld => ?_)
      clear hK K
      refine take_one 14 (by kernel_rfl) rfl (fun K hK => ?_)
      (first | (refine step_place (by rfl) _ _ (by rfl) (by rfl) w2.heap.size _ _ _ _ _ _ _ _ _ _ _ _ _ _ _ _ _ _ _ (by rfl) (by rfl) VB.out ?_) | (refine step_place (by rfl) _ _ (by rfl) (by rfl) w1.heap.size _ _ _ _ _ _ _ _ _ _ _ _ _ _ _ _ _ _ _ (by rfl) (by rfl) VB.out ?_) | (refine step_place (by rfl) _ _ (by rfl) (by rfl) (w.heap.size + 2) _ _ _ _ _ _ _ _ _ _ _ _ _ _ _ _ _ _ _ (by rfl) (by rfl) VB.out ?_))
      try simp only [List.getElem_toArray, List.getElem_cons_zero, List.getElem_cons_succ, Act.put, List.setIfInBounds_toArray, List.set_cons_zero, List.set_cons_succ]
      first | with_reducible refine hK.out _ _ (by exact JK (inv_set6 (b := w2.heap.size) hHeld.2 (by omega) (by omega) _ _ _ _ _ _)) (fun hHeld => ?_) | with_reducible refine hK.out _ _ (by exact JK (inv_set6 (b := w1.heap.size) hHeld.2 (by omega) (by omega) _ _ _ _ _ _)) (fun hHeld => ?_) | with_reducible refine hK.out _ _ (by exact JK (inv_set6 (b := w.heap.size + 2) hHeld.2 (by omega) (by omega) _ _ _ _ _ _)) (fun hHeld => ?_)
      clear hK K
      refine wpAnyH_done (by kernel_rfl) ?_ _
      refine NoPanic.normal ?_
      first | (have _ := tagA; have hz := size_w6 w2 (w.heap.size + 2) (.int .i64 me) (.int .i64 ck) (.slice xa us.length xc) (.slice ya vs.length yc) (.slice none 0 0) (.bool fell); refine KEY.out _ _ _ _ _ _ _ _ _ _ _ _ _ _ _ _ _ _ _ _ _ _ _ _ _ _ _ _ _ _ _ _ _ (w.heap.size + 2) xa xc us ya yc vs w1.heap.size _ (blk_set6 VB.out _ _ _ _ _ _) HLU.out HLV.out (HGU.out.turnK (turn_w6 _ _ _ _ _ _ _ _) (fun g hf e => ?_)) (fun g hf => ?_) (HCR.out.turnP (turn_w6 _ _ _ _ _ _ _ _) (fun g hf e => ?_)) (fun g hf => ?_) ?_ ?_ ?_ ?_ hHeld.2; (have h := HF1.out g hf; omega); (have h := HF1.out g hf; omega); (have h := HF2.out g hf; (try have h' := HF3.out g hf); omega); (have h := HF2.out g hf; (try have h' := HF3.out g hf); rw [hz]; (try simp only [World.size_alloc]); omega); omega; (rw [hz]; (try simp only [World.size_alloc]); omega); omega; (rw [hz]; (try simp only [World.size_alloc]); omega)) | (have _ := tagB; have hz := size_w6 w2 w1.heap.size (.int .i64 me) (.int .i64 ck) (.slice xa us.length xc) (.slice ya vs.length yc) (.slice none 0 0) (.bool fell); refine KEY.out _ _ _ _ _ _ _ _ _ _ _ _ _ _ _ _ _ _ _ _ _ _ _ _ _ _ _ _ _ _ _ _ _ w1.heap.size xa xc us ya yc vs w1.heap.size _ (blk_set6 VB.out _ _ _ _ _ _) HLU.out HLV.out (HGU.out.turnK (turn_w6 _ _ _ _ _ _ _ _) (fun g hf e => ?_)) (fun g hf => ?_) (HCR.out.turnP (turn_w6 _ _ _ _ _ _ _ _) (fun g hf e => ?_)) (fun g hf => ?_) ?_ ?_ ?_ ?_ hHeld.2; (have h := HF1.out g hf; omega); (have h := HF1.out g hf; omega); (have h := HF2.out g hf; (try have h' := HF3.out g hf); omega); (have h := HF2.out g hf; (try have h' := HF3.out g hf); rw [hz]; (try simp only [World.size_alloc]); omega); omega; (rw [hz]; (try simp only [World.size_alloc]); omega); omega; (rw [hz]; (try simp only [World.size_alloc]); omega)) | (have _ := tagC; have hz := size_w6 (w2.alloc (.cells (plAt 0 0 none 0 0 none 0 0 none 0 0 false) 36)) w2.heap.size (.int .i64 me) (.int .i64 ck) (.slice xa us.length xc) (.slice ya vs.length yc) (.slice none 0 0) (.bool fell); refine KEY.out _ _ _ _ _ _ _ _ _ _ _ _ _ _ _ _ _ _ _ _ _ _ _ _ _ _ _ _ _ _ _ _ _ w2.heap.size xa xc us ya yc vs w1.heap.size _ (blk_set6 VB.out _ _ _ _ _ _) HLU.out HLV.out (HGU.out.turnK (turn_w6 _ _ _ _ _ _ _ _) (fun g hf e => ?_)) (fun g hf => ?_) (HCR.out.turnP (turn_w6 _ _ _ _ _ _ _ _) (fun g hf e => ?_)) (fun g hf => ?_) ?_ ?_ ?_ ?_ hHeld.2; (have h := HF1.out g hf; omega); (have h := HF1.out g hf; omega); (have h := HF2.out g hf; (try have h' := HF3.out g hf); omega); (have h := HF2.out g hf; (try have h' := HF3.out g hf); rw [hz]; (try simp only [World.size_alloc]); omega); omega; (rw [hz]; (try simp only [World.size_alloc]); omega); omega; (rw [hz]; (try simp only [World.size_alloc]); omega))
    · skip
      go_simp
      (first | (have VB := hide (Blk.made w2 36 (plAt 0 0 none 0 0 none 0 0 none 0 0 false)); have tagC : Hid (∃ O, O = w2.heap.size) := ⟨_, rfl⟩; have hOlo : w.heap.size + 2 ≤ w2.heap.size := (by omega); replace HGU := hide (HGU.out.on (below_alloc1 w2 (.cells (plAt 0 0 none 0 0 none 0 0 none 0 0 false) 36))); replace HCR := hide (HCR.out.on (below_alloc1 w2 (.cells (plAt 0 0 none 0 0 none 0 0 none 0 0 false) 36)))) | (have VB := hide (Blk.made w1 36 (plAt 0 0 none 0 0 none 0 0 none 0 0 false)); have tagB : Hid (∃ O, O = w1.heap.size) := ⟨_, rfl⟩; have hOlo : w.heap.size + 2 ≤ w1.heap.size := (by omega); replace HGU := hide (HGU.out.on (below_alloc1 w1 (.cells (plAt 0 0 none 0 0 none 0 0 none 0 0 false) 36)))) | (have VB : Hid (Blk (W0.alloc (.cells (plAt 0 0 none 0 0 none 0 0 none 0 0 false) 36)).drew (w.heap.size + 2) 36 (plAt 0 0 none 0 0 none 0 0 none 0 0 false)) := (by rw [← zW0]; exact (Blk.made W0 36 (plAt 0 0 none 0 0 none 0 0 none 0 0 false)).drew); have tagA : Hid (∃ O, O = W0.heap.size) := ⟨_, rfl⟩; have hOlo : w.heap.size + 2 ≤ w.heap.size + 2 := Nat.le_refl _))
      try go_wp2_with fail
      refine hK.out _ _ (by exact JK (hHeld.2.alloc _)) (fun hHeld => ?_)
      clear hK K
      refine take_one 11 (by kernel_rfl) rfl (fun K hK => ?_)
      go_simp
      ((with_reducible refine (HLG.out _ hHeld.2.below).mono ?_); rintro e w2 ⟨x2, vs, rfl, hvl, hvk, hcr, hb2⟩; obtain ⟨ya, yc, rfl, -⟩ := hcr.resS; have HLV : Hid (LL vs log) := ⟨hvl, hvk⟩; have z2 := hb2.size; (try simp at z2); have HF2 : Hid (∀ g, FootV ya yc vs g → w1.heap.size ≤ g ∧ g < w2.heap.size) := (fun g hf => by have h := hcr.foot hf; (try simp at h); omega); (try have HF3 : Hid (∀ g, FootV ya yc vs g → w1.heap.size + 1 ≤ g) := (fun g hf => by have h := hcr.foot hf; have hv := VB.out.inside; (try simp at h); omega)); have HCR := hide (hcr.down (base' := w.heap.size + 2) (by first | omega | (simp; omega))); replace HGU := hide (HGU.out.on hb2); (try replace VB := hide (VB.out.on hb2)); clear hvl hvk hcr)
      try go_wp2_with fail
      refine hK.out _ _ (by exact JK (hHeld.2.on hb2)) (fun hHeld => ?_)
      clear hK K
      refine mvR 12 (some 17) hHeld ?_
      refine take_one 14 (by kernel_rfl) rfl (fun K hK => ?_)
      (first | (refine step_place (by rfl) _ _ (by rfl) (by rfl) w2.heap.size _ _ _ _ _ _ _ _ _ _ _ _ _ _ _ _ _ _ _ (by rfl) (by rfl) VB.out ?_) | (refine step_place (by rfl) _ _ (by rfl) (by rfl) w1.heap.size _ _ _ _ _ _ _ _ _ _ _ _ _ _ _ _ _ _ _ (by rfl) (by rfl) VB.out ?_) | (refine step_place (by rfl) _ _ (by rfl) (by rfl) (w.heap.size + 2) _ _ _ _ _ _ _ _ _ _ _ _ _ _ _ _ _ _ _ (by rfl) (by rfl) VB.out ?_))
      try simp only [List.getElem_toArray, List.getElem_cons_zero, List.getElem_cons_succ, Act.put, List.setIfInBounds_toArray, List.set_cons_zero, List.set_cons_succ]
      first | with_reducible refine hK.out _ _ (by exact JK (inv_set6 (b := w2.heap.size) hHeld.2 (by omega) (by omega) _ _ _ _ _ _)) (fun hHeld => ?_) | with_reducible refine hK.out _ _ (by exact JK (inv_set6 (b := w1.heap.size) hHeld.2 (by omega) (by omega) _ _ _ _ _ _)) (fun hHeld => ?_) | with_reducible refine hK.out _ _ (by exact JK (inv_set6 (b := w.heap.size + 2) hHeld.2 (by omega) (by omega) _ _ _ _ _ _)) (fun hHeld => ?_)
      clear hK K
      refine wpAnyH_done (by kernel_rfl) ?_ _
      refine NoPanic.normal ?_
      first | (have _ := tagA; have hz := size_w6 w2 (w.heap.size + 2) (.int .i64 me) (.int .i64 ck) (.slice xa us.length xc) (.slice ya vs.length yc) (.slice none 0 0) (.bool fell); refine KEY.out _ _ _ _ _ _ _ _ _ _ _ _ _ _ _ _ _ _ _ _ _ _ _ _ _ _ _ _ _ _ _ _ _ (w.heap.size + 2) xa xc us ya yc vs w1.heap.size _ (blk_set6 VB.out _ _ _ _ _ _) HLU.out HLV.out (HGU.out.turnK (turn_w6 _ _ _ _ _ _ _ _) (fun g hf e => ?_)) (fun g hf => ?_) (HCR.out.turnP (turn_w6 _ _ _ _ _ _ _ _) (fun g hf e => ?_)) (fun g hf => ?_) ?_ ?_ ?_ ?_ hHeld.2; (have h := HF1.out g hf; omega); (have h := HF1.out g hf; omega); (have h := HF2.out g hf; (try have h' := HF3.out g hf); omega); (have h := HF2.out g hf; (try have h' := HF3.out g hf); rw [hz]; (try simp only [World.size_alloc]); omega); omega; (rw [hz]; (try simp only [World.size_alloc]); omega); omega; (rw [hz]; (try simp only [World.size_alloc]); omega)) | (have _ := tagB; have hz := size_w6 w2 w1.heap.size (.int .i64 me) (.int .i64 ck) (.slice xa us.length xc) (.slice ya vs.length yc) (.slice none 0 0) (.bool fell); refine KEY.out _ _ _ _ _ _ _ _ _ _ _ _ _ _ _ _ _ _ _ _ _ _ _ _ _ _ _ _ _ _ _ _ _ w1.heap.size xa xc us ya yc vs w1.heap.size _ (blk_set6 VB.out _ _ _ _ _ _) HLU.out HLV.out (HGU.out.turnK (turn_w6 _ _ _ _ _ _ _ _) (fun g hf e => ?_)) (fun g hf => ?_) (HCR.out.turnP (turn_w6 _ _ _ _ _ _ _ _) (fun g hf e => ?_)) (fun g hf => ?_) ?_ ?_ ?_ ?_ hHeld.2; (have h := HF1.out g hf; omega); (have h := HF1.out g hf; omega); (have h := HF2.out g hf; (try have h' := HF3.out g hf); omega); (have h := HF2.out g hf; (try have h' := HF3.out g hf); rw [hz]; (try simp only [World.size_alloc]); omega); omega; (rw [hz]; (try simp only [World.size_alloc]); omega); omega; (rw [hz]; (try simp only [World.size_alloc]); omega)) | (have _ := tagC; have hz := size_w6 (w2.alloc (.cells (plAt 0 0 none 0 0 none 0 0 none 0 0 false) 36)) w2.heap.size (.int .i64 me) (.int .i64 ck) (.slice xa us.length xc) (.slice ya vs.length yc) (.slice none 0 0) (.bool fell); refine KEY.out _ _ _ _ _ _ _ _ _ _ _ _ _ _ _ _ _ _ _ _ _ _ _ _ _ _ _ _ _ _ _ _ _ w2.heap.size xa xc us ya yc vs w1.heap.size _ (blk_set6 VB.out _ _ _ _ _ _) HLU.out HLV.out (HGU.out.turnK (turn_w6 _ _ _ _ _ _ _ _) (fun g hf e => ?_)) (fun g hf => ?_) (HCR.out.turnP (turn_w6 _ _ _ _ _ _ _ _) (fun g hf e => ?_)) (fun g hf => ?_) ?_ ?_ ?_ ?_ hHeld.2; (have h := HF1.out g hf; omega); (have h := HF1.out g hf; omega); (have h := HF2.out g hf; (try have h' := HF3.out g hf); omega); (have h := HF2.out g hf; (try have h' := HF3.out g hf); rw [hz]; (try simp only [World.size_alloc]); omega); omega; (rw [hz]; (try simp only [World.size_alloc]); omega); omega; (rw [hz]; (try simp only [World.size_alloc]); omega))
  · skip
    go_simp
    (first | (have VB := hide (Blk.made w2 36 (plAt 0 0 none 0 0 none 0 0 none 0 0 false)); have tagC : Hid (∃ O, O = w2.heap.size) := ⟨_, rfl⟩; have hOlo : w.heap.size + 2 ≤ w2.heap.size := (by omega); replace HGU := hide (HGU.out.on (below_alloc1 w2 (.cells (plAt 0 0 none 0 0 none 0 0 none 0 0 false) 36))); replace HCR := hide (HCR.out.on (below_alloc1 w2 (.cells (plAt 0 0 none 0 0 none 0 0 none 0 0 false) 36)))) | (have VB := hide (Blk.made w1 36 (plAt 0 0 none 0 0 none 0 0 none 0 0 false)); have tagB : Hid (∃ O, O = w1.heap.size) := ⟨_, rfl⟩; have hOlo : w.heap.size + 2 ≤ w1.heap.size := (by omega); replace HGU := hide (HGU.out.on (below_alloc1 w1 (.cells (plAt 0 0 none 0 0 none 0 0 none 0 0 false) 36)))) | (have VB : Hid (Blk (W0.alloc (.cells (plAt 0 0 none 0 0 none 0 0 none 0 0 false) 36)).drew (w.heap.size + 2) 36 (plAt 0 0 none 0 0 none 0 0 none 0 0 false)) := (by rw [← zW0]; exact (Blk.made W0 36 (plAt 0 0 none 0 0 none 0 0 none 0 0 false)).drew); have tagA : Hid (∃ O, O = W0.heap.size) := ⟨_, rfl⟩; have hOlo : w.heap.size + 2 ≤ w.heap.size + 2 := Nat.le_refl _))
    try go_wp2_with fail
    refine hK.out _ _ (by exact JK (hHeld.2.alloc _)) (fun hHeld => ?_)
    clear hK K
    refine take_one 8 (by kernel_rfl) rfl (fun K hK => ?_)
    go_simp
    ((with_reducible refine (HCL.out _ hHeld.2.below).mono ?_); rintro e w1 ⟨x1, us, rfl, hlu, hgu, hb1⟩; obtain ⟨xa, xc, rfl⟩ := hgu.form; have HLU := hide hlu; have z1 := hb1.size; (try simp at z1); (first | have HF1 : Hid (∀ g, FootK (.slice xa us.length xc) us g → w.heap.size + 2 ≤ g ∧ g < w1.heap.size ∧ g ≠ W0.heap.size) := (fun g hf => by have h := hgu.footK hf; (try simp at h); have hv := VB.out.inside; (try simp at hv); omega) | have HF1 : Hid (∀ g, FootK (.slice xa us.length xc) us g → w.heap.size + 2 ≤ g ∧ g < w1.heap.size) := (fun g hf => by have h := hgu.footK hf; (try simp at h); omega)); have HGU := hide (hgu.down (base' := w.heap.size + 2) (by first | omega | (simp; omega))); (try replace VB := hide (VB.out.on hb1)); clear hlu hgu)
    try go_wp2_with fail
    refine hK.out _ _ (by exact JK (hHeld.2.on hb1)) (fun hHeld => ?_)
    clear hK K
    refine take_one 11 (by kernel_rfl) rfl (fun K hK => ?_)
    go_simp
    ((with_reducible refine (HLG.out _ hHeld.2.below).mono ?_); rintro e w2 ⟨x2, vs, rfl, hvl, hvk, hcr, hb2⟩; obtain ⟨ya, yc, rfl, -⟩ := hcr.resS; have HLV : Hid (LL vs log) := ⟨hvl, hvk⟩; have z2 := hb2.size; (try simp at z2); have HF2 : Hid (∀ g, FootV ya yc vs g → w1.heap.size ≤ g ∧ g < w2.heap.size) := (fun g hf => by have h := hcr.foot hf; (try simp at h); omega); (try have HF3 : Hid (∀ g, FootV ya yc vs g → w1.heap.size + 1 ≤ g) := (fun g hf => by have h := hcr.foot hf; have hv := VB.out.inside; (try simp at h); omega)); have HCR := hide (hcr.down (base' := w.heap.size + 2) (by first | omega | (simp; omega))); replace HGU := hide (HGU.out.on hb2); (try replace VB := hide (VB.out.on hb2)); clear hvl hvk hcr)
    try go_wp2_with fail
    refine hK.out _ _ (by exact JK (hHeld.2.on hb2)) (fun hHeld => ?_)
    clear hK K
    refine mvR 12 (some 17) hHeld ?_
    refine take_one 14 (by kernel_rfl) rfl (fun K hK => ?_)
    (first | (refine step_place (by rfl) _ _ (by rfl) (by rfl) w2.heap.size _ _ _ _ _ _ _ _ _ _ _ _ _ _ _ _ _ _ _ (by rfl) (by rfl) VB.out ?_) | (refine step_place (by rfl) _ _ (by rfl) (by rfl) w1.heap.size _ _ _ _ _ _ _ _ _ _ _ _ _ _ _ _ _ _ _ (by rfl) (by rfl) VB.out ?_) | (refine step_place (by rfl) _ _ (by rfl) (by rfl) (w.heap.size + 2) _ _ _ _ _ _ _ _ _ _ _ _ _ _ _ _ _ _ _ (by rfl) (by rfl) VB.out ?_))
    try simp only [List.getElem_toArray, List.getElem_cons_zero, List.getElem_cons_succ, Act.put, List.setIfInBounds_toArray, List.set_cons_zero, List.set_cons_succ]
    first | with_reducible refine hK.out _ _ (by exact JK (inv_set6 (b := w2.heap.size) hHeld.2 (by omega) (by omega) _ _ _ _ _ _)) (fun hHeld => ?_) | with_reducible refine hK.out _ _ (by exact JK (inv_set6 (b := w1.heap.size) hHeld.2 (by omega) (by omega) _ _ _ _ _ _)) (fun hHeld => ?_) | with_reducible refine hK.out _ _ (by exact JK (inv_set6 (b := w.heap.size + 2) hHeld.2 (by omega) (by omega) _ _ _ _ _ _)) (fun hHeld => ?_)
    clear hK K
    refine wpAnyH_done (by kernel_rfl) ?_ _
    refine NoPanic.normal ?_
    first | (have _ := tagA; have hz := size_w6 w2 (w.heap.size + 2) (.int .i64 me) (.int .i64 ck) (.slice xa us.length xc) (.slice ya vs.length yc) (.slice none 0 0) (.bool fell); refine KEY.out _ _ _ _ _ _ _ _ _ _ _ _ _ _ _ _ _ _ _ _ _ _ _ _ _ _ _ _ _ _ _ _ _ (w.heap.size + 2) xa xc us ya yc vs w1.heap.size _ (blk_set6 VB.out _ _ _ _ _ _) HLU.out HLV.out (HGU.out.turnK (turn_w6 _ _ _ _ _ _ _ _) (fun g hf e => ?_)) (fun g hf => ?_) (HCR.out.turnP (turn_w6 _ _ _ _ _ _ _ _) (fun g hf e => ?_)) (fun g hf => ?_) ?_ ?_ ?_ ?_ hHeld.2; (have h := HF1.out g hf; omega); (have h := HF1.out g hf; omega); (have h := HF2.out g hf; (try have h' := HF3.out g hf); omega); (have h := HF2.out g hf; (try have h' := HF3.out g hf); rw [hz]; (try simp only [World.size_alloc]); omega); omega; (rw [hz]; (try simp only [World.size_alloc]); omega); omega; (rw [hz]; (try simp only [World.size_alloc]); omega)) | (have _ := tagB; have hz := size_w6 w2 w1.heap.size (.int .i64 me) (.int .i64 ck) (.slice xa us.length xc) (.slice ya vs.length yc) (.slice none 0 0) (.bool fell); refine KEY.out _ _ _ _ _ _ _ _ _ _ _ _ _ _ _ _ _ _ _ _ _ _ _ _ _ _ _ _ _ _ _ _ _ w1.heap.size xa xc us ya yc vs w1.heap.size _ (blk_set6 VB.out _ _ _ _ _ _) HLU.out HLV.out (HGU.out.turnK (turn_w6 _ _ _ _ _ _ _ _) (fun g hf e => ?_)) (fun g hf => ?_) (HCR.out.turnP (turn_w6 _ _ _ _ _ _ _ _) (fun g hf e => ?_)) (fun g hf => ?_) ?_ ?_ ?_ ?_ hHeld.2; (have h := HF1.out g hf; omega); (have h := HF1.out g hf; omega); (have h := HF2.out g hf; (try have h' := HF3.out g hf); omega); (have h := HF2.out g hf; (try have h' := HF3.out g hf); rw [hz]; (try simp only [World.size_alloc]); omega); omega; (rw [hz]; (try simp only [World.size_alloc]); omega); omega; (rw [hz]; (try simp only [World.size_alloc]); omega)) | (have _ := tagC; have hz := size_w6 (w2.alloc (.cells (plAt 0 0 none 0 0 none 0 0 none 0 0 false) 36)) w2.heap.size (.int .i64 me) (.int .i64 ck) (.slice xa us.length xc) (.slice ya vs.length yc) (.slice none 0 0) (.bool fell); refine KEY.out _ _ _ _ _ _ _ _ _ _ _ _ _ _ _ _ _ _ _ _ _ _ _ _ _ _ _ _ _ _ _ _ _ w2.heap.size xa xc us ya yc vs w1.heap.size _ (blk_set6 VB.out _ _ _ _ _ _) HLU.out HLV.out (HGU.out.turnK (turn_w6 _ _ _ _ _ _ _ _) (fun g hf e => ?_)) (fun g hf => ?_) (HCR.out.turnP (turn_w6 _ _ _ _ _ _ _ _) (fun g hf e => ?_)) (fun g hf => ?_) ?_ ?_ ?_ ?_ hHeld.2; (have h := HF1.out g hf; omega); (have h := HF1.out g hf; omega); (have h := HF2.out g hf; (try have h' := HF3.out g hf); omega); (have h := HF2.out g hf; (try have h' := HF3.out g hf); rw [hz]; (try simp only [World.size_alloc]); omega); omega; (rw [hz]; (try simp only [World.size_alloc]); omega); omega; (rw [hz]; (try simp only [World.size_alloc]); omega))
end Go.Proofs.YtnaggcdhimcilaaGreat
/- A place of the model's making: its parts in memory of their own, none in another's; how it is kept, and what a change of a part leaves. Condition: what is said of the change. -/
namespace Go.Proofs.YtnaggcdhimcilaaGreat
open Go.RowKit Go.Joins

structure OwnQ (w : World) (B : Nat) (q : Pl) : Prop where
  chain : GRow B w (.slice q.ca q.ns.length q.cc) q.ns
  log : CRow B w (.slice q.la q.log.length q.lc) q.log
  got : HRow B w (.slice q.ga q.gs.length q.gc) q.gs
  cl : ∀ g, FootK (.slice q.ca q.ns.length q.cc) q.ns g → ¬ FootV q.la q.lc q.log g
  cg : ∀ g, FootK (.slice q.ca q.ns.length q.cc) q.ns g → ¬ FootH (.slice q.ga q.gs.length q.gc) q.gs g
  lg : ∀ g, FootV q.la q.lc q.log g → ¬ FootH (.slice q.ga q.gs.length q.gc) q.gs g
/-- The blocks of a place. -/
def FootQ (q : Pl) (g : Nat) : Prop := FootK (.slice q.ca q.ns.length q.cc) q.ns g ∨ FootV q.la q.lc q.log g ∨ FootH (.slice q.ga q.gs.length q.gc) q.gs g
theorem OwnP.q {w : World} {B M1 M2 : Nat} {q : Pl} (h : OwnP w B M1 M2 q) : OwnQ w B q :=
  ⟨h.chain, h.log, h.got, fun g a b => by have := h.fc g a; have := h.fl g b; omega, fun g a b => by have := h.fc g a; have := h.fg g b; have := h.m2; omega, fun g a b => by have := h.fl g a; have := h.fg g b; omega⟩
theorem OwnQ.on {w w' : World} {B : Nat} {q : Pl} (h : OwnQ w B q) (hb : Below w.heap.size w w') : OwnQ w' B q := ⟨h.chain.on hb, h.log.on hb, h.got.on hb, h.cl, h.cg, h.lg⟩
theorem OwnQ.down {w : World} {B B' : Nat} {q : Pl} (h : OwnQ w B q) (hb : B' ≤ B) : OwnQ w B' q := ⟨h.chain.down hb, h.log.down hb, h.got.down hb, h.cl, h.cg, h.lg⟩
theorem OwnQ.foot {w : World} {B : Nat} {q : Pl} (h : OwnQ w B q) {g : Nat} (hf : FootQ q g) : B ≤ g ∧ g < w.heap.size := by
  rcases hf with hf | hf | hf
  · exact h.chain.footK hf
  · exact h.log.foot hf
  · exact h.got.foot hf
theorem OwnQ.turned {P : Nat → Prop} {w w' : World} {B : Nat} {q : Pl} (h : OwnQ w B q) (ht : Turn P w w') (hp : ∀ g, FootQ q g → ¬ P g) : OwnQ w' B q :=
  ⟨h.chain.turnK ht (fun g hf => hp g (.inl hf)), h.log.turnP ht (fun g hf => hp g (.inr (.inl hf))), h.got.turned ht (fun g hf => hp g (.inr (.inr hf))), h.cl, h.cg, h.lg⟩
theorem footC_K {A : Option Addr} {c : Nat} {ns : List Nd} {g : Nat} (h : FootC A ns g) : FootK (.slice A ns.length c) ns g := by
  obtain ⟨_, G, rfl, h⟩ := h
  rcases h with rfl | ⟨i, n, hi, hf⟩
  · exact .inl rfl
  · exact .inr ⟨i, n, hi, footN_O hf⟩
theorem OwnQ.pres {w : World} {B : Nat} {q : Pl} (h : OwnQ w B q) : PRes w B w.heap.size q :=
  ⟨h.chain.res.2, h.log.resV.2, h.got.res.2, fun g a b => h.cl g (footC_K a) (.inl b), fun g a b => h.cg g (footC_K a) (footL_H b), fun g a b => h.lg g (.inl a) (footL_H b)⟩
/-- Another chain in the place of the old one: in blocks of the old one, or new ones. -/
theorem OwnQ.swap {P : Nat → Prop} {w w' : World} {B : Nat} {q : Pl} {A : Option Addr} {cap : Nat} {us : List Nd} (h : OwnQ w B q) (hG : GRow B w' (.slice A us.length cap) us) (ht : Turn P w w') (hP : ∀ g, P g → FootK (.slice q.ca q.ns.length q.cc) q.ns g ∨ w.heap.size ≤ g)
    (hF : ∀ y, FootK (.slice A us.length cap) us y → FootK (.slice q.ca q.ns.length q.cc) q.ns y ∨ w.heap.size ≤ y) : OwnQ w' B ⟨q.me, q.ck, A, cap, us, q.la, q.lc, q.log, q.ga, q.gc, q.gs, q.fell⟩ :=
  ⟨hG, h.log.turnP ht (fun g hf hp => by
      rcases hP g hp with a | a
      · exact h.cl g a hf
      · have := (h.log.foot hf).2; omega),
    h.got.turned ht (fun g hf hp => by
      rcases hP g hp with a | a
      · exact h.cg g a hf
      · have := (h.got.foot hf).2; omega),
    fun g a b => by
      rcases hF g a with a | a
      · exact h.cl g a b
      · have := (h.log.foot b).2; omega,
    fun g a b => by
      rcases hF g a with a | a
      · exact h.cg g a b
      · have := (h.got.foot b).2; omega,
    h.lg⟩
theorem OwnQ.swapFoot {w : World} {q : Pl} {A : Option Addr} {cap : Nat} {us : List Nd} (hF : ∀ y, FootK (.slice A us.length cap) us y → FootK (.slice q.ca q.ns.length q.cc) q.ns y ∨ w.heap.size ≤ y) :
    ∀ y, FootQ ⟨q.me, q.ck, A, cap, us, q.la, q.lc, q.log, q.ga, q.gc, q.gs, q.fell⟩ y → FootQ q y ∨ w.heap.size ≤ y := fun y hy => by
  rcases hy with a | a
  · rcases hF y a with a | a
    · exact .inl (.inl a)
    · exact .inr a
  · exact .inl (.inr a)
end Go.Proofs.YtnaggcdhimcilaaGreat
/- Contracts of the model's l3Add and l3Pass: what turns is the chain's own, and the new chain lies in the old one's blocks or in new ones. Condition: at most four nodes, of valid form. -/
namespace Go.Proofs.YtnaggcdhimcilaaGreat
open Go.RowKit Go.Joins
attribute [local go_sem ↓] Go.wp_at_zero Go.wp_at_succ

/-- The blocks of a chain of the caller's own. -/
abbrev FootGr (G xc : Nat) (us : List Nd) (y : Nat) : Prop := FootK (.slice (some ⟨G, 0, none⟩) us.length xc) us y
def AddedF (w : World) (base G xc : Nat) (us : List Nd) (k : Nat) (v : V) (e : Ending) (w' : World) : Prop :=
  ∃ us' : List Nd, e = .returned (.agg #[.slice (some ⟨G, 0, none⟩) us.length xc]) ∧ NL us' (addN us k v) ∧ GRow base w' (.slice (some ⟨G, 0, none⟩) us.length xc) us' ∧ Turn (TouchC w base) w w' ∧ Turn (FootGr G xc us) w w' ∧ ∀ y, FootGr G xc us' y → FootGr G xc us y ∨ w.heap.size ≤ y
theorem Turn.then {P Q : Nat → Prop} {w w1 w2 : World} (h : Turn P w w1) (k : Turn Q w1 w2) (hq : ∀ g, g < w.heap.size → Q g → P g) : Turn P w w2 :=
  ⟨k.os.trans h.os, k.tape.trans h.tape, k.output.trans h.output, Nat.le_trans h.size k.size, fun i hi hn => (k.block i (Nat.lt_of_lt_of_le hi h.size) (fun q => hn (hq i hi q))).trans (h.block i hi hn)⟩
/-- What l3Pass leaves. -/
def PassedF (w : World) (base G xc : Nat) (us : List Nd) (k : Nat) (e : Ending) (w' : World) : Prop :=
  ∃ us' : List Nd, e = .returned (.agg #[.slice (some ⟨G, 0, none⟩) us.length xc]) ∧ NL us' (goN us k) ∧ GRow base w' (.slice (some ⟨G, 0, none⟩) us.length xc) us' ∧ Turn (TouchC w base) w w' ∧ Turn (FootGr G xc us) w w' ∧ ∀ y, FootGr G xc us' y → FootGr G xc us y ∨ w.heap.size ≤ y
end Go.Proofs.YtnaggcdhimcilaaGreat
