/- Contract of the program's apply where the version is later: it comes into the store and, unless the node is the last, waits there. Condition: at most four nodes, the node valid. -/
import Derived.Test.YtnaggcdhimcilaaGreatJChainApply2
namespace Go.Proofs.YtnaggcdhimcilaaGreat
open Go.RowKit Go.Joins
attribute [local go_sem ↓] Go.wp_at_zero Go.wp_at_succ

set_option maxRecDepth 100000 in
set_option maxHeartbeats 4000000 in
theorem apply_yes (B L base G xc k : Nat) (us : List Nd) (n : Nd) (v : V) (w : World) (hG : GRow base w (.slice (some ⟨G, 0, none⟩) us.length xc) us) (hL : LinkAt w B L (some ⟨G, 0, none⟩) G us.length xc k) (hk : us[k]? = some n) (hl : us.length ≤ 4) (hnb : nodeB n = true) (hvv : verV v = true) (hv : Own1 w 0 w.heap.size v) (hyes : stepL n.ss v ≠ none) :
    Calls Tryz.prog 106 #[.pointer (some ⟨L, 0, none⟩), .agg (verC v.k v.t v.u v.a v.ts.length v.c v.s v.g)] w (AppliedC w base G xc us k v) := by
  obtain ⟨j0, hj0, hy0, hy1, hy2⟩ := info_parts ver_info
  have J0 := hide hj0
  have J1 := hide hy0
  have J2 := hide hy1
  have J3 := hide hy2
  clear hj0 hy0 hy1 hy2
  have hkl := (List.getElem?_eq_some_iff.1 hk).1
  obtain ⟨hs4, hw6, _⟩ := node_ts hnb
  obtain ⟨kn, hkn, hkn4⟩ : ∃ kn : Nat, v.k = (kn : Int) ∧ kn < 4 := by
    have := verV_key hvv
    exact ⟨v.k.toNat, by omega, by omega⟩
  have hvl : v.ts.length = 4 := pastB_len4 (verB_parts hvv).2.2.2
  obtain ⟨y, hy⟩ : ∃ y, n.ss[kn]? = some y := ⟨_, List.getElem?_eq_getElem (by omega)⟩
  obtain ⟨Gs, cu, hsa, hO⟩ : ∃ Gs cu, n.sa = some ⟨Gs, 0, none⟩ ∧ ORow w base w.heap.size Gs n.ss cu := by
    rcases hG.store k n hk with h0 | h
    · rw [h0] at hs4; simp at hs4
    · exact h
  have hcg : ∃ cur, Cg w G us cur := by
    obtain ⟨_, hR⟩ := hG.res
    rcases hR with h0 | ⟨G', cur, e, hR⟩
    · rw [h0] at hkl; simp at hkl
    · injection e with e
      injection e with e
      subst e
      exact ⟨cur, hR.cg⟩
  obtain ⟨cur, hcg⟩ := hcg
  obtain ⟨b1, b2, -, -, -, hL1, hL2, hL3⟩ := hL
  have S0 := (Inv.start w).box 96 (verC v.k v.t v.u v.a v.ts.length v.c v.s v.g)
  simp only [World.size_alloc] at S0
  have gs1 := hO.hi
  have gs0 := hO.lo
  have gin := hcg.blk.inside
  have lin := hL1.inside
  have hLs : L ≠ Gs := fun e => by subst e; exact absurd (blk_one hL1 hO.blk) (by decide)
  have h1s : b1 ≠ Gs := fun e => by subst e; exact absurd (blk_one hL2 hO.blk) (by decide)
  have h2s : b2 ≠ Gs := fun e => by subst e; exact absurd (blk_one hL3 hO.blk) (by decide)
  have hLG : L ≠ G := fun e => by subst e; exact absurd (blk_one hL1 hcg.blk) (by decide)
  have hne : G ≠ Gs := fun e => by subst e; exact absurd (blk_one hcg.blk hO.blk) (by decide)
  have HG := hide hG
  have HCG := hide hcg
  have HO := hide hO
  have HK := hide hk
  have HY := hide hy
  have HSA := hide hsa
  have HYES := hide hyes
  have HV := hide hv
  have HVL := hide hvl
  have HS4 := hide hs4.1
  have HL1 := hide hL1
  have HL2 := hide hL2
  have HL3 := hide hL3
  have CELL : Hid (∀ W, Below w.heap.size w W → W.cell? ⟨G, k * 2, none⟩ = some (.slice (some ⟨Gs, 0, none⟩) 4 n.sc)) := fun W hW => by
    have := ((HCG.out.on hW).blk.at (k * 2)).trans (HCG.out.at' k n HK.out).1
    rw [HSA.out, HS4.out] at this
    exact this
  have CELS : Hid (∀ W, Below w.heap.size w W → W.cell? ⟨Gs, kn * 6 + 1, none⟩ = some (.int .i64 y.t) ∧ W.cell? ⟨Gs, kn * 6 + 2, none⟩ = some (.int .i64 y.u)) := fun W hW => by
    have hr := HO.out.on hW
    exact ⟨(hr.blk.at _).trans (hr.at' kn y HY.out).2.1, (hr.blk.at _).trans (hr.at' kn y HY.out).2.2.1⟩
  obtain ⟨vk, vt, vu, va, vc, vts, vs, vg⟩ := v
  simp only at hkn S0 hvl hvv
  subst hkn
  have i1 : (0 : Int) ≤ (k : Int) := by omega
  have i2 : (k : Int) < (us.length : Int) := by omega
  have i3 : (0 : Int) ≤ (kn : Int) := by omega
  have i4 : (kn : Int) < 4 := by omega
  clear hG hk hcg hO hy hsa hyes hv hvl hs4 hnb hL1 hL2 hL3
  go_enter Tryz.func106, Tryz.ntmps106
  go_wp2_with fail
  generalize w.alloc (.cells (verC (kn : Int) vt vu va vts.length vc vs vg) 96) = W0 at S0 ⊢
  have jh : ∀ {W : World}, Inv w (w.heap.size + 1) [(w.heap.size, 96, (verC (kn : Int) vt vu va vts.length vc vs vg))] W → (W.cell? ⟨L, 0, none⟩ = some (.pointer (some ⟨G, k * 2, none⟩)) ∧ W.cell? ⟨G, k * 2, none⟩ = some (.slice (some ⟨Gs, 0, none⟩) 4 n.sc)) ∧ (W.cell? ⟨w.heap.size, 0, none⟩ = some (.int .i64 (kn : Int)) ∧ W.cell? ⟨w.heap.size, 1, none⟩ = some (.int .i64 vt) ∧ W.cell? ⟨w.heap.size, 2, none⟩ = some (.int .i64 vu)) ∧ (W.cell? ⟨Gs, kn * 6 + 1, none⟩ = some (.int .i64 y.t) ∧ W.cell? ⟨Gs, kn * 6 + 2, none⟩ = some (.int .i64 y.u)) ∧ Inv w (w.heap.size + 1) [(w.heap.size, 96, (verC (kn : Int) vt vu va vts.length vc vs vg))] W :=
    fun hI => ⟨⟨(HL1.out.on hI.below).at 0, CELL.out _ hI.below⟩, ⟨(hI.nth 0 rfl).at 0, (hI.nth 0 rfl).at 1, (hI.nth 0 rfl).at 2⟩, CELS.out _ hI.below, hI⟩
  refine wp_region_noPanic ?_
  refine wp_region_held_drew (S := (fun w' => (w'.cell? ⟨L, 0, none⟩ = some (.pointer (some ⟨G, k * 2, none⟩)) ∧ w'.cell? ⟨G, k * 2, none⟩ = some (.slice (some ⟨Gs, 0, none⟩) 4 n.sc)) ∧ (w'.cell? ⟨w.heap.size, 0, none⟩ = some (.int .i64 (kn : Int)) ∧ w'.cell? ⟨w.heap.size, 1, none⟩ = some (.int .i64 vt) ∧ w'.cell? ⟨w.heap.size, 2, none⟩ = some (.int .i64 vu)) ∧ (w'.cell? ⟨Gs, kn * 6 + 1, none⟩ = some (.int .i64 y.t) ∧ w'.cell? ⟨Gs, kn * 6 + 2, none⟩ = some (.int .i64 y.u)) ∧ Inv w (w.heap.size + 1) [(w.heap.size, 96, (verC (kn : Int) vt vu va vts.length vc vs vg))] w')) (by kernel_rfl) (by exact jh S0.drew) (fun hHeld => ?_)
  refine mvR 0 (some 4) hHeld ?_
  refine mvR 1 (some 5) hHeld ?_
  refine mvR 2 (some 6) hHeld ?_
  refine mvR 3 (some 7) hHeld ?_
  refine mvR 4 (some 8) hHeld ?_
  refine mvR 5 (some 9) hHeld ?_
  refine mvR 6 (some 10) hHeld ?_
  refine mvR 7 (some 11) hHeld ?_
  refine mvR 8 (some 12) hHeld ?_
  refine mvR 9 (some 13) hHeld ?_
  refine mvR 10 (some 14) hHeld ?_
  refine mvR 11 (some 15) hHeld ?_
  refine mvR 12 (some 16) hHeld ?_
  refine mvR 13 (some 17) hHeld ?_
  refine mvR 14 (some 18) hHeld ?_
  refine take_one 15 (by kernel_rfl) rfl (fun K hK => ?_)
  go_simp
  ((with_reducible refine (less_any y.t y.u vt vu _).mono ?_); rintro e w1 ⟨rfl, hb1⟩)
  try go_wp2_with fail
  refine hK.out _ _ (by exact jh (hHeld.2.2.2.on hb1)) (fun hHeld => ?_)
  clear hK K
  refine mvR 16 (some 20) hHeld ?_
  refine wpAnyH_done (by kernel_rfl) ?_ _
  refine NoPanic.normal ?_
  have I1 := hHeld.2.2.2
  clear hHeld S0
  have hless : lessB y.t y.u vt vu = true := by
    cases h : lessB y.t y.u vt vu with
    | true => rfl
    | false => exact absurd (stepL_no (v := ⟨(kn : Int), vt, vu, va, vc, vts, vs, vg⟩) rfl HY.out h) HYES.out
  have HST : Hid (stepL n.ss ⟨(kn : Int), vt, vu, va, vc, vts, vs, vg⟩ = some (n.ss.set kn ⟨(kn : Int), vt, vu, va, vc, vts, vs, vg⟩)) := stepL_yes rfl HY.out hless
  rw [hless]
  have BV := I1.nth 0 rfl
  have BL := HL1.out.on I1.below
  have BB1 := HL2.out.on I1.below
  have BB2 := HL3.out.on I1.below
  have BG := (HCG.out.on I1.below).blk
  have HG1 := hide ((HG.out.on I1.below).on (Below.refl _ _).drew)
  have HO1 : Hid (ORow w1.drew base w1.drew.heap.size Gs n.ss cu) := ((HO.out.on I1.below).wide I1.base).on (Below.refl _ _).drew
  have HV1 : Hid (Own1 w1.drew 0 w1.drew.heap.size ⟨(kn : Int), vt, vu, va, vc, vts, vs, vg⟩) := ((HV.out.on I1.below).wide I1.base).on (Below.refl _ _).drew
  have HT1 := hide ((Turn.below (P := TouchC w base) I1.below).trans (.below (Below.refl _ _).drew))
  have zb := I1.base
  have zr := I1.room
  have hc0 := CELL.out _ I1.below
  have HCUR : Hid (cur[k * 2]? = some (.slice (some ⟨Gs, 0, none⟩) 4 n.sc)) := (BG.at (k * 2)).symm.trans hc0
  have hvs : w.heap.size ≠ Gs := by omega
  have hkn4' : kn < n.ss.length := by have := HS4.out; omega
  have CP := hide (clone_any ⟨(kn : Int), vt, vu, va, vc, vts, vs, vg⟩ w1.drew (by have := HVL.out; simp only at this ⊢; omega) HV1.out.tg)
  have PO : Hid (∀ (w2 : World) (v2 : V), Below w1.drew.heap.size w1.drew w2 → Own1 w2 w1.drew.heap.size w2.heap.size v2 → ORow ((((((w2.setCell ⟨Gs, kn * 6, none⟩ (.int .i64 v2.k)).setCell ⟨Gs, kn * 6 + 1, none⟩ (.int .i64 v2.t)).setCell ⟨Gs, kn * 6 + 2, none⟩ (.int .i64 v2.u)).setCell ⟨Gs, kn * 6 + 3, none⟩ (.slice v2.a v2.ts.length v2.c)).setCell ⟨Gs, kn * 6 + 4, none⟩ (.string v2.s)).setCell ⟨Gs, kn * 6 + 5, none⟩ (.bool v2.g)) base w2.heap.size Gs (n.ss.set kn v2) (put6 cu kn v2) ∧ Turn (fun g => g = Gs) w2 ((((((w2.setCell ⟨Gs, kn * 6, none⟩ (.int .i64 v2.k)).setCell ⟨Gs, kn * 6 + 1, none⟩ (.int .i64 v2.t)).setCell ⟨Gs, kn * 6 + 2, none⟩ (.int .i64 v2.u)).setCell ⟨Gs, kn * 6 + 3, none⟩ (.slice v2.a v2.ts.length v2.c)).setCell ⟨Gs, kn * 6 + 4, none⟩ (.string v2.s)).setCell ⟨Gs, kn * 6 + 5, none⟩ (.bool v2.g))) := fun w2 v2 hb ho => put_own (w1 := w1.drew) (cur0 := cu) ((HO1.out.on hb).wide hb.size) hkn4' ho HO1.out
  clear hless jh I1
  go_wp2_with fail
  refine wp_region_noPanic ?_
  refine wp_region_held_drew (S := (fun w' => (w'.cell? ⟨L, 0, none⟩ = some (.pointer (some ⟨G, k * 2, none⟩)) ∧ w'.cell? ⟨G, k * 2, none⟩ = some (.slice (some ⟨Gs, 0, none⟩) 4 n.sc)) ∧ Six w' w.heap.size 0 ⟨(kn : Int), vt, vu, va, vc, vts, vs, vg⟩ ∧ (Blk w' L 124 #[.pointer (some ⟨G, k * 2, none⟩), .func (.func 104) #[] #[.pointer (some ⟨b1, 0, none⟩), .pointer (some ⟨b2, 0, none⟩)]] ∧ Blk w' b1 30 #[.slice (some ⟨G, 0, none⟩) us.length xc] ∧ Blk w' b2 3 #[.int .i64 (k : Int)] ∧ Blk w' w.heap.size 96 (verC (kn : Int) vt vu va vts.length vc vs vg) ∧ Blk w' G 90 cur))) (by kernel_rfl) (by exact ⟨⟨BL.drew.at 0, hc0⟩, BV.drew.six.1, BL.drew, BB1.drew, BB2.drew, BV.drew, BG.drew⟩) (fun hHeld => ?_)
  refine mvR 0 (some 21) hHeld ?_
  refine mvR 1 (some 22) hHeld ?_
  refine mvR 2 (some 23) hHeld ?_
  refine mvR 3 (some 24) hHeld ?_
  refine mvR 4 (some 25) hHeld ?_
  refine mvR 5 (some 26) hHeld ?_
  refine mvR 6 (some 27) hHeld ?_
  refine mvR 7 (some 28) hHeld ?_
  refine mvR 8 (some 29) hHeld ?_
  refine mvR 9 (some 30) hHeld ?_
  refine mvR 10 (some 31) hHeld ?_
  refine take_one 11 (by kernel_rfl) rfl (fun K hK => ?_)
  go_simp
  ((with_reducible refine CP.out.mono ?_); rintro e w2 ⟨v2, rfl, hlk, hov, hb2⟩; have HLK := hide hlk; have HOV := hide hov; have HB2 := hide hb2; have HP := hide (PO.out w2 v2 hb2 hov); have z2 : w1.heap.size ≤ w2.heap.size := hb2.size; have HR2 := hide (HO1.out.on hb2); obtain ⟨e0, e1, e2, e3, e4, e5⟩ := HR2.out.at' kn y HY.out; have d0 := (HR2.out.blk.at (kn * 6)).trans e0; have d1 := (HR2.out.blk.at (kn * 6 + 1)).trans e1; have d2 := (HR2.out.blk.at (kn * 6 + 2)).trans e2; have d3 := (HR2.out.blk.at (kn * 6 + 3)).trans e3; have d4 := (HR2.out.blk.at (kn * 6 + 4)).trans e4; have d5 := (HR2.out.blk.at (kn * 6 + 5)).trans e5; have f0 := HR2.out.blk.loose (kn * 6); have f1 := HR2.out.blk.loose (kn * 6 + 1); have f2 := HR2.out.blk.loose (kn * 6 + 2); have f3 := HR2.out.blk.loose (kn * 6 + 3); have f4 := HR2.out.blk.loose (kn * 6 + 4); have f5 := HR2.out.blk.loose (kn * 6 + 5); clear hlk hov)
  try go_wp2_with fail
  refine hK.out _ _ (by exact ⟨⟨(hHeld.2.2.1.on HB2.out).at 0, ((hHeld.2.2.2.2.2.2.on HB2.out).at (k * 2)).trans HCUR.out⟩, (hHeld.2.2.2.2.2.1.on HB2.out).six.1, hHeld.2.2.1.on HB2.out, hHeld.2.2.2.1.on HB2.out, hHeld.2.2.2.2.1.on HB2.out, hHeld.2.2.2.2.2.1.on HB2.out, hHeld.2.2.2.2.2.2.on HB2.out⟩) (fun hHeld => ?_)
  clear hK K
  refine mvR 12 (some 33) hHeld ?_
  refine take_one 13 (by kernel_rfl) rfl (fun K hK => ?_)
  go_simp
  refine hK.out _ _ (by exact ⟨⟨(hHeld.2.2.1.turned HP.out.2 hLs).at 0, ((hHeld.2.2.2.2.2.2.turned HP.out.2 hne).at (k * 2)).trans HCUR.out⟩, (hHeld.2.2.2.2.2.1.turned HP.out.2 hvs).six.1, hHeld.2.2.1.turned HP.out.2 hLs, hHeld.2.2.2.1.turned HP.out.2 h1s, hHeld.2.2.2.2.1.turned HP.out.2 h2s, hHeld.2.2.2.2.2.1.turned HP.out.2 hvs, hHeld.2.2.2.2.2.2.turned HP.out.2 hne⟩) (fun hHeld => ?_)
  clear hK K
  refine wpAnyH_done (by kernel_rfl) ?_ _
  refine NoPanic.normal ?_
  obtain ⟨-, -, BL', BB1', BB2', BV', BG'⟩ := hHeld
  have HTT := hide ((Turn.below (P := fun g => g = Gs) HB2.out).trans HP.out.2)
  have HOVx := hide ((HOV.out.turned HP.out.2 (fun g hg hb _ _ e => by have q5 : w1.heap.size ≤ g := hb; have e' : g = Gs := e; omega)).wide HP.out.2.size)
  have HG9 := hide (HG1.out.setStore (v' := v2) (cur' := put6 cu kn v2) (kn := kn) HK.out HSA.out (by intro e; have := HS4.out; rw [e] at this; simp at this) HOVx.out (HP.out.1.wide HP.out.2.size) HTT.out)
  have HV9 := hide (HV1.out.turned HTT.out (fun g hg _ _ hn e => by
    have e' : g = Gs := e
    subst e'
    rcases HV1.out with q | ⟨g', _, e1, _, _, q3, _⟩
    · exact hn q
    · simp only at e1 hg
      rw [hg] at e1
      injection e1 with e1
      injection e1 with e1
      subst e1
      exact absurd (blk_one q3 HO1.out.blk) (by decide)))
  have HT9 := hide (HT1.out.trans (HTT.out.mono (fun g e => by have e' : g = Gs := e; subst e'; exact ⟨gs0, _, .inl HO.out.blk⟩)))
  have z9 : w1.heap.size ≤ ((((((w2.setCell ⟨Gs, kn * 6, none⟩ (.int .i64 v2.k)).setCell ⟨Gs, kn * 6 + 1, none⟩ (.int .i64 v2.t)).setCell ⟨Gs, kn * 6 + 2, none⟩ (.int .i64 v2.u)).setCell ⟨Gs, kn * 6 + 3, none⟩ (.slice v2.a v2.ts.length v2.c)).setCell ⟨Gs, kn * 6 + 4, none⟩ (.string v2.s)).setCell ⟨Gs, kn * 6 + 5, none⟩ (.bool v2.g)).heap.size := HTT.out.size
  clear d0 d1 d2 d3 d4 d5 f0 f1 f2 f3 f4 f5 e0 e1 e2 e3 e4 e5 BV BL BB1 BB2 BG hc0 CP PO HOVx HR2
  generalize ((((((w2.setCell ⟨Gs, kn * 6, none⟩ (.int .i64 v2.k)).setCell ⟨Gs, kn * 6 + 1, none⟩ (.int .i64 v2.t)).setCell ⟨Gs, kn * 6 + 2, none⟩ (.int .i64 v2.u)).setCell ⟨Gs, kn * 6 + 3, none⟩ (.slice v2.a v2.ts.length v2.c)).setCell ⟨Gs, kn * 6 + 4, none⟩ (.string v2.s)).setCell ⟨Gs, kn * 6 + 5, none⟩ (.bool v2.g)) = W9 at BL' BB1' BB2' BV' BG' HG9 HV9 HT9 HTT HP z9 ⊢
  have CT := hide (next_any G us.length xc k b1 b2 W9 (by omega) (by omega) BB1' BB2')
  have q0 := BL'.two.1
  have q1 : W9.cell? ⟨L, 1, none⟩ = some (.func (.func 104) #[] #[.pointer (some ⟨b1, 0, none⟩), .pointer (some ⟨b2, 0, none⟩)]) := BL'.at 1
  go_wp2_with fail
  with_reducible refine CT.out.mono ?_
  rintro e w4 ⟨hE, hb4⟩
  have HE := hide hE
  have HB4 := hide hb4
  have BL4 := BL'.on hb4
  have BV4 := BV'.on hb4
  have N6 := hide (BG'.on hb4)
  have HG6 := hide (HG9.out.on hb4)
  have HT6 := hide (HT9.out.trans (.below hb4))
  have HV6 := hide ((HV9.out.on hb4).wide (Nat.le_trans z9 hb4.size))
  have z4 := hb4.size
  clear hE hb4 CT q0 q1 BL' BB1' BB2' BV' BG'
  by_cases hlt : k + 1 < us.length
  · have hq := HE.out
    rw [if_pos hlt] at hq
    obtain ⟨L', rfl, hL'⟩ := hq
    clear hL' HE
    have HADD : Hid (addN us k ⟨(kn : Int), vt, vu, va, vc, vts, vs, vg⟩ = us.set k ⟨n.sa, n.sc, n.ss.set kn ⟨(kn : Int), vt, vu, va, vc, vts, vs, vg⟩, n.wa, n.wc, n.ws ++ [⟨(kn : Int), vt, vu, va, vc, vts, vs, vg⟩]⟩) := by
      unfold Hid
      rw [addN_at HK.out, decide_eq_false (by omega)]
      unfold addNd
      rw [HST.out]
      rfl
    obtain ⟨n1, hn1⟩ : ∃ n1 : Nd, n1 = ⟨n.sa, n.sc, n.ss.set kn v2, n.wa, n.wc, n.ws⟩ := ⟨_, rfl⟩
    have HN1' := hide hn1
    rw [← hn1] at HG6
    have HEW : Hid (n1.wa = n.wa ∧ n1.wc = n.wc ∧ n1.ws = n.ws) := ⟨by rw [hn1], by rw [hn1], by rw [hn1]⟩
    clear hn1
    have HK1 : Hid ((us.set k n1)[k]? = some n1) := List.getElem?_set_self hkl
    have HG7 : Hid (GRow base w4.drew (.slice (some ⟨G, 0, none⟩) (us.set k n1).length xc) (us.set k n1)) := by
      unfold Hid
      rw [List.length_set]
      exact HG6.out.on (Below.refl _ _).drew
    have HTW := hide (HG.out.own k n HK.out).typed
    have HCU2 : Hid (cur[k * 2 + 1]? = some (.slice n.wa n.ws.length n.wc)) := (HCG.out.at' k n HK.out).2
    have q1 : w4.drew.cell? ⟨G, k * 2 + 1, none⟩ = some (.slice n.wa n.ws.length n.wc) := (N6.out.drew.at _).trans HCU2.out
    have hw6' : n.ws.length ≤ 6 := hw6
    have CP := hide (clone_any ⟨(kn : Int), vt, vu, va, vc, vts, vs, vg⟩ w4.drew (by have := HVL.out; simp only at this ⊢; omega) (HV6.out.on (Below.refl _ _).drew).tg)
    have hb6 : base ≤ w4.heap.size := HG6.out.lo
    go_wp2_with fail
    refine wp_region_noPanic ?_
    refine wp_region_held_drew (S := (fun w' => w'.cell? ⟨L, 0, none⟩ = some (.pointer (some ⟨G, k * 2, none⟩)) ∧ Six w' w.heap.size 0 ⟨(kn : Int), vt, vu, va, vc, vts, vs, vg⟩ ∧ (Blk w' L 124 #[.pointer (some ⟨G, k * 2, none⟩), .func (.func 104) #[] #[.pointer (some ⟨b1, 0, none⟩), .pointer (some ⟨b2, 0, none⟩)]] ∧ Blk w' w.heap.size 96 (verC (kn : Int) vt vu va vts.length vc vs vg)))) (by kernel_rfl) (by exact ⟨BL4.drew.at 0, BV4.drew.six.1, BL4.drew, BV4.drew⟩) (fun hHeld => ?_)
    refine mvR 0 (some 40) hHeld ?_
    refine mvR 1 (some 41) hHeld ?_
    refine mvR 2 (some 42) hHeld ?_
    refine mvR 3 (some 43) hHeld ?_
    refine mvR 4 (some 44) hHeld ?_
    refine mvR 5 (some 45) hHeld ?_
    refine mvR 6 (some 46) hHeld ?_
    refine mvR 7 (some 47) hHeld ?_
    refine mvR 8 (some 48) hHeld ?_
    refine mvR 9 (some 49) hHeld ?_
    refine mvR 11 (some 51) hHeld ?_
    refine wpAnyH_ready (rs := [10, 12]) (by kernel_rfl) (by simp) ?_
    refine AllReadyH.cons rfl (fun K hK => ?_) (AllReadyH.cons rfl (fun K hK => ?_) AllReadyH.nil)
    · skip
      go_simp
      refine hK.out _ _ (by exact hHeld) (fun hHeld => ?_)
      clear hK K
      refine take_one 12 (by kernel_rfl) rfl (fun K hK => ?_)
      go_simp
      ((with_reducible refine CP.out.mono ?_); rintro e w7 ⟨v3, rfl, hlk2, hov2, hb7⟩; have HL2' := hide hlk2; have HO2 := hide hov2; have HB7 := hide hb7; have N7 := N6.out.drew.on hb7; have q2 : w7.cell? ⟨G, k * 2 + 1, none⟩ = some (.slice n.wa n.ws.length n.wc) := (N7.at _).trans HCU2.out; have q4 : (w7.alloc (.cells (verC v3.k v3.t v3.u v3.a v3.ts.length v3.c v3.s v3.g) 96)).cell? ⟨G, k * 2 + 1, none⟩ = some (.slice n.wa n.ws.length n.wc) := ((N7.more _).at _).trans HCU2.out; have z7 : w4.heap.size ≤ w7.heap.size := (by have := hb7.size; simpa using this); have HR := hide (show w7.ownsRow base 96 6 (.slice n.wa n.ws.length n.wc) n.ws.length (flat6 n.ws) by have := ((HG7.out.on hb7).own k n1 HK1.out).row; rw [HEW.out.1, HEW.out.2.1, HEW.out.2.2] at this; exact this); clear hlk2 hov2)
      try go_wp2_with fail
      refine hK.out _ _ (by exact ⟨(hHeld.2.2.1.on HB7.out).at 0, (hHeld.2.2.2.on HB7.out).six.1, hHeld.2.2.1.on HB7.out, hHeld.2.2.2.on HB7.out⟩) (fun hHeld => ?_)
      clear hK K
      refine take_one 13 (by kernel_rfl) rfl (fun K hK => ?_)
      go_simp
      refine hK.out _ _ (by exact ⟨(hHeld.2.2.1.more _).at 0, (hHeld.2.2.2.more _).six.1, hHeld.2.2.1.more _, hHeld.2.2.2.more _⟩) (fun hHeld => ?_)
      clear hK K
      refine take_one 14 (by kernel_rfl) rfl (fun K hK => ?_)
      (refine step_append_lies _ (by rfl) _ _ _ (by rfl) base 96 j0 _ 6 72 Tryz.underlying33 J0.out J1.out J2.out J3.out rfl (by omega) (.slice n.wa n.ws.length n.wc) n.ws.length (flat6 n.ws) (by rfl) (HR.out.alloc _) ⟨w7.heap.size, 0, none⟩ 1 1 (cells6 v3) (by rfl) (by rfl) (World.news_of_block (cs := verC v3.k v3.t v3.u v3.a v3.ts.length v3.c v3.s v3.g) (t := 96) (fr := (0, 0)) (heap_alloc_new w7 _)) (by simp [cells6, Value.oneCell']) (by omega) (by unfold maxLen; omega) (by omega) (by simp; omega) _ rfl ?_; intro g cap w8 hown2 hgrow hat hlt2; have N8 := (N7.more (.cells (verC v3.k v3.t v3.u v3.a v3.ts.length v3.c v3.s v3.g) 96)).kept hgrow (by intro e; obtain ⟨cs, b1, b2, b3⟩ := HTW.out _ e; exact absurd (blk_one b1 HCG.out.blk) (by decide)); have q5 : w8.cell? ⟨G, k * 2 + 1, none⟩ = some (.slice n.wa n.ws.length n.wc) := (N8.at _).trans HCU2.out; have f5 := N8.loose (k * 2 + 1); have OW := hide hown2; have GW := hide hgrow; have HAT := hide hat; clear hown2 hat)
      simp only [List.getElem_toArray, List.getElem_cons_zero, List.getElem_cons_succ, Act.put, List.setIfInBounds_toArray, List.set_cons_zero, List.set_cons_succ]
      refine hK.out _ _ (by exact ⟨(hHeld.2.2.1.kept hgrow (by intro e; obtain ⟨cs, b1, b2, b3⟩ := HTW.out _ e; exact absurd (blk_one b1 HL1.out) (by decide))).at 0, (hHeld.2.2.2.kept hgrow (by intro e; obtain ⟨cs, b1, b2, b3⟩ := HTW.out _ e; omega)).six.1, hHeld.2.2.1.kept hgrow (by intro e; obtain ⟨cs, b1, b2, b3⟩ := HTW.out _ e; exact absurd (blk_one b1 HL1.out) (by decide)), hHeld.2.2.2.kept hgrow (by intro e; obtain ⟨cs, b1, b2, b3⟩ := HTW.out _ e; omega)⟩) (fun hHeld => ?_)
      clear hK K
      refine mvR 15 (some 55) hHeld ?_
      refine mvR 16 (some 56) hHeld ?_
      refine take_one 17 (by kernel_rfl) rfl (fun K hK => ?_)
      go_simp
      refine hK.out _ _ (by exact ⟨(hHeld.2.2.1.aside (by show L ≠ G; exact hLG) _).at 0, (hHeld.2.2.2.aside (by show w.heap.size ≠ G; omega) _).six.1, hHeld.2.2.1.aside (by show L ≠ G; exact hLG) _, hHeld.2.2.2.aside (by show w.heap.size ≠ G; omega) _⟩) (fun hHeld => ?_)
      clear hK K
      refine wpAnyH_done (by kernel_rfl) ?_ _
      refine NoPanic.normal ?_
      have HE := HEW.out
      have GG := HG7.out.setWait (v' := v3) (g := g) (cap := cap) (w2 := w8) (w1 := w7.alloc (.cells (verC v3.k v3.t v3.u v3.a v3.ts.length v3.c v3.s v3.g) 96)) HK1.out (HB7.out.trans ((below_alloc1 w7 _).mono HB7.out.size)) ((HO2.out.on (below_alloc1 w7 _)).wide (by simp)) (by rw [HE.2.2]; exact OW.out) (by rw [HE.1, HE.2.1, HE.2.2]; exact GW.out) (by rw [HE.1, HE.2.1, HE.2.2]; rcases HAT.out with q | q; exact .inl q; exact .inr (by rw [q]; have e : w4.drew.heap.size = w4.heap.size := rfl; simp only [World.size_alloc]; omega))
      rw [HE.2.2, List.length_set, List.set_set] at GG
      have HGG := hide GG
      have HT99 := hide (((HT6.out.trans ((Turn.below (P := TouchC w base) (Below.refl _ _).drew).trans (.below (HB7.out.trans ((below_alloc1 w7 _).mono HB7.out.size))))).trans (.of GW.out (fun g' e => by obtain ⟨cs, b1, b2, b3⟩ := HTW.out _ e; exact ⟨b2, cs, .inl b1⟩))).set (p := ⟨G, k * 2 + 1, none⟩) (by obtain ⟨cs, b1, b2, _⟩ := HG.out.typed G rfl; exact ⟨b2, cs, .inr b1⟩) (.slice (some ⟨g, 0, none⟩) (n.ws.length + 1) cap))
      clear GG N7 N8 q1 q2 q4 q5 f5 HE hHeld
      generalize w8.setCell ⟨G, k * 2 + 1, none⟩ (.slice (some ⟨g, 0, none⟩) (n.ws.length + 1) cap) = W10 at HGG HT99 ⊢
      go_wp2
      refine bodyPost_ret (v := .tuple #[]) (by simp [results, Tryz.results106, go_sem]) rfl ?_
      refine ⟨_, rfl, ?_, HGG.out, HT99.out⟩
      rw [HADD.out, HN1'.out]
      exact nl_set (nl_refl us) ⟨(ll_set (ll_refl n.ss) HLK.out kn).1, (ll_set (ll_refl n.ss) HLK.out kn).2, (ll_snoc (ll_refl n.ws) HL2'.out).1, (ll_snoc (ll_refl n.ws) HL2'.out).2⟩
    · skip
      go_simp
      ((with_reducible refine CP.out.mono ?_); rintro e w7 ⟨v3, rfl, hlk2, hov2, hb7⟩; have HL2' := hide hlk2; have HO2 := hide hov2; have HB7 := hide hb7; have N7 := N6.out.drew.on hb7; have q2 : w7.cell? ⟨G, k * 2 + 1, none⟩ = some (.slice n.wa n.ws.length n.wc) := (N7.at _).trans HCU2.out; have q4 : (w7.alloc (.cells (verC v3.k v3.t v3.u v3.a v3.ts.length v3.c v3.s v3.g) 96)).cell? ⟨G, k * 2 + 1, none⟩ = some (.slice n.wa n.ws.length n.wc) := ((N7.more _).at _).trans HCU2.out; have z7 : w4.heap.size ≤ w7.heap.size := (by have := hb7.size; simpa using this); have HR := hide (show w7.ownsRow base 96 6 (.slice n.wa n.ws.length n.wc) n.ws.length (flat6 n.ws) by have := ((HG7.out.on hb7).own k n1 HK1.out).row; rw [HEW.out.1, HEW.out.2.1, HEW.out.2.2] at this; exact this); clear hlk2 hov2)
      try go_wp2_with fail
      refine hK.out _ _ (by exact ⟨(hHeld.2.2.1.on HB7.out).at 0, (hHeld.2.2.2.on HB7.out).six.1, hHeld.2.2.1.on HB7.out, hHeld.2.2.2.on HB7.out⟩) (fun hHeld => ?_)
      clear hK K
      refine wpAnyH_ready (rs := [10, 13]) (by kernel_rfl) (by simp) ?_
      refine AllReadyH.cons rfl (fun K hK => ?_) (AllReadyH.cons rfl (fun K hK => ?_) AllReadyH.nil)
      · skip
        go_simp
        refine hK.out _ _ (by exact hHeld) (fun hHeld => ?_)
        clear hK K
        refine take_one 13 (by kernel_rfl) rfl (fun K hK => ?_)
        go_simp
        refine hK.out _ _ (by exact ⟨(hHeld.2.2.1.more _).at 0, (hHeld.2.2.2.more _).six.1, hHeld.2.2.1.more _, hHeld.2.2.2.more _⟩) (fun hHeld => ?_)
        clear hK K
        refine take_one 14 (by kernel_rfl) rfl (fun K hK => ?_)
        (refine step_append_lies _ (by rfl) _ _ _ (by rfl) base 96 j0 _ 6 72 Tryz.underlying33 J0.out J1.out J2.out J3.out rfl (by omega) (.slice n.wa n.ws.length n.wc) n.ws.length (flat6 n.ws) (by rfl) (HR.out.alloc _) ⟨w7.heap.size, 0, none⟩ 1 1 (cells6 v3) (by rfl) (by rfl) (World.news_of_block (cs := verC v3.k v3.t v3.u v3.a v3.ts.length v3.c v3.s v3.g) (t := 96) (fr := (0, 0)) (heap_alloc_new w7 _)) (by simp [cells6, Value.oneCell']) (by omega) (by unfold maxLen; omega) (by omega) (by simp; omega) _ rfl ?_; intro g cap w8 hown2 hgrow hat hlt2; have N8 := (N7.more (.cells (verC v3.k v3.t v3.u v3.a v3.ts.length v3.c v3.s v3.g) 96)).kept hgrow (by intro e; obtain ⟨cs, b1, b2, b3⟩ := HTW.out _ e; exact absurd (blk_one b1 HCG.out.blk) (by decide)); have q5 : w8.cell? ⟨G, k * 2 + 1, none⟩ = some (.slice n.wa n.ws.length n.wc) := (N8.at _).trans HCU2.out; have f5 := N8.loose (k * 2 + 1); have OW := hide hown2; have GW := hide hgrow; have HAT := hide hat; clear hown2 hat)
        simp only [List.getElem_toArray, List.getElem_cons_zero, List.getElem_cons_succ, Act.put, List.setIfInBounds_toArray, List.set_cons_zero, List.set_cons_succ]
        refine hK.out _ _ (by exact ⟨(hHeld.2.2.1.kept hgrow (by intro e; obtain ⟨cs, b1, b2, b3⟩ := HTW.out _ e; exact absurd (blk_one b1 HL1.out) (by decide))).at 0, (hHeld.2.2.2.kept hgrow (by intro e; obtain ⟨cs, b1, b2, b3⟩ := HTW.out _ e; omega)).six.1, hHeld.2.2.1.kept hgrow (by intro e; obtain ⟨cs, b1, b2, b3⟩ := HTW.out _ e; exact absurd (blk_one b1 HL1.out) (by decide)), hHeld.2.2.2.kept hgrow (by intro e; obtain ⟨cs, b1, b2, b3⟩ := HTW.out _ e; omega)⟩) (fun hHeld => ?_)
        clear hK K
        refine mvR 15 (some 55) hHeld ?_
        refine mvR 16 (some 56) hHeld ?_
        refine take_one 17 (by kernel_rfl) rfl (fun K hK => ?_)
        go_simp
        refine hK.out _ _ (by exact ⟨(hHeld.2.2.1.aside (by show L ≠ G; exact hLG) _).at 0, (hHeld.2.2.2.aside (by show w.heap.size ≠ G; omega) _).six.1, hHeld.2.2.1.aside (by show L ≠ G; exact hLG) _, hHeld.2.2.2.aside (by show w.heap.size ≠ G; omega) _⟩) (fun hHeld => ?_)
        clear hK K
        refine wpAnyH_done (by kernel_rfl) ?_ _
        refine NoPanic.normal ?_
        have HE := HEW.out
        have GG := HG7.out.setWait (v' := v3) (g := g) (cap := cap) (w2 := w8) (w1 := w7.alloc (.cells (verC v3.k v3.t v3.u v3.a v3.ts.length v3.c v3.s v3.g) 96)) HK1.out (HB7.out.trans ((below_alloc1 w7 _).mono HB7.out.size)) ((HO2.out.on (below_alloc1 w7 _)).wide (by simp)) (by rw [HE.2.2]; exact OW.out) (by rw [HE.1, HE.2.1, HE.2.2]; exact GW.out) (by rw [HE.1, HE.2.1, HE.2.2]; rcases HAT.out with q | q; exact .inl q; exact .inr (by rw [q]; have e : w4.drew.heap.size = w4.heap.size := rfl; simp only [World.size_alloc]; omega))
        rw [HE.2.2, List.length_set, List.set_set] at GG
        have HGG := hide GG
        have HT99 := hide (((HT6.out.trans ((Turn.below (P := TouchC w base) (Below.refl _ _).drew).trans (.below (HB7.out.trans ((below_alloc1 w7 _).mono HB7.out.size))))).trans (.of GW.out (fun g' e => by obtain ⟨cs, b1, b2, b3⟩ := HTW.out _ e; exact ⟨b2, cs, .inl b1⟩))).set (p := ⟨G, k * 2 + 1, none⟩) (by obtain ⟨cs, b1, b2, _⟩ := HG.out.typed G rfl; exact ⟨b2, cs, .inr b1⟩) (.slice (some ⟨g, 0, none⟩) (n.ws.length + 1) cap))
        clear GG N7 N8 q1 q2 q4 q5 f5 HE hHeld
        generalize w8.setCell ⟨G, k * 2 + 1, none⟩ (.slice (some ⟨g, 0, none⟩) (n.ws.length + 1) cap) = W10 at HGG HT99 ⊢
        go_wp2
        refine bodyPost_ret (v := .tuple #[]) (by simp [results, Tryz.results106, go_sem]) rfl ?_
        refine ⟨_, rfl, ?_, HGG.out, HT99.out⟩
        rw [HADD.out, HN1'.out]
        exact nl_set (nl_refl us) ⟨(ll_set (ll_refl n.ss) HLK.out kn).1, (ll_set (ll_refl n.ss) HLK.out kn).2, (ll_snoc (ll_refl n.ws) HL2'.out).1, (ll_snoc (ll_refl n.ws) HL2'.out).2⟩
      · skip
        go_simp
        refine hK.out _ _ (by exact ⟨(hHeld.2.2.1.more _).at 0, (hHeld.2.2.2.more _).six.1, hHeld.2.2.1.more _, hHeld.2.2.2.more _⟩) (fun hHeld => ?_)
        clear hK K
        refine take_one 10 (by kernel_rfl) rfl (fun K hK => ?_)
        go_simp
        refine hK.out _ _ (by exact hHeld) (fun hHeld => ?_)
        clear hK K
        refine take_one 14 (by kernel_rfl) rfl (fun K hK => ?_)
        (refine step_append_lies _ (by rfl) _ _ _ (by rfl) base 96 j0 _ 6 72 Tryz.underlying33 J0.out J1.out J2.out J3.out rfl (by omega) (.slice n.wa n.ws.length n.wc) n.ws.length (flat6 n.ws) (by rfl) (HR.out.alloc _) ⟨w7.heap.size, 0, none⟩ 1 1 (cells6 v3) (by rfl) (by rfl) (World.news_of_block (cs := verC v3.k v3.t v3.u v3.a v3.ts.length v3.c v3.s v3.g) (t := 96) (fr := (0, 0)) (heap_alloc_new w7 _)) (by simp [cells6, Value.oneCell']) (by omega) (by unfold maxLen; omega) (by omega) (by simp; omega) _ rfl ?_; intro g cap w8 hown2 hgrow hat hlt2; have N8 := (N7.more (.cells (verC v3.k v3.t v3.u v3.a v3.ts.length v3.c v3.s v3.g) 96)).kept hgrow (by intro e; obtain ⟨cs, b1, b2, b3⟩ := HTW.out _ e; exact absurd (blk_one b1 HCG.out.blk) (by decide)); have q5 : w8.cell? ⟨G, k * 2 + 1, none⟩ = some (.slice n.wa n.ws.length n.wc) := (N8.at _).trans HCU2.out; have f5 := N8.loose (k * 2 + 1); have OW := hide hown2; have GW := hide hgrow; have HAT := hide hat; clear hown2 hat)
        simp only [List.getElem_toArray, List.getElem_cons_zero, List.getElem_cons_succ, Act.put, List.setIfInBounds_toArray, List.set_cons_zero, List.set_cons_succ]
        refine hK.out _ _ (by exact ⟨(hHeld.2.2.1.kept hgrow (by intro e; obtain ⟨cs, b1, b2, b3⟩ := HTW.out _ e; exact absurd (blk_one b1 HL1.out) (by decide))).at 0, (hHeld.2.2.2.kept hgrow (by intro e; obtain ⟨cs, b1, b2, b3⟩ := HTW.out _ e; omega)).six.1, hHeld.2.2.1.kept hgrow (by intro e; obtain ⟨cs, b1, b2, b3⟩ := HTW.out _ e; exact absurd (blk_one b1 HL1.out) (by decide)), hHeld.2.2.2.kept hgrow (by intro e; obtain ⟨cs, b1, b2, b3⟩ := HTW.out _ e; omega)⟩) (fun hHeld => ?_)
        clear hK K
        refine mvR 15 (some 55) hHeld ?_
        refine mvR 16 (some 56) hHeld ?_
        refine take_one 17 (by kernel_rfl) rfl (fun K hK => ?_)
        go_simp
        refine hK.out _ _ (by exact ⟨(hHeld.2.2.1.aside (by show L ≠ G; exact hLG) _).at 0, (hHeld.2.2.2.aside (by show w.heap.size ≠ G; omega) _).six.1, hHeld.2.2.1.aside (by show L ≠ G; exact hLG) _, hHeld.2.2.2.aside (by show w.heap.size ≠ G; omega) _⟩) (fun hHeld => ?_)
        clear hK K
        refine wpAnyH_done (by kernel_rfl) ?_ _
        refine NoPanic.normal ?_
        have HE := HEW.out
        have GG := HG7.out.setWait (v' := v3) (g := g) (cap := cap) (w2 := w8) (w1 := w7.alloc (.cells (verC v3.k v3.t v3.u v3.a v3.ts.length v3.c v3.s v3.g) 96)) HK1.out (HB7.out.trans ((below_alloc1 w7 _).mono HB7.out.size)) ((HO2.out.on (below_alloc1 w7 _)).wide (by simp)) (by rw [HE.2.2]; exact OW.out) (by rw [HE.1, HE.2.1, HE.2.2]; exact GW.out) (by rw [HE.1, HE.2.1, HE.2.2]; rcases HAT.out with q | q; exact .inl q; exact .inr (by rw [q]; have e : w4.drew.heap.size = w4.heap.size := rfl; simp only [World.size_alloc]; omega))
        rw [HE.2.2, List.length_set, List.set_set] at GG
        have HGG := hide GG
        have HT99 := hide (((HT6.out.trans ((Turn.below (P := TouchC w base) (Below.refl _ _).drew).trans (.below (HB7.out.trans ((below_alloc1 w7 _).mono HB7.out.size))))).trans (.of GW.out (fun g' e => by obtain ⟨cs, b1, b2, b3⟩ := HTW.out _ e; exact ⟨b2, cs, .inl b1⟩))).set (p := ⟨G, k * 2 + 1, none⟩) (by obtain ⟨cs, b1, b2, _⟩ := HG.out.typed G rfl; exact ⟨b2, cs, .inr b1⟩) (.slice (some ⟨g, 0, none⟩) (n.ws.length + 1) cap))
        clear GG N7 N8 q1 q2 q4 q5 f5 HE hHeld
        generalize w8.setCell ⟨G, k * 2 + 1, none⟩ (.slice (some ⟨g, 0, none⟩) (n.ws.length + 1) cap) = W10 at HGG HT99 ⊢
        go_wp2
        refine bodyPost_ret (v := .tuple #[]) (by simp [results, Tryz.results106, go_sem]) rfl ?_
        refine ⟨_, rfl, ?_, HGG.out, HT99.out⟩
        rw [HADD.out, HN1'.out]
        exact nl_set (nl_refl us) ⟨(ll_set (ll_refl n.ss) HLK.out kn).1, (ll_set (ll_refl n.ss) HLK.out kn).2, (ll_snoc (ll_refl n.ws) HL2'.out).1, (ll_snoc (ll_refl n.ws) HL2'.out).2⟩
  · have hq := HE.out
    rw [if_neg hlt] at hq
    subst hq
    have HADD : Hid (addN us k ⟨(kn : Int), vt, vu, va, vc, vts, vs, vg⟩ = us.set k ⟨n.sa, n.sc, n.ss.set kn ⟨(kn : Int), vt, vu, va, vc, vts, vs, vg⟩, n.wa, n.wc, n.ws⟩) := by
      unfold Hid
      rw [addN_at HK.out, decide_eq_true (by omega)]
      unfold addNd
      rw [HST.out]
      rfl
    clear HE hlt
    go_wp2
    refine bodyPost_ret (v := .tuple #[]) (by simp [results, Tryz.results106, go_sem]) rfl ?_
    refine ⟨_, rfl, ?_, HG6.out, HT6.out⟩
    rw [HADD.out]
    exact nl_set (nl_refl us) ⟨(ll_set (ll_refl n.ss) HLK.out kn).1, (ll_set (ll_refl n.ss) HLK.out kn).2, rfl, like_refl _⟩
end Go.Proofs.YtnaggcdhimcilaaGreat
/- Contract of the program's ChainPut. Condition: sizes that memory holds. -/
namespace Go.Proofs.YtnaggcdhimcilaaGreat
open Go.RowKit Go.Joins
attribute [local go_sem ↓] Go.wp_at_zero Go.wp_at_succ

theorem apply_any (B L base G xc k : Nat) (us : List Nd) (n : Nd) (v : V) (w : World) (hG : GRow base w (.slice (some ⟨G, 0, none⟩) us.length xc) us) (hL : LinkAt w B L (some ⟨G, 0, none⟩) G us.length xc k) (hk : us[k]? = some n) (hl : us.length ≤ 4) (hnb : nodeB n = true) (hvv : verV v = true) (hv : Own1 w 0 w.heap.size v) :
    Calls Tryz.prog 106 #[.pointer (some ⟨L, 0, none⟩), .agg (verC v.k v.t v.u v.a v.ts.length v.c v.s v.g)] w (AppliedC w base G xc us k v) := by
  by_cases h : stepL n.ss v = none
  · exact apply_not B L base G xc k us n v w hG hL hk hnb hvv h
  · exact apply_yes B L base G xc k us n v w hG hL hk hl hnb hvv hv h
theorem touch_no {w : World} {base g : Nat} {T : TypeId} {cs : Array Value} (hb : Blk w g T cs) (h1 : T ≠ 96) (h2 : T ≠ 90) : ¬ TouchC w base g := by
  rintro ⟨_, cs', h | h⟩
  · exact h1 (blk_one hb h)
  · exact h2 (blk_one hb h)
end Go.Proofs.YtnaggcdhimcilaaGreat
/- Contract of the model's ChainPut. Condition: sizes that memory holds. -/
namespace Go.Proofs.YtnaggcdhimcilaaGreat
open Go.RowKit Go.Joins
attribute [local go_sem ↓] Go.wp_at_zero Go.wp_at_succ

theorem ResN.set {w : World} {B U : Nat} {A : Option Addr} {us : List Nd} (h : ResN w B U A us) {p : Addr} (hp : p.block < B ∨ U ≤ p.block) (u : Value) : ResN (w.setCell p u) B U A us :=
  h.turn (P := fun g => g = p.block) ((Turn.refl (fun g => g = p.block) w).set (p := p) rfl u) (fun g h1 h2 e => by omega)
theorem ResN.swap {w : World} {B U : Nat} {A : Option Addr} {us : List Nd} {o o' : Obj} (h : ResN (w.alloc o) B U A us) (hU : U ≤ w.heap.size) : ResN (w.alloc o') B U A us := by
  have ht : Turn (fun g => g = w.heap.size) (w.alloc o) (w.alloc o') := ⟨rfl, rfl, rfl, by simp, fun k hk hn => by
    have hk' : k < w.heap.size := by simp at hk; omega
    rw [Below.heap_alloc w o' k hk', Below.heap_alloc w o k hk']⟩
  exact h.turn ht (fun g h1 h2 e => by omega)
theorem NRow.low {w : World} {B B' U G : Nat} {ns : List Nd} {cur : Array Value} (h : NRow w B U G ns cur) (hb : B' ≤ B) : NRow w B' U G ns cur :=
  ⟨h.blk, Nat.le_trans hb h.lo, h.hi, h.size, h.at', fun i n hi => (h.store i n hi).low hb, fun i n hi => (h.wait i n hi).low hb, h.two, h.apart⟩
theorem cloned_at {W w' : World} {ns : List Nd} {e : Ending} (h : ClonedC W ns e w') (hok : chainB ns = true) : ∃ (G xc : Nat) (us : List Nd), e = .returned (.agg #[.slice (some ⟨G, 0, none⟩) us.length xc]) ∧ NL us ns ∧ us.length ≤ 4 ∧ (∀ (i : Nat) n, us[i]? = some n → nodeB n = true) ∧ 1 ≤ us.length ∧ GRow W.heap.size w' (.slice (some ⟨G, 0, none⟩) us.length xc) us ∧ Below W.heap.size W w' := by
  obtain ⟨x, us, rfl, hul, hgr, hb⟩ := h
  obtain ⟨xa, xc, rfl⟩ := hgr.form
  have hcu : chainB us = true := (chainB_like hul).trans hok
  obtain ⟨⟨h1, h4⟩, hB, -⟩ := chainB_parts hcu
  obtain ⟨_, hR⟩ := hgr.res
  rcases hR with h0 | ⟨G, cur, rfl, hR⟩
  · rw [h0] at h1; simp at h1
  exact ⟨G, xc, us, rfl, hul, h4, hB, h1, hgr, hb⟩
end Go.Proofs.YtnaggcdhimcilaaGreat
/- What ChainPass answers, said plainly; what waits at a node replaced, in memory. No condition. -/
namespace Go.Proofs.YtnaggcdhimcilaaGreat
open Go.RowKit Go.Joins

/-- A node without the first that waits there. -/
def tailNd (n : Nd) : Nd := ⟨n.sa, n.sc, n.ss, n.wa, n.wc, n.ws.tail⟩
/-- Whether a node can pass something on. -/
def canB (ns : List Nd) (k : Nat) : Bool := match ns[k]?, ns[k + 1]? with | some n, some m => decide (0 < n.ws.length) && decide (m.ws.length < 6) | _, _ => false
/-- The first that waits at a node comes to the next one. -/
def goN (ns : List Nd) (k : Nat) : List Nd := match ns[k]? with | some n => (match n.ws with | v :: _ => addN (ns.set k (tailNd n)) (k + 1) v | [] => ns) | none => ns
/-- What ChainPass answers. -/
def passN (ns : List Nd) (k : Int) : List Nd := if chainB ns = true then (if 0 ≤ k ∧ canB ns k.toNat = true then goN ns k.toNat else ns) else []
def passK (ns : List Nd) (k : Int) : Bool := chainB ns && (decide (0 ≤ k) && canB ns k.toNat)
theorem passN_no {ns : List Nd} {k : Int} (h : chainB ns = false) : passN ns k = [] ∧ passK ns k = false := by unfold passN passK; rw [h]; exact ⟨rfl, rfl⟩
theorem passN_not {ns : List Nd} {k : Int} (h : chainB ns = true) (hc : ¬ (0 ≤ k ∧ canB ns k.toNat = true)) : passN ns k = ns ∧ passK ns k = false := by
  refine ⟨by unfold passN; rw [if_pos h, if_neg hc], ?_⟩
  unfold passK
  rw [h, Bool.true_and]
  by_cases h0 : 0 ≤ k
  · cases hb : canB ns k.toNat
    · simp
    · exact absurd ⟨h0, hb⟩ hc
  · rw [decide_eq_false h0]; rfl
theorem passN_yes {ns : List Nd} {k : Int} (h : chainB ns = true) (h0 : 0 ≤ k) (hc : canB ns k.toNat = true) : passN ns k = goN ns k.toNat ∧ passK ns k = true := by
  refine ⟨by unfold passN; rw [if_pos h, if_pos ⟨h0, hc⟩], ?_⟩
  unfold passK
  rw [h, hc, decide_eq_true h0]
  rfl
theorem canB_at {ns : List Nd} {k : Nat} {n m : Nd} (hk : ns[k]? = some n) (hm : ns[k + 1]? = some m) : canB ns k = (decide (0 < n.ws.length) && decide (m.ws.length < 6)) := by unfold canB; rw [hk, hm]
theorem canB_end {ns : List Nd} {k : Nat} (h : ns.length ≤ k + 1) : canB ns k = false := by
  unfold canB
  rw [List.getElem?_eq_none (i := k + 1) h]
  cases ns[k]? <;> rfl
theorem goN_at {ns : List Nd} {k : Nat} {n : Nd} {v : V} {r : List V} (hk : ns[k]? = some n) (hw : n.ws = v :: r) : goN ns k = addN (ns.set k (tailNd n)) (k + 1) v := by
  unfold goN
  rw [hk]
  simp only [hw]
theorem addN_set {us : List Nd} {j k : Nat} {v : V} {n : Nd} (h : k ≠ j) : (addN us j v).set k n = addN (us.set k n) j v := by
  unfold addN
  rw [List.getElem?_set_ne h, List.length_set]
  cases us[j]? with
  | none => rfl
  | some m => exact List.set_comm _ _ (fun e => h e.symm)
theorem ll_tail {us vs : List V} (h : LL us vs) : LL us.tail vs.tail := by
  refine ⟨by simp [h.1], fun i x y hx hy => ?_⟩
  rw [List.getElem?_tail] at hx hy
  exact h.2 (i + 1) x y hx hy
theorem tailNd_like {n m : Nd} (h : Nd.like n m) : Nd.like (tailNd n) (tailNd m) := by
  have := ll_tail (us := n.ws) (vs := m.ws) ⟨h.2.2.1, h.2.2.2⟩
  exact ⟨h.1, h.2.1, this.1, this.2⟩
theorem canB_like {us ns : List Nd} (h : NL us ns) (k : Nat) : canB us k = canB ns k := by
  unfold canB
  cases hx : us[k]? with
  | none => rw [nl_none h hx]
  | some n =>
    obtain ⟨m, hm, hl⟩ := nl_at h hx
    rw [hm]
    cases hy : us[k + 1]? with
    | none => rw [nl_none h hy]
    | some n' =>
      obtain ⟨m', hm', hl'⟩ := nl_at h hy
      rw [hm']
      simp only [hl.2.2.1, hl'.2.2.1]
theorem goN_like {us ns : List Nd} (h : NL us ns) (k : Nat) : NL (goN us k) (goN ns k) := by
  cases hx : us[k]? with
  | none =>
    have h1 : goN us k = us := by unfold goN; rw [hx]
    have h2 : goN ns k = ns := by unfold goN; rw [nl_none h hx]
    rw [h1, h2]
    exact h
  | some n =>
    obtain ⟨m, hm, hl⟩ := nl_at h hx
    cases hw : n.ws with
    | nil =>
      have hw' : m.ws = [] := by
        have := hl.2.2.1
        rw [hw] at this
        exact List.length_eq_zero_iff.1 this.symm
      have h1 : goN us k = us := by unfold goN; rw [hx]; simp only [hw]
      have h2 : goN ns k = ns := by unfold goN; rw [hm]; simp only [hw']
      rw [h1, h2]
      exact h
    | cons v r =>
      obtain ⟨u, s, hw'⟩ : ∃ u s, m.ws = u :: s := by
        cases hq : m.ws with
        | nil => have := hl.2.2.1; rw [hw, hq] at this; simp at this
        | cons u s => exact ⟨u, s, rfl⟩
      rw [goN_at hx hw, goN_at hm hw']
      exact addN_like (nl_set h (tailNd_like hl)) (hl.2.2.2 0 v u (by rw [hw]; rfl) (by rw [hw']; rfl)) (k + 1)
theorem passN_like {us ns : List Nd} (h : NL us ns) (k : Int) : NL (passN us k) (passN ns k) ∧ passK us k = passK ns k := by
  refine ⟨?_, by unfold passK; rw [chainB_like h, canB_like h]⟩
  unfold passN
  rw [chainB_like h, canB_like h]
  split
  · split
    · exact goN_like h _
    · exact h
  · exact ⟨rfl, fun i x y hx => by simp at hx⟩
theorem tailNd_ok {n : Nd} (h : nodeB n = true) : nodeB (tailNd n) = true := by
  obtain ⟨h1, h2, h3⟩ := nodeB_parts h
  refine nodeB_mk h1 (by simp [tailNd]; omega) (fun i v hv => h3 v (List.mem_of_mem_tail (List.mem_of_getElem? hv)))
theorem fine_set {ns : List Nd} {k : Nat} {n : Nd} (h : FineN ns) (hn : nodeB n = true) : FineN (ns.set k n) := by
  refine ⟨by rw [List.length_set]; exact h.1, fun i y hy => ?_⟩
  have hx := List.mem_of_getElem? hy
  rcases List.mem_or_eq_of_mem_set hx with hx | rfl
  · obtain ⟨j, hj⟩ := List.getElem?_of_mem hx
    exact h.2 j y hj
  · exact hn
theorem goN_fine {ns : List Nd} {k : Nat} (h : FineN ns) (hc : canB ns k = true) : FineN (goN ns k) := by
  cases hx : ns[k]? with
  | none => unfold goN; rw [hx]; exact h
  | some n =>
    cases hw : n.ws with
    | nil => unfold goN; rw [hx]; simp only [hw]; exact h
    | cons v r =>
      rw [goN_at hx hw]
      obtain ⟨h1, h2, h3⟩ := nodeB_parts (h.2 k n hx)
      refine addN_fine (fine_set h (tailNd_ok (h.2 k n hx))) (h3 v (by rw [hw]; exact List.mem_cons_self)) (fun m hm => ?_)
      rw [List.getElem?_set_ne (by omega)] at hm
      rw [canB_at hx hm, Bool.and_eq_true, decide_eq_true_eq, decide_eq_true_eq] at hc
      exact .inr hc.2
theorem passN_fine (ns : List Nd) (k : Int) : FineN (passN ns k) := by
  unfold passN
  split
  · rename_i hc
    obtain ⟨⟨h1, h4⟩, hB, _⟩ := chainB_parts hc
    split
    · rename_i hr
      exact goN_fine ⟨h4, hB⟩ hr.2
    · exact ⟨h4, hB⟩
  · exact ⟨by simp, fun i n hi => by simp at hi⟩
theorem Vg.tail {w : World} {B b off : Nat} {v : V} {r : List V} (h : Vg w B (some ⟨b, off, none⟩) (v :: r)) : Vg w B (some ⟨b, off + 6, none⟩) r := by
  rcases h with h | ⟨b', off', e, hb, hx⟩
  · cases h
  · injection e with e
    injection e with e1 e2
    subst e1 e2
    refine .inr ⟨b, off + 6, rfl, hb, fun i x hi => ?_⟩
    have := hx (i + 1) x (by simpa using hi)
    rw [show off + (i + 1) * 6 = off + 6 + i * 6 by omega] at this
    exact this
theorem CRow.footLo {base : Nat} {w : World} {A : Option Addr} {c : Nat} {us : List V} {sa : Option Addr} {sc : Nat} {ss : List V} {g : Nat} (h : CRow base w (.slice A us.length c) us) (hg : FootW ⟨sa, sc, ss, A, c, us⟩ g) : base ≤ g := by
  rcases hg with hf | e
  · obtain ⟨A', cap', e', hR⟩ := h.resS
    injection e' with e'
    subst e'
    obtain ⟨_, _, _, _, q, _⟩ := hR.typed hf
    exact q
  · obtain ⟨_, _, q, _⟩ := h.typed g e
    exact q
/-- What waits at a node is another row now: one of new blocks, or of what was the node's own. -/
theorem GRow.newWait {base : Nat} {wr w1 : World} {G xc k cap : Nat} {A : Option Addr} {us : List Nd} {n : Nd} {ws : List V} (h : GRow base wr (.slice (some ⟨G, 0, none⟩) us.length xc) us) (hk : us[k]? = some n) (hb : Below wr.heap.size wr w1)
    (hc : CRow base w1 (.slice A ws.length cap) ws) (hf : ∀ y, FootW ⟨n.sa, n.sc, n.ss, A, cap, ws⟩ y → FootW n y ∨ wr.heap.size ≤ y) :
    GRow base (w1.setCell ⟨G, k * 2 + 1, none⟩ (.slice A ws.length cap)) (.slice (some ⟨G, 0, none⟩) us.length xc) (us.set k ⟨n.sa, n.sc, n.ss, A, cap, ws⟩) := by
  have hT := (Turn.below (P := fun y => y = G) hb).set (p := ⟨G, k * 2 + 1, none⟩) rfl (.slice A ws.length cap)
  refine h.set hk hT ?_ ?_ ?_ (fun y h1 h2 => ?_) (fun y e => .inr (by rw [e]; rfl)) (fun y hy => ?_)
  · rw [flatN_set2 hk (u := .slice A ws.length cap) (by simp [cellsN])]
    refine ⟨by rw [List.length_set]; exact h.row.1, ?_⟩
    rcases h.row.2 with ⟨q, _⟩ | ⟨G', cap', cr, h1, h2, h3, h4, h5, h6, h7⟩
    · cases q
    · injection h1 with h1 _ h1'
      injection h1 with h1
      injection h1 with h1
      subst h1 h1'
      have B2 : Blk w1 G 90 cr := (show Blk wr G 90 cr from h3).on hb
      refine .inr ⟨G, xc, _, rfl, h2, B2.put (k * 2 + 1) _, h4, h5, by simpa using h6, ?_⟩
      rw [Array.toList_setIfInBounds, List.take_set, h7]
  · exact ((h.store k n hk).turnF hT (fun y hf hp => by
      obtain ⟨T, cs, b1, b2, _⟩ := (h.store k n hk).typed hf
      obtain ⟨cs', b3, _⟩ := h.typed G rfl
      subst hp
      exact b2 (blk_one b1 b3))).wide hT.size
  · exact hc.turnedT (P := fun y => y = G) ((Turn.refl (fun y => y = G) w1).set (p := ⟨G, k * 2 + 1, none⟩) rfl _) (fun y e => by
      obtain ⟨cs', b3, _⟩ := h.typed G rfl
      subst e
      exact ⟨_, cs', b3.on hb, node_ne_ver, node_ne_tag⟩)
  · rcases hf y h2 with q | q
    · exact h.two k n hk y h1 q
    · have := h.foot hk (g := y) (.inl h1)
      omega
  · rcases hy with hy | hy
    · exact .inl (.inl hy)
    · rcases hf y hy with q | q
      · exact .inl (.inr q)
      · exact .inr q
/-- A row without its first, laid anew: the causes stay where they are. -/
theorem CRow.tail {base : Nat} {wr w1 : World} {A : Option Addr} {m c : Nat} {x : Value} {v : V} {r : List V} (h : CRow base wr (.slice A m c) (v :: r)) (hb : Below wr.heap.size wr w1) (hrow : w1.ownsRow base 96 6 x r.length (flat6 r)) : CRow base w1 x r :=
  ⟨hrow, fun i y hi => ((h.own (i + 1) y (by simpa using hi)).on hb).wide hb.size, fun i j y y' hne hi hj => h.apart (i + 1) (j + 1) y y' (by omega) (by simpa using hi) (by simpa using hj), Nat.le_trans h.lo hb.size⟩
theorem CRow.tailFoot {base : Nat} {wr : World} {n : Nd} {g cap : Nat} {v : V} {r : List V} (h : CRow base wr (.slice n.wa n.ws.length n.wc) n.ws) (hw : n.ws = v :: r) (hg : wr.heap.size ≤ g) : ∀ y, FootW ⟨n.sa, n.sc, n.ss, some ⟨g, 0, none⟩, cap, r⟩ y → FootW n y ∨ wr.heap.size ≤ y := fun y hy => by
  rcases hy with ⟨_, G', e, hf⟩ | e
  · injection e with e
    injection e with e
    subst e
    rcases hf with rfl | ⟨i, z, hi, hn, ha⟩
    · exact .inr hg
    · exact .inl (.inl (h.tagFoot (i := i + 1) (by rw [hw]; simpa using hi) hn ha))
  · simp only [Value.ownBlock] at e
    injection e with e
    subst e
    exact .inr hg
/-- What turns after a step that only adds. -/
theorem Turn.touch {w w1 w2 : World} {base : Nat} (hb : Below w.heap.size w w1) (ht : Turn (TouchC w1 base) w1 w2) : Turn (TouchC w base) w w2 := by
  refine ⟨ht.os.trans hb.os, ht.tape.trans hb.tape, ht.output.trans hb.output, Nat.le_trans hb.size ht.size, fun k hk hn => (ht.block k (Nat.lt_of_lt_of_le hk hb.size) (fun q => hn ?_)).trans (hb.block k hk)⟩
  obtain ⟨q1, cs, q2⟩ := q
  refine ⟨q1, cs, ?_⟩
  rcases q2 with q2 | q2
  · exact .inl ((hb.block k hk).symm.trans q2)
  · exact .inr ((hb.block k hk).symm.trans q2)
end Go.Proofs.YtnaggcdhimcilaaGreat
