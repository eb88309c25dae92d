/- Contracts of the model's l3Add and l3Pass: what turns is the chain's own, and the new chain lies in the old one's blocks or in new ones. Condition: at most four nodes, of valid form. -/
import Derived.Test.YtnaggcdhimcilaaGreatJChainPass4
import Derived.Test.YtnaggcdhimcilaaGreatJNoteStep
import Derived.Test.YtnaggcdhimcilaaGreatJPlaceCopy3
namespace Go.Proofs.YtnaggcdhimcilaaGreat
open Go.RowKit Go.Joins
attribute [local go_sem ↓] Go.wp_at_zero Go.wp_at_succ

/-- The blocks of a chain of the caller's own. -/
abbrev FootGr (G xc : Nat) (us : List Nd) (y : Nat) : Prop := FootK (.slice (some ⟨G, 0, none⟩) us.length xc) us y
def AddedF (w : World) (base G xc : Nat) (us : List Nd) (k : Nat) (v : V) (e : Ending) (w' : World) : Prop :=
  ∃ us' : List Nd, e = .returned (.agg #[.slice (some ⟨G, 0, none⟩) us.length xc]) ∧ NL us' (addN us k v) ∧ GRow base w' (.slice (some ⟨G, 0, none⟩) us.length xc) us' ∧ Turn (TouchC w base) w w' ∧ Turn (FootGr G xc us) w w' ∧ ∀ y, FootGr G xc us' y → FootGr G xc us y ∨ w.heap.size ≤ y
theorem footS_put {A : Option Addr} {us : List V} {kn z y : Nat} {v' : V} (hv : ∀ y, v'.ts ≠ [] → v'.a = some ⟨y, 0, none⟩ → z ≤ y) (h : FootS A (us.set kn v') y) : FootS A us y ∨ z ≤ y := by
  obtain ⟨hne, G, e, hf⟩ := h
  have h0 : us ≠ [] := fun q => hne (by rw [q]; rfl)
  rcases hf with hf | ⟨i, x, hi, hn, ha⟩
  · exact .inl ⟨h0, G, e, .inl hf⟩
  · by_cases q : i = kn
    · subst q
      have hl := (List.getElem?_eq_some_iff.1 hi).1
      rw [List.length_set] at hl
      rw [List.getElem?_set_self hl] at hi
      injection hi with hi
      subst hi
      exact .inr (hv y hn ha)
    · rw [List.getElem?_set_ne (fun q' => q q'.symm)] at hi
      exact .inl ⟨h0, G, e, .inr ⟨i, x, hi, hn, ha⟩⟩
theorem footGr_set {G xc k z : Nat} {us : List Nd} {n n' : Nd} (hk : us[k]? = some n) (hf : ∀ y, FootO n' y → FootO n y ∨ z ≤ y) : ∀ y, FootGr G xc (us.set k n') y → FootGr G xc us y ∨ z ≤ y := fun y hy => by
  rcases hy with e | ⟨i, x, hi, hx⟩
  · exact .inl (.inl e)
  · by_cases q : i = k
    · subst q
      have hl := (List.getElem?_eq_some_iff.1 hi).1
      rw [List.length_set] at hl
      rw [List.getElem?_set_self hl] at hi
      injection hi with hi
      subst hi
      exact (hf y hx).elim (fun h => .inl (.inr ⟨i, n, hk, h⟩)) .inr
    · rw [List.getElem?_set_ne (fun q' => q q'.symm)] at hi
      exact .inl (.inr ⟨i, x, hi, hx⟩)
theorem Turn.then {P Q : Nat → Prop} {w w1 w2 : World} (h : Turn P w w1) (k : Turn Q w1 w2) (hq : ∀ g, g < w.heap.size → Q g → P g) : Turn P w w2 :=
  ⟨k.os.trans h.os, k.tape.trans h.tape, k.output.trans h.output, Nat.le_trans h.size k.size, fun i hi hn => (k.block i (Nat.lt_of_lt_of_le hi h.size) (fun q => hn (hq i hi q))).trans (h.block i hi hn)⟩
set_option maxRecDepth 100000 in
set_option maxHeartbeats 4000000 in
theorem l3AddF_sh (base G xc k : Nat) (us : List Nd) (n : Nd) (v : V) (w : World) (hG : GRow base w (.slice (some ⟨G, 0, none⟩) us.length xc) us) (hk : us[k]? = some n) (hl : us.length ≤ 4) (hs4 : n.ss.length = 4) (hw6 : n.ws.length ≤ 6) (hsv : shV v) (hv : Own1 w 0 w.heap.size v) :
    Calls Tryz.prog 59 #[.agg #[.slice (some ⟨G, 0, none⟩) us.length xc], .int .i64 (k : Int), .agg (verC v.k v.t v.u v.a v.ts.length v.c v.s v.g)] w (AddedF w base G xc us k v) := by
  obtain ⟨j0, hj0, hy0, hy1, hy2⟩ := info_parts ver_info
  have J0 := hide hj0
  have J1 := hide hy0
  have J2 := hide hy1
  have J3 := hide hy2
  clear hj0 hy0 hy1 hy2
  have hkl := (List.getElem?_eq_some_iff.1 hk).1
  obtain ⟨kn, hkn, hkn4⟩ : ∃ kn : Nat, v.k = (kn : Int) ∧ kn < 4 := by
    have := hsv.1
    exact ⟨v.k.toNat, by omega, by omega⟩
  have hvl : v.ts.length = 4 := hsv.2
  obtain ⟨y, hy⟩ : ∃ y, n.ss[kn]? = some y := ⟨_, List.getElem?_eq_getElem (by omega)⟩
  obtain ⟨Gs, cu, hsa, hO⟩ : ∃ Gs cu, n.sa = some ⟨Gs, 0, none⟩ ∧ ORow w base w.heap.size Gs n.ss cu := by
    rcases hG.store k n hk with h0 | h
    · rw [h0] at hs4; simp at hs4
    · exact h
  have hcg : ∃ cur, Cg w G us cur := by
    obtain ⟨_, hR⟩ := hG.res
    rcases hR with h0 | ⟨G', cur, e, hR⟩
    · rw [h0] at hkl; simp at hkl
    · injection e with e
      injection e with e
      subst e
      exact ⟨cur, hR.cg⟩
  obtain ⟨cur, hcg⟩ := hcg
  have S0 := (((Inv.start w).box 32 #[.slice (some ⟨G, 0, none⟩) us.length xc]).box 96 (verC v.k v.t v.u v.a v.ts.length v.c v.s v.g)).box 32 #[.slice none 0 0]
  simp only [World.size_alloc] at S0
  have gs1 := hO.hi
  have gs0 := hO.lo
  have gin := hcg.blk.inside
  have HG := hide hG
  have HCG := hide hcg
  have HO := hide hO
  have HK := hide hk
  have HY := hide hy
  have HSA := hide hsa
  have HV := hide hv
  have HVL := hide hvl
  have HS4 := hide hs4
  have CELL : Hid (∀ W, Below w.heap.size w W → W.cell? ⟨G, k * 2, none⟩ = some (.slice (some ⟨Gs, 0, none⟩) 4 n.sc)) := fun W hW => by
    have := ((HCG.out.on hW).blk.at (k * 2)).trans (HCG.out.at' k n HK.out).1
    rw [HSA.out, HS4.out] at this
    exact this
  have CELS : Hid (∀ W, Below w.heap.size w W → W.cell? ⟨Gs, kn * 6 + 1, none⟩ = some (.int .i64 y.t) ∧ W.cell? ⟨Gs, kn * 6 + 2, none⟩ = some (.int .i64 y.u)) := fun W hW => by
    have hr := HO.out.on hW
    exact ⟨(hr.blk.at _).trans (hr.at' kn y HY.out).2.1, (hr.blk.at _).trans (hr.at' kn y HY.out).2.2.1⟩
  obtain ⟨vk, vt, vu, va, vc, vts, vs, vg⟩ := v
  simp only at hkn S0 hvl
  subst hkn
  have i1 : (0 : Int) ≤ (k : Int) := by omega
  have i2 : (k : Int) < (us.length : Int) := by omega
  have i3 : (0 : Int) ≤ (kn : Int) := by omega
  have i4 : (kn : Int) < 4 := by omega
  clear hG hk hcg hO hy hsa hv hvl hs4 hsv
  go_enter Tryz.func59, Tryz.ntmps59
  go_wp2_with fail
  generalize ((w.alloc (.cells #[.slice (some ⟨G, 0, none⟩) us.length xc] 32)).alloc (.cells (verC (kn : Int) vt vu va vts.length vc vs vg) 96)).alloc (.cells #[.slice none 0 0] 32) = W0 at S0 ⊢
  have jh : ∀ {W : World}, Inv w (w.heap.size + 1 + 1 + 1) [(w.heap.size + 1 + 1, 32, #[.slice none 0 0]), (w.heap.size + 1, 96, (verC (kn : Int) vt vu va vts.length vc vs vg)), (w.heap.size, 32, #[.slice (some ⟨G, 0, none⟩) us.length xc])] W → (W.cell? ⟨w.heap.size, 0, none⟩ = some (.slice (some ⟨G, 0, none⟩) us.length xc) ∧ W.cell? ⟨G, k * 2, none⟩ = some (.slice (some ⟨Gs, 0, none⟩) 4 n.sc)) ∧ (W.cell? ⟨w.heap.size + 1, 0, none⟩ = some (.int .i64 (kn : Int)) ∧ W.cell? ⟨w.heap.size + 1, 1, none⟩ = some (.int .i64 vt) ∧ W.cell? ⟨w.heap.size + 1, 2, none⟩ = some (.int .i64 vu)) ∧ (W.cell? ⟨Gs, kn * 6 + 1, none⟩ = some (.int .i64 y.t) ∧ W.cell? ⟨Gs, kn * 6 + 2, none⟩ = some (.int .i64 y.u)) ∧ Inv w (w.heap.size + 1 + 1 + 1) [(w.heap.size + 1 + 1, 32, #[.slice none 0 0]), (w.heap.size + 1, 96, (verC (kn : Int) vt vu va vts.length vc vs vg)), (w.heap.size, 32, #[.slice (some ⟨G, 0, none⟩) us.length xc])] W :=
    fun hI => ⟨⟨(hI.nth 2 rfl).at 0, CELL.out _ hI.below⟩, ⟨(hI.nth 1 rfl).at 0, (hI.nth 1 rfl).at 1, (hI.nth 1 rfl).at 2⟩, CELS.out _ hI.below, hI⟩
  refine wp_region_noPanic ?_
  refine wp_region_held_drew (S := (fun w' => (w'.cell? ⟨w.heap.size, 0, none⟩ = some (.slice (some ⟨G, 0, none⟩) us.length xc) ∧ w'.cell? ⟨G, k * 2, none⟩ = some (.slice (some ⟨Gs, 0, none⟩) 4 n.sc)) ∧ (w'.cell? ⟨w.heap.size + 1, 0, none⟩ = some (.int .i64 (kn : Int)) ∧ w'.cell? ⟨w.heap.size + 1, 1, none⟩ = some (.int .i64 vt) ∧ w'.cell? ⟨w.heap.size + 1, 2, none⟩ = some (.int .i64 vu)) ∧ (w'.cell? ⟨Gs, kn * 6 + 1, none⟩ = some (.int .i64 y.t) ∧ w'.cell? ⟨Gs, kn * 6 + 2, none⟩ = some (.int .i64 y.u)) ∧ Inv w (w.heap.size + 1 + 1 + 1) [(w.heap.size + 1 + 1, 32, #[.slice none 0 0]), (w.heap.size + 1, 96, (verC (kn : Int) vt vu va vts.length vc vs vg)), (w.heap.size, 32, #[.slice (some ⟨G, 0, none⟩) us.length xc])] w')) (by kernel_rfl) (by exact jh S0.drew) (fun hHeld => ?_)
  refine mvR 0 (some 7) hHeld ?_
  refine mvR 1 (some 8) hHeld ?_
  refine mvR 2 (some 9) hHeld ?_
  refine mvR 3 (some 10) hHeld ?_
  refine mvR 4 (some 11) hHeld ?_
  refine mvR 5 (some 12) hHeld ?_
  refine mvR 6 (some 13) hHeld ?_
  refine mvR 7 (some 14) hHeld ?_
  refine mvR 8 (some 15) hHeld ?_
  refine mvR 9 (some 16) hHeld ?_
  refine mvR 10 (some 17) hHeld ?_
  refine mvR 11 (some 18) hHeld ?_
  refine mvR 12 (some 19) hHeld ?_
  refine mvR 13 (some 20) hHeld ?_
  refine take_one 14 (by kernel_rfl) rfl (fun K hK => ?_)
  go_simp
  ((with_reducible refine (l1Less_any y.t y.u vt vu _).mono ?_); rintro e w1 ⟨rfl, hb1⟩)
  try go_wp2_with fail
  refine hK.out _ _ (by exact jh (hHeld.2.2.2.on hb1)) (fun hHeld => ?_)
  clear hK K
  refine mvR 15 (some 22) hHeld ?_
  refine wpAnyH_done (by kernel_rfl) ?_ _
  refine NoPanic.normal ?_
  have I1 := hHeld.2.2.2
  clear hHeld S0
  have q3 := (I1.nth 2 rfl).one.1
  have q6 := (I1.nth 0 rfl).one
  cases hless : lessB y.t y.u vt vu
  · have HNO := hide (addN_not (v := ⟨(kn : Int), vt, vu, va, vc, vts, vs, vg⟩) HK.out (stepL_no rfl HY.out hless))
    clear hless jh
    go_wp2
    refine bodyPost_ret (v := .agg #[.slice (some ⟨G, 0, none⟩) us.length xc]) (by simp [results, Tryz.results59, go_sem, q6]) rfl ?_
    exact ⟨us, rfl, by rw [HNO.out]; exact nl_refl us, (HG.out.on I1.below).asideT (p := ⟨w.heap.size + 1 + 1, 0, none⟩) (I1.nth 0 rfl) _, (Turn.below I1.below).far (by simp only; omega) _, (Turn.below I1.below).far (by simp only; omega) _, fun y hy => .inl hy⟩
  · have HLS := hide hless
    have HST : Hid (stepL n.ss ⟨(kn : Int), vt, vu, va, vc, vts, vs, vg⟩ = some (n.ss.set kn ⟨(kn : Int), vt, vu, va, vc, vts, vs, vg⟩)) := stepL_yes rfl HY.out hless
    have B3 := I1.nth 2 rfl
    have B5 := I1.nth 1 rfl
    have B6 := I1.nth 0 rfl
    have HG1 := hide (HG.out.on I1.below)
    have HO1 := hide ((HO.out.on I1.below).wide I1.base)
    have HN1 := hide ((HCG.out.on I1.below).blk)
    have HV1 := hide ((HV.out.on I1.below).wide I1.base)
    have HT1 := hide (Turn.below (P := TouchC w base) I1.below)
    have HU1 := hide (Turn.below (P := FootGr G xc us) I1.below)
    have HGs : Hid (FootGr G xc us Gs) := .inr ⟨k, n, HK.out, .inl ⟨by intro e; have := HS4.out; rw [e] at this; simp at this, Gs, HSA.out, .inl rfl⟩⟩
    have zb := I1.base
    have hne : G ≠ Gs := fun e => by
      subst e
      exact absurd (blk_one HN1.out HO1.out.blk) (by decide)
    have hc0 := CELL.out _ I1.below
    have HCUR : Hid (cur[k * 2]? = some (.slice (some ⟨Gs, 0, none⟩) 4 n.sc)) := (HN1.out.at (k * 2)).symm.trans hc0
    have HA := hide (l2Add_less base w1.heap.size Gs n.sc n.ss cu ⟨(kn : Int), vt, vu, va, vc, vts, vs, vg⟩ y kn w1.drew (HO1.out.on (Below.refl _ _).drew) (Nat.le_refl _) HS4.out rfl hkn4 (by have := HVL.out; simp only at this ⊢; omega) (HV1.out.on (Below.refl _ _).drew).tg HY.out HLS.out)
    clear hless jh I1 q3 q6
    go_wp2_with fail
    refine wp_region_noPanic ?_
    refine wp_region_held_drew (S := (fun w' => (w'.cell? ⟨w.heap.size, 0, none⟩ = some (.slice (some ⟨G, 0, none⟩) us.length xc) ∧ w'.cell? ⟨G, k * 2, none⟩ = some (.slice (some ⟨Gs, 0, none⟩) 4 n.sc)) ∧ Six w' (w.heap.size + 1) 0 ⟨(kn : Int), vt, vu, va, vc, vts, vs, vg⟩ ∧ (Blk w' w.heap.size 32 #[.slice (some ⟨G, 0, none⟩) us.length xc] ∧ Blk w' (w.heap.size + 1) 96 (verC (kn : Int) vt vu va vts.length vc vs vg) ∧ Blk w' (w.heap.size + 1 + 1) 32 #[.slice none 0 0]))) (by kernel_rfl) (by exact ⟨⟨B3.drew.at 0, hc0⟩, B5.drew.six.1, B3.drew, B5.drew, B6.drew⟩) (fun hHeld => ?_)
    refine mvR 0 (some 24) hHeld ?_
    refine mvR 1 (some 25) hHeld ?_
    refine mvR 2 (some 26) hHeld ?_
    refine mvR 3 (some 27) hHeld ?_
    refine mvR 4 (some 28) hHeld ?_
    refine mvR 5 (some 29) hHeld ?_
    refine mvR 6 (some 30) hHeld ?_
    refine mvR 7 (some 31) hHeld ?_
    refine mvR 8 (some 32) hHeld ?_
    refine mvR 9 (some 33) hHeld ?_
    refine take_one 10 (by kernel_rfl) rfl (fun K hK => ?_)
    go_simp
    ((with_reducible refine HA.out.mono ?_); rintro e w5 ⟨v', cur', rfl, hlk, hov, hor, hT5⟩; have HLK := hide hlk; have HOV := hide hov; have HOR := hide hor; have HT5 := hide hT5; have N5 := (HN1.out.drew).turned hT5 (fun e => hne e); have d5 := (N5.at (k * 2)).trans HCUR.out; have f5 := N5.loose (k * 2); have BS := hide (below_same N5 HCUR.out); have z5 : w1.heap.size ≤ w5.heap.size := (by have := hT5.size; simpa using this); clear hlk hov hor)
    try go_wp2_with fail
    refine hK.out _ _ (by exact ⟨⟨(hHeld.2.2.1.turned HT5.out (fun e => by have e' : w.heap.size = Gs := e; omega)).at 0, d5⟩, (hHeld.2.2.2.1.turned HT5.out (fun e => by have e' : w.heap.size + 1 = Gs := e; omega)).six.1, hHeld.2.2.1.turned HT5.out (fun e => by have e' : w.heap.size = Gs := e; omega), hHeld.2.2.2.1.turned HT5.out (fun e => by have e' : w.heap.size + 1 = Gs := e; omega), hHeld.2.2.2.2.turned HT5.out (fun e => by have e' : w.heap.size + 1 + 1 = Gs := e; omega)⟩) (fun hHeld => ?_)
    clear hK K
    refine mvR 11 (some 35) hHeld ?_
    refine mvR 12 (some 36) hHeld ?_
    refine take_one 13 (by kernel_rfl) rfl (fun K hK => ?_)
    go_simp
    refine hK.out _ _ (by exact ⟨⟨(hHeld.2.2.1.on BS.out).at 0, ((N5.on BS.out).at (k * 2)).trans HCUR.out⟩, (hHeld.2.2.2.1.on BS.out).six.1, hHeld.2.2.1.on BS.out, hHeld.2.2.2.1.on BS.out, hHeld.2.2.2.2.on BS.out⟩) (fun hHeld => ?_)
    clear hK K
    refine wpAnyH_done (by kernel_rfl) ?_ _
    refine NoPanic.normal ?_
    obtain ⟨-, -, B3', B5', B6'⟩ := hHeld
    have G5 := (HG1.out.on (Below.refl _ _).drew).setStore (v' := v') (cur' := cur') (kn := kn) HK.out HSA.out (by intro e; have := HS4.out; rw [e] at this; simp at this) HOV.out HOR.out HT5.out
    have HG6 := hide (G5.on BS.out)
    have HV6 := hide ((HV1.out.on (Below.refl _ _).drew).turned HT5.out (fun g hg _ _ hn e => by
      have e' : g = Gs := e
      subst e'
      rcases HV1.out with q | ⟨g', _, e1, _, _, q3, _⟩
      · exact hn q
      · simp only at e1 hg
        rw [hg] at e1
        injection e1 with e1
        injection e1 with e1
        subst e1
        exact absurd (blk_one q3 HO1.out.blk) (by decide)) |>.on BS.out)
    have HT6 := hide ((HT1.out.trans ((Turn.below (P := TouchC w base) (Below.refl _ _).drew).trans (HT5.out.mono (fun g e => by have e' : g = Gs := e; subst e'; exact ⟨gs0, _, .inl HO.out.blk⟩)))).trans (.below BS.out))
    have HU6 := hide ((HU1.out.trans ((Turn.below (P := FootGr G xc us) (Below.refl _ _).drew).trans (HT5.out.mono (fun g e => by have e' : g = Gs := e; subst e'; exact HGs.out)))).trans (.below BS.out))
    have HFS : Hid (∀ y, FootS n.sa (n.ss.set kn v') y → FootS n.sa n.ss y ∨ w.heap.size ≤ y) := fun y hy => footS_put (fun y hn ha => by have := own1_at HOV.out hn ha; have e : w1.drew.heap.size = w1.heap.size := rfl; omega) hy
    have N6 := hide (N5.on BS.out)
    have z6 : w5.heap.size ≤ (w5.setCell ⟨G, k * 2, none⟩ (.slice (some ⟨Gs, 0, none⟩) 4 n.sc)).heap.size := BS.out.size
    clear B3 B5 B6 hc0 d5 f5 N5 G5 HA
    generalize w5.setCell ⟨G, k * 2, none⟩ (.slice (some ⟨Gs, 0, none⟩) 4 n.sc) = W6 at B3' B5' B6' HG6 HV6 HT6 HU6 N6 BS z6 ⊢
    have q3 := B3'.one.1
    have q6 := B6'.one
    by_cases hlast : k + 1 = us.length
    · have c1 : ¬ ((k : Int) < (us.length : Int) - 1) := by omega
      have HADD : Hid (addN us k ⟨(kn : Int), vt, vu, va, vc, vts, vs, vg⟩ = us.set k ⟨n.sa, n.sc, n.ss.set kn ⟨(kn : Int), vt, vu, va, vc, vts, vs, vg⟩, n.wa, n.wc, n.ws⟩) := by
        unfold Hid
        rw [addN_at HK.out, decide_eq_true hlast]
        unfold addNd
        rw [HST.out]
        rfl
      clear hlast
      go_wp2
      refine bodyPost_ret (v := .agg #[.slice (some ⟨G, 0, none⟩) us.length xc]) (by simp [results, Tryz.results59, go_sem, q6]) rfl ?_
      refine ⟨_, rfl, ?_, HG6.out.asideT (p := ⟨w.heap.size + 1 + 1, 0, none⟩) B6' _, HT6.out.far (by simp only; omega) _, HU6.out.far (by simp only; omega) _, footGr_set HK.out (fun y hy => hy.elim (fun h => (HFS.out y h).elim (fun h => .inl (.inl h)) .inr) (fun h => .inl (.inr h)))⟩
      rw [HADD.out]
      have hll := ll_set (ll_refl n.ss) HLK.out kn
      exact nl_set (nl_refl us) ⟨hll.1, hll.2, rfl, like_refl _⟩
    · have c1 : (k : Int) < (us.length : Int) - 1 := by omega
      have HADD : Hid (addN us k ⟨(kn : Int), vt, vu, va, vc, vts, vs, vg⟩ = us.set k ⟨n.sa, n.sc, n.ss.set kn ⟨(kn : Int), vt, vu, va, vc, vts, vs, vg⟩, n.wa, n.wc, n.ws ++ [⟨(kn : Int), vt, vu, va, vc, vts, vs, vg⟩]⟩) := by
        unfold Hid
        rw [addN_at HK.out, decide_eq_false hlast]
        unfold addNd
        rw [HST.out]
        rfl
      clear hlast
      obtain ⟨n1, hn1⟩ : ∃ n1 : Nd, n1 = ⟨n.sa, n.sc, n.ss.set kn v', n.wa, n.wc, n.ws⟩ := ⟨_, rfl⟩
      have HN1' := hide hn1
      rw [← hn1] at HG6
      have ewa : n1.wa = n.wa := by rw [hn1]
      have ewc : n1.wc = n.wc := by rw [hn1]
      have ews : n1.ws = n.ws := by rw [hn1]
      have HEW : Hid (n1.wa = n.wa ∧ n1.wc = n.wc ∧ n1.ws = n.ws) := ⟨ewa, ewc, ews⟩
      clear hn1 ewa ewc ews
      have HK1 : Hid ((us.set k n1)[k]? = some n1) := List.getElem?_set_self hkl
      have HG7 : Hid (GRow base W6.drew (.slice (some ⟨G, 0, none⟩) (us.set k n1).length xc) (us.set k n1)) := by
        unfold Hid
        rw [List.length_set]
        exact HG6.out.on (Below.refl _ _).drew
      have HTW := hide (HG.out.own k n HK.out).typed
      have HCU2 : Hid (cur[k * 2 + 1]? = some (.slice n.wa n.ws.length n.wc)) := (HCG.out.at' k n HK.out).2
      have q1 : W6.drew.cell? ⟨G, k * 2 + 1, none⟩ = some (.slice n.wa n.ws.length n.wc) := (N6.out.drew.at _).trans HCU2.out
      have hw6' : n.ws.length ≤ 6 := hw6
      have CP := hide (l2Copy_any ⟨(kn : Int), vt, vu, va, vc, vts, vs, vg⟩ W6.drew (by have := HVL.out; simp only at this ⊢; omega) (HV6.out.on (Below.refl _ _).drew).tg)
      have hb6 : base ≤ W6.heap.size := HG6.out.lo
      go_wp2_with fail
      refine wp_region_noPanic ?_
      refine wp_region_held_drew (S := (fun w' => w'.cell? ⟨w.heap.size, 0, none⟩ = some (.slice (some ⟨G, 0, none⟩) us.length xc) ∧ Six w' (w.heap.size + 1) 0 ⟨(kn : Int), vt, vu, va, vc, vts, vs, vg⟩ ∧ (Blk w' w.heap.size 32 #[.slice (some ⟨G, 0, none⟩) us.length xc] ∧ Blk w' (w.heap.size + 1) 96 (verC (kn : Int) vt vu va vts.length vc vs vg) ∧ Blk w' (w.heap.size + 1 + 1) 32 #[.slice none 0 0]))) (by kernel_rfl) (by exact ⟨B3'.drew.at 0, B5'.drew.six.1, B3'.drew, B5'.drew, B6'.drew⟩) (fun hHeld => ?_)
      refine mvR 0 (some 43) hHeld ?_
      refine mvR 1 (some 44) hHeld ?_
      refine mvR 2 (some 45) hHeld ?_
      refine mvR 3 (some 46) hHeld ?_
      refine mvR 4 (some 47) hHeld ?_
      refine mvR 5 (some 48) hHeld ?_
      refine mvR 6 (some 49) hHeld ?_
      refine mvR 7 (some 50) hHeld ?_
      refine mvR 9 (some 52) hHeld ?_
      refine wpAnyH_ready (rs := [8, 10]) (by kernel_rfl) (by simp) ?_
      refine AllReadyH.cons rfl (fun K hK => ?_) (AllReadyH.cons rfl (fun K hK => ?_) AllReadyH.nil)
      · skip
        go_simp
        refine hK.out _ _ (by exact hHeld) (fun hHeld => ?_)
        clear hK K
        refine take_one 10 (by kernel_rfl) rfl (fun K hK => ?_)
        go_simp
        ((with_reducible refine CP.out.mono ?_); rintro e w7 ⟨v2, rfl, hlk2, hov2, hb7⟩; have HL2 := hide hlk2; have HO2 := hide hov2; have HB7 := hide hb7; have N7 := N6.out.drew.on hb7; have q2 : w7.cell? ⟨G, k * 2 + 1, none⟩ = some (.slice n.wa n.ws.length n.wc) := (N7.at _).trans HCU2.out; have q4 : (w7.alloc (.cells (verC v2.k v2.t v2.u v2.a v2.ts.length v2.c v2.s v2.g) 96)).cell? ⟨G, k * 2 + 1, none⟩ = some (.slice n.wa n.ws.length n.wc) := ((N7.more _).at _).trans HCU2.out; have z7 : W6.heap.size ≤ w7.heap.size := (by have := hb7.size; simpa using this); have HR := hide (show w7.ownsRow base 96 6 (.slice n.wa n.ws.length n.wc) n.ws.length (flat6 n.ws) by have := ((HG7.out.on hb7).own k n1 HK1.out).row; rw [HEW.out.1, HEW.out.2.1, HEW.out.2.2] at this; exact this); clear hlk2 hov2)
        try go_wp2_with fail
        refine hK.out _ _ (by exact ⟨(hHeld.2.2.1.on HB7.out).at 0, (hHeld.2.2.2.1.on HB7.out).six.1, hHeld.2.2.1.on HB7.out, hHeld.2.2.2.1.on HB7.out, hHeld.2.2.2.2.on HB7.out⟩) (fun hHeld => ?_)
        clear hK K
        refine take_one 11 (by kernel_rfl) rfl (fun K hK => ?_)
        go_simp
        refine hK.out _ _ (by exact ⟨(hHeld.2.2.1.more _).at 0, (hHeld.2.2.2.1.more _).six.1, hHeld.2.2.1.more _, hHeld.2.2.2.1.more _, hHeld.2.2.2.2.more _⟩) (fun hHeld => ?_)
        clear hK K
        refine take_one 12 (by kernel_rfl) rfl (fun K hK => ?_)
        (refine step_append_lies _ (by rfl) _ _ _ (by rfl) base 96 j0 _ 6 72 Tryz.underlying33 J0.out J1.out J2.out J3.out rfl (by omega) (.slice n.wa n.ws.length n.wc) n.ws.length (flat6 n.ws) (by rfl) (HR.out.alloc _) ⟨w7.heap.size, 0, none⟩ 1 1 (cells6 v2) (by rfl) (by rfl) (World.news_of_block (cs := verC v2.k v2.t v2.u v2.a v2.ts.length v2.c v2.s v2.g) (t := 96) (fr := (0, 0)) (heap_alloc_new w7 _)) (by simp [cells6, Value.oneCell']) (by omega) (by unfold maxLen; omega) (by omega) (by simp; omega) _ rfl ?_; intro g cap w8 hown2 hgrow hat hlt2; have N8 := (N7.more (.cells (verC v2.k v2.t v2.u v2.a v2.ts.length v2.c v2.s v2.g) 96)).kept hgrow (by intro e; obtain ⟨cs, b1, b2, b3⟩ := HTW.out _ e; exact absurd (blk_one b1 HCG.out.blk) (by decide)); have q5 : w8.cell? ⟨G, k * 2 + 1, none⟩ = some (.slice n.wa n.ws.length n.wc) := (N8.at _).trans HCU2.out; have f5 := N8.loose (k * 2 + 1); have OW := hide hown2; have GW := hide hgrow; have HAT := hide hat; clear hown2 hat)
        simp only [List.getElem_toArray, List.getElem_cons_zero, List.getElem_cons_succ, Act.put, List.setIfInBounds_toArray, List.set_cons_zero, List.set_cons_succ]
        refine hK.out _ _ (by exact ⟨(hHeld.2.2.1.kept hgrow (by intro e; obtain ⟨cs, b1, b2, b3⟩ := HTW.out _ e; omega)).at 0, (hHeld.2.2.2.1.kept hgrow (by intro e; obtain ⟨cs, b1, b2, b3⟩ := HTW.out _ e; omega)).six.1, hHeld.2.2.1.kept hgrow (by intro e; obtain ⟨cs, b1, b2, b3⟩ := HTW.out _ e; omega), hHeld.2.2.2.1.kept hgrow (by intro e; obtain ⟨cs, b1, b2, b3⟩ := HTW.out _ e; omega), hHeld.2.2.2.2.kept hgrow (by intro e; obtain ⟨cs, b1, b2, b3⟩ := HTW.out _ e; omega)⟩) (fun hHeld => ?_)
        clear hK K
        refine mvR 13 (some 56) hHeld ?_
        refine mvR 14 (some 57) hHeld ?_
        refine take_one 15 (by kernel_rfl) rfl (fun K hK => ?_)
        go_simp
        refine hK.out _ _ (by exact ⟨(hHeld.2.2.1.aside (by show w.heap.size ≠ G; omega) _).at 0, (hHeld.2.2.2.1.aside (by show w.heap.size + 1 ≠ G; omega) _).six.1, hHeld.2.2.1.aside (by show w.heap.size ≠ G; omega) _, hHeld.2.2.2.1.aside (by show w.heap.size + 1 ≠ G; omega) _, hHeld.2.2.2.2.aside (by show w.heap.size + 1 + 1 ≠ G; omega) _⟩) (fun hHeld => ?_)
        clear hK K
        refine wpAnyH_done (by kernel_rfl) ?_ _
        refine NoPanic.normal ?_
        obtain ⟨-, -, E3, E5, E6⟩ := hHeld
        have HE := HEW.out
        have GG := HG7.out.setWait (v' := v2) (g := g) (cap := cap) (w2 := w8) (w1 := w7.alloc (.cells (verC v2.k v2.t v2.u v2.a v2.ts.length v2.c v2.s v2.g) 96)) HK1.out (HB7.out.trans ((below_alloc1 w7 _).mono HB7.out.size)) ((HO2.out.on (below_alloc1 w7 _)).wide (by simp)) (by rw [HE.2.2]; exact OW.out) (by rw [HE.1, HE.2.1, HE.2.2]; exact GW.out) (by rw [HE.1, HE.2.1, HE.2.2]; rcases HAT.out with q | q; exact .inl q; exact .inr (by rw [q]; have e : W6.drew.heap.size = W6.heap.size := rfl; simp only [World.size_alloc]; omega))
        rw [HE.2.2, List.length_set, List.set_set] at GG
        have HGG := hide GG
        have HT9 := hide (((HT6.out.trans ((Turn.below (P := TouchC w base) (Below.refl _ _).drew).trans (.below (HB7.out.trans ((below_alloc1 w7 _).mono HB7.out.size))))).trans (.of GW.out (fun g' e => by obtain ⟨cs, b1, b2, b3⟩ := HTW.out _ e; exact ⟨b2, cs, .inl b1⟩))).set (p := ⟨G, k * 2 + 1, none⟩) (by obtain ⟨cs, b1, b2, _⟩ := HG.out.typed G rfl; exact ⟨b2, cs, .inr b1⟩) (.slice (some ⟨g, 0, none⟩) (n.ws.length + 1) cap))
        have HU9 := hide (((HU6.out.trans ((Turn.below (P := FootGr G xc us) (Below.refl _ _).drew).trans (.below (HB7.out.trans ((below_alloc1 w7 _).mono HB7.out.size))))).trans (.of GW.out (fun g' e => .inr ⟨k, n, HK.out, .inr (.inr e)⟩))).set (p := ⟨G, k * 2 + 1, none⟩) (.inl rfl) (.slice (some ⟨g, 0, none⟩) (n.ws.length + 1) cap))
        have zz1 : w.heap.size ≤ W6.drew.heap.size := (by have e : W6.drew.heap.size = W6.heap.size := rfl; omega)
        have HFW := hide (footV_push (g := g) (cap := cap) (z := w.heap.size) (v := v2) (HG.out.own k n HK.out) (by rcases HAT.out with q | q; exact .inl q; exact .inr (by rw [q]; simp only [World.size_alloc]; omega)) (fun y hn ha => Nat.le_trans zz1 (own1_at HO2.out hn ha)))
        clear GG N7 N8 q1 q2 q4 q5 f5 B3' B5' B6' HE
        generalize w8.setCell ⟨G, k * 2 + 1, none⟩ (.slice (some ⟨g, 0, none⟩) (n.ws.length + 1) cap) = W9 at E3 E5 E6 HGG HT9 HU9 ⊢
        have e3 := E3.one.1
        have e6 := E6.one
        go_wp2
        refine bodyPost_ret (v := .agg #[.slice (some ⟨G, 0, none⟩) us.length xc]) (by simp [results, Tryz.results59, go_sem, e6]) rfl ?_
        refine ⟨_, rfl, ?_, HGG.out.asideT (p := ⟨w.heap.size + 1 + 1, 0, none⟩) E6 _, HT9.out.far (by simp only; omega) _, HU9.out.far (by simp only; omega) _, ?_⟩
        rotate_left
        rw [HN1'.out]
        exact footGr_set HK.out (fun y hy => hy.elim (fun h => (HFS.out y h).elim (fun h => .inl (.inl h)) .inr) (fun h => (HFW.out y h).elim (fun h => .inl (.inr h)) .inr))
        rw [HADD.out, HN1'.out]
        exact nl_set (nl_refl us) ⟨(ll_set (ll_refl n.ss) HLK.out kn).1, (ll_set (ll_refl n.ss) HLK.out kn).2, (ll_snoc (ll_refl n.ws) HL2.out).1, (ll_snoc (ll_refl n.ws) HL2.out).2⟩
      · skip
        go_simp
        ((with_reducible refine CP.out.mono ?_); rintro e w7 ⟨v2, rfl, hlk2, hov2, hb7⟩; have HL2 := hide hlk2; have HO2 := hide hov2; have HB7 := hide hb7; have N7 := N6.out.drew.on hb7; have q2 : w7.cell? ⟨G, k * 2 + 1, none⟩ = some (.slice n.wa n.ws.length n.wc) := (N7.at _).trans HCU2.out; have q4 : (w7.alloc (.cells (verC v2.k v2.t v2.u v2.a v2.ts.length v2.c v2.s v2.g) 96)).cell? ⟨G, k * 2 + 1, none⟩ = some (.slice n.wa n.ws.length n.wc) := ((N7.more _).at _).trans HCU2.out; have z7 : W6.heap.size ≤ w7.heap.size := (by have := hb7.size; simpa using this); have HR := hide (show w7.ownsRow base 96 6 (.slice n.wa n.ws.length n.wc) n.ws.length (flat6 n.ws) by have := ((HG7.out.on hb7).own k n1 HK1.out).row; rw [HEW.out.1, HEW.out.2.1, HEW.out.2.2] at this; exact this); clear hlk2 hov2)
        try go_wp2_with fail
        refine hK.out _ _ (by exact ⟨(hHeld.2.2.1.on HB7.out).at 0, (hHeld.2.2.2.1.on HB7.out).six.1, hHeld.2.2.1.on HB7.out, hHeld.2.2.2.1.on HB7.out, hHeld.2.2.2.2.on HB7.out⟩) (fun hHeld => ?_)
        clear hK K
        refine wpAnyH_ready (rs := [8, 11]) (by kernel_rfl) (by simp) ?_
        refine AllReadyH.cons rfl (fun K hK => ?_) (AllReadyH.cons rfl (fun K hK => ?_) AllReadyH.nil)
        · skip
          go_simp
          refine hK.out _ _ (by exact hHeld) (fun hHeld => ?_)
          clear hK K
          refine take_one 11 (by kernel_rfl) rfl (fun K hK => ?_)
          go_simp
          refine hK.out _ _ (by exact ⟨(hHeld.2.2.1.more _).at 0, (hHeld.2.2.2.1.more _).six.1, hHeld.2.2.1.more _, hHeld.2.2.2.1.more _, hHeld.2.2.2.2.more _⟩) (fun hHeld => ?_)
          clear hK K
          refine take_one 12 (by kernel_rfl) rfl (fun K hK => ?_)
          (refine step_append_lies _ (by rfl) _ _ _ (by rfl) base 96 j0 _ 6 72 Tryz.underlying33 J0.out J1.out J2.out J3.out rfl (by omega) (.slice n.wa n.ws.length n.wc) n.ws.length (flat6 n.ws) (by rfl) (HR.out.alloc _) ⟨w7.heap.size, 0, none⟩ 1 1 (cells6 v2) (by rfl) (by rfl) (World.news_of_block (cs := verC v2.k v2.t v2.u v2.a v2.ts.length v2.c v2.s v2.g) (t := 96) (fr := (0, 0)) (heap_alloc_new w7 _)) (by simp [cells6, Value.oneCell']) (by omega) (by unfold maxLen; omega) (by omega) (by simp; omega) _ rfl ?_; intro g cap w8 hown2 hgrow hat hlt2; have N8 := (N7.more (.cells (verC v2.k v2.t v2.u v2.a v2.ts.length v2.c v2.s v2.g) 96)).kept hgrow (by intro e; obtain ⟨cs, b1, b2, b3⟩ := HTW.out _ e; exact absurd (blk_one b1 HCG.out.blk) (by decide)); have q5 : w8.cell? ⟨G, k * 2 + 1, none⟩ = some (.slice n.wa n.ws.length n.wc) := (N8.at _).trans HCU2.out; have f5 := N8.loose (k * 2 + 1); have OW := hide hown2; have GW := hide hgrow; have HAT := hide hat; clear hown2 hat)
          simp only [List.getElem_toArray, List.getElem_cons_zero, List.getElem_cons_succ, Act.put, List.setIfInBounds_toArray, List.set_cons_zero, List.set_cons_succ]
          refine hK.out _ _ (by exact ⟨(hHeld.2.2.1.kept hgrow (by intro e; obtain ⟨cs, b1, b2, b3⟩ := HTW.out _ e; omega)).at 0, (hHeld.2.2.2.1.kept hgrow (by intro e; obtain ⟨cs, b1, b2, b3⟩ := HTW.out _ e; omega)).six.1, hHeld.2.2.1.kept hgrow (by intro e; obtain ⟨cs, b1, b2, b3⟩ := HTW.out _ e; omega), hHeld.2.2.2.1.kept hgrow (by intro e; obtain ⟨cs, b1, b2, b3⟩ := HTW.out _ e; omega), hHeld.2.2.2.2.kept hgrow (by intro e; obtain ⟨cs, b1, b2, b3⟩ := HTW.out _ e; omega)⟩) (fun hHeld => ?_)
          clear hK K
          refine mvR 13 (some 56) hHeld ?_
          refine mvR 14 (some 57) hHeld ?_
          refine take_one 15 (by kernel_rfl) rfl (fun K hK => ?_)
          go_simp
          refine hK.out _ _ (by exact ⟨(hHeld.2.2.1.aside (by show w.heap.size ≠ G; omega) _).at 0, (hHeld.2.2.2.1.aside (by show w.heap.size + 1 ≠ G; omega) _).six.1, hHeld.2.2.1.aside (by show w.heap.size ≠ G; omega) _, hHeld.2.2.2.1.aside (by show w.heap.size + 1 ≠ G; omega) _, hHeld.2.2.2.2.aside (by show w.heap.size + 1 + 1 ≠ G; omega) _⟩) (fun hHeld => ?_)
          clear hK K
          refine wpAnyH_done (by kernel_rfl) ?_ _
          refine NoPanic.normal ?_
          obtain ⟨-, -, E3, E5, E6⟩ := hHeld
          have HE := HEW.out
          have GG := HG7.out.setWait (v' := v2) (g := g) (cap := cap) (w2 := w8) (w1 := w7.alloc (.cells (verC v2.k v2.t v2.u v2.a v2.ts.length v2.c v2.s v2.g) 96)) HK1.out (HB7.out.trans ((below_alloc1 w7 _).mono HB7.out.size)) ((HO2.out.on (below_alloc1 w7 _)).wide (by simp)) (by rw [HE.2.2]; exact OW.out) (by rw [HE.1, HE.2.1, HE.2.2]; exact GW.out) (by rw [HE.1, HE.2.1, HE.2.2]; rcases HAT.out with q | q; exact .inl q; exact .inr (by rw [q]; have e : W6.drew.heap.size = W6.heap.size := rfl; simp only [World.size_alloc]; omega))
          rw [HE.2.2, List.length_set, List.set_set] at GG
          have HGG := hide GG
          have HT9 := hide (((HT6.out.trans ((Turn.below (P := TouchC w base) (Below.refl _ _).drew).trans (.below (HB7.out.trans ((below_alloc1 w7 _).mono HB7.out.size))))).trans (.of GW.out (fun g' e => by obtain ⟨cs, b1, b2, b3⟩ := HTW.out _ e; exact ⟨b2, cs, .inl b1⟩))).set (p := ⟨G, k * 2 + 1, none⟩) (by obtain ⟨cs, b1, b2, _⟩ := HG.out.typed G rfl; exact ⟨b2, cs, .inr b1⟩) (.slice (some ⟨g, 0, none⟩) (n.ws.length + 1) cap))
          have HU9 := hide (((HU6.out.trans ((Turn.below (P := FootGr G xc us) (Below.refl _ _).drew).trans (.below (HB7.out.trans ((below_alloc1 w7 _).mono HB7.out.size))))).trans (.of GW.out (fun g' e => .inr ⟨k, n, HK.out, .inr (.inr e)⟩))).set (p := ⟨G, k * 2 + 1, none⟩) (.inl rfl) (.slice (some ⟨g, 0, none⟩) (n.ws.length + 1) cap))
          have zz1 : w.heap.size ≤ W6.drew.heap.size := (by have e : W6.drew.heap.size = W6.heap.size := rfl; omega)
          have HFW := hide (footV_push (g := g) (cap := cap) (z := w.heap.size) (v := v2) (HG.out.own k n HK.out) (by rcases HAT.out with q | q; exact .inl q; exact .inr (by rw [q]; simp only [World.size_alloc]; omega)) (fun y hn ha => Nat.le_trans zz1 (own1_at HO2.out hn ha)))
          clear GG N7 N8 q1 q2 q4 q5 f5 B3' B5' B6' HE
          generalize w8.setCell ⟨G, k * 2 + 1, none⟩ (.slice (some ⟨g, 0, none⟩) (n.ws.length + 1) cap) = W9 at E3 E5 E6 HGG HT9 HU9 ⊢
          have e3 := E3.one.1
          have e6 := E6.one
          go_wp2
          refine bodyPost_ret (v := .agg #[.slice (some ⟨G, 0, none⟩) us.length xc]) (by simp [results, Tryz.results59, go_sem, e6]) rfl ?_
          refine ⟨_, rfl, ?_, HGG.out.asideT (p := ⟨w.heap.size + 1 + 1, 0, none⟩) E6 _, HT9.out.far (by simp only; omega) _, HU9.out.far (by simp only; omega) _, ?_⟩
          rotate_left
          rw [HN1'.out]
          exact footGr_set HK.out (fun y hy => hy.elim (fun h => (HFS.out y h).elim (fun h => .inl (.inl h)) .inr) (fun h => (HFW.out y h).elim (fun h => .inl (.inr h)) .inr))
          rw [HADD.out, HN1'.out]
          exact nl_set (nl_refl us) ⟨(ll_set (ll_refl n.ss) HLK.out kn).1, (ll_set (ll_refl n.ss) HLK.out kn).2, (ll_snoc (ll_refl n.ws) HL2.out).1, (ll_snoc (ll_refl n.ws) HL2.out).2⟩
        · skip
          go_simp
          refine hK.out _ _ (by exact ⟨(hHeld.2.2.1.more _).at 0, (hHeld.2.2.2.1.more _).six.1, hHeld.2.2.1.more _, hHeld.2.2.2.1.more _, hHeld.2.2.2.2.more _⟩) (fun hHeld => ?_)
          clear hK K
          refine take_one 8 (by kernel_rfl) rfl (fun K hK => ?_)
          go_simp
          refine hK.out _ _ (by exact hHeld) (fun hHeld => ?_)
          clear hK K
          refine take_one 12 (by kernel_rfl) rfl (fun K hK => ?_)
          (refine step_append_lies _ (by rfl) _ _ _ (by rfl) base 96 j0 _ 6 72 Tryz.underlying33 J0.out J1.out J2.out J3.out rfl (by omega) (.slice n.wa n.ws.length n.wc) n.ws.length (flat6 n.ws) (by rfl) (HR.out.alloc _) ⟨w7.heap.size, 0, none⟩ 1 1 (cells6 v2) (by rfl) (by rfl) (World.news_of_block (cs := verC v2.k v2.t v2.u v2.a v2.ts.length v2.c v2.s v2.g) (t := 96) (fr := (0, 0)) (heap_alloc_new w7 _)) (by simp [cells6, Value.oneCell']) (by omega) (by unfold maxLen; omega) (by omega) (by simp; omega) _ rfl ?_; intro g cap w8 hown2 hgrow hat hlt2; have N8 := (N7.more (.cells (verC v2.k v2.t v2.u v2.a v2.ts.length v2.c v2.s v2.g) 96)).kept hgrow (by intro e; obtain ⟨cs, b1, b2, b3⟩ := HTW.out _ e; exact absurd (blk_one b1 HCG.out.blk) (by decide)); have q5 : w8.cell? ⟨G, k * 2 + 1, none⟩ = some (.slice n.wa n.ws.length n.wc) := (N8.at _).trans HCU2.out; have f5 := N8.loose (k * 2 + 1); have OW := hide hown2; have GW := hide hgrow; have HAT := hide hat; clear hown2 hat)
          simp only [List.getElem_toArray, List.getElem_cons_zero, List.getElem_cons_succ, Act.put, List.setIfInBounds_toArray, List.set_cons_zero, List.set_cons_succ]
          refine hK.out _ _ (by exact ⟨(hHeld.2.2.1.kept hgrow (by intro e; obtain ⟨cs, b1, b2, b3⟩ := HTW.out _ e; omega)).at 0, (hHeld.2.2.2.1.kept hgrow (by intro e; obtain ⟨cs, b1, b2, b3⟩ := HTW.out _ e; omega)).six.1, hHeld.2.2.1.kept hgrow (by intro e; obtain ⟨cs, b1, b2, b3⟩ := HTW.out _ e; omega), hHeld.2.2.2.1.kept hgrow (by intro e; obtain ⟨cs, b1, b2, b3⟩ := HTW.out _ e; omega), hHeld.2.2.2.2.kept hgrow (by intro e; obtain ⟨cs, b1, b2, b3⟩ := HTW.out _ e; omega)⟩) (fun hHeld => ?_)
          clear hK K
          refine mvR 13 (some 56) hHeld ?_
          refine mvR 14 (some 57) hHeld ?_
          refine take_one 15 (by kernel_rfl) rfl (fun K hK => ?_)
          go_simp
          refine hK.out _ _ (by exact ⟨(hHeld.2.2.1.aside (by show w.heap.size ≠ G; omega) _).at 0, (hHeld.2.2.2.1.aside (by show w.heap.size + 1 ≠ G; omega) _).six.1, hHeld.2.2.1.aside (by show w.heap.size ≠ G; omega) _, hHeld.2.2.2.1.aside (by show w.heap.size + 1 ≠ G; omega) _, hHeld.2.2.2.2.aside (by show w.heap.size + 1 + 1 ≠ G; omega) _⟩) (fun hHeld => ?_)
          clear hK K
          refine wpAnyH_done (by kernel_rfl) ?_ _
          refine NoPanic.normal ?_
          obtain ⟨-, -, E3, E5, E6⟩ := hHeld
          have HE := HEW.out
          have GG := HG7.out.setWait (v' := v2) (g := g) (cap := cap) (w2 := w8) (w1 := w7.alloc (.cells (verC v2.k v2.t v2.u v2.a v2.ts.length v2.c v2.s v2.g) 96)) HK1.out (HB7.out.trans ((below_alloc1 w7 _).mono HB7.out.size)) ((HO2.out.on (below_alloc1 w7 _)).wide (by simp)) (by rw [HE.2.2]; exact OW.out) (by rw [HE.1, HE.2.1, HE.2.2]; exact GW.out) (by rw [HE.1, HE.2.1, HE.2.2]; rcases HAT.out with q | q; exact .inl q; exact .inr (by rw [q]; have e : W6.drew.heap.size = W6.heap.size := rfl; simp only [World.size_alloc]; omega))
          rw [HE.2.2, List.length_set, List.set_set] at GG
          have HGG := hide GG
          have HT9 := hide (((HT6.out.trans ((Turn.below (P := TouchC w base) (Below.refl _ _).drew).trans (.below (HB7.out.trans ((below_alloc1 w7 _).mono HB7.out.size))))).trans (.of GW.out (fun g' e => by obtain ⟨cs, b1, b2, b3⟩ := HTW.out _ e; exact ⟨b2, cs, .inl b1⟩))).set (p := ⟨G, k * 2 + 1, none⟩) (by obtain ⟨cs, b1, b2, _⟩ := HG.out.typed G rfl; exact ⟨b2, cs, .inr b1⟩) (.slice (some ⟨g, 0, none⟩) (n.ws.length + 1) cap))
          have HU9 := hide (((HU6.out.trans ((Turn.below (P := FootGr G xc us) (Below.refl _ _).drew).trans (.below (HB7.out.trans ((below_alloc1 w7 _).mono HB7.out.size))))).trans (.of GW.out (fun g' e => .inr ⟨k, n, HK.out, .inr (.inr e)⟩))).set (p := ⟨G, k * 2 + 1, none⟩) (.inl rfl) (.slice (some ⟨g, 0, none⟩) (n.ws.length + 1) cap))
          have zz1 : w.heap.size ≤ W6.drew.heap.size := (by have e : W6.drew.heap.size = W6.heap.size := rfl; omega)
          have HFW := hide (footV_push (g := g) (cap := cap) (z := w.heap.size) (v := v2) (HG.out.own k n HK.out) (by rcases HAT.out with q | q; exact .inl q; exact .inr (by rw [q]; simp only [World.size_alloc]; omega)) (fun y hn ha => Nat.le_trans zz1 (own1_at HO2.out hn ha)))
          clear GG N7 N8 q1 q2 q4 q5 f5 B3' B5' B6' HE
          generalize w8.setCell ⟨G, k * 2 + 1, none⟩ (.slice (some ⟨g, 0, none⟩) (n.ws.length + 1) cap) = W9 at E3 E5 E6 HGG HT9 HU9 ⊢
          have e3 := E3.one.1
          have e6 := E6.one
          go_wp2
          refine bodyPost_ret (v := .agg #[.slice (some ⟨G, 0, none⟩) us.length xc]) (by simp [results, Tryz.results59, go_sem, e6]) rfl ?_
          refine ⟨_, rfl, ?_, HGG.out.asideT (p := ⟨w.heap.size + 1 + 1, 0, none⟩) E6 _, HT9.out.far (by simp only; omega) _, HU9.out.far (by simp only; omega) _, ?_⟩
          rotate_left
          rw [HN1'.out]
          exact footGr_set HK.out (fun y hy => hy.elim (fun h => (HFS.out y h).elim (fun h => .inl (.inl h)) .inr) (fun h => (HFW.out y h).elim (fun h => .inl (.inr h)) .inr))
          rw [HADD.out, HN1'.out]
          exact nl_set (nl_refl us) ⟨(ll_set (ll_refl n.ss) HLK.out kn).1, (ll_set (ll_refl n.ss) HLK.out kn).2, (ll_snoc (ll_refl n.ws) HL2.out).1, (ll_snoc (ll_refl n.ws) HL2.out).2⟩
/-- What comes to the next node, the one ahead having changed. -/
theorem passAddF (base G xc kn : Nat) (us : List Nd) (n' m : Nd) (v : V) (w : World) (hG : GRow base w (.slice (some ⟨G, 0, none⟩) us.length xc) (us.set kn n')) (hm : us[kn + 1]? = some m) (hl : us.length ≤ 4) (hnb : shN m) (hvv : shV v) (hv : Own1 w 0 w.heap.size v) :
    Calls Tryz.prog 59 #[.agg #[.slice (some ⟨G, 0, none⟩) us.length xc], .int .i64 ((kn : Int) + 1), .agg (verC v.k v.t v.u v.a v.ts.length v.c v.s v.g)] w (fun e w' => ∃ us' : List Nd, e = .returned (.agg #[.slice (some ⟨G, 0, none⟩) us.length xc]) ∧ NL us' (addN (us.set kn n') (kn + 1) v) ∧ GRow base w' (.slice (some ⟨G, 0, none⟩) us.length xc) us' ∧ Turn (TouchC w base) w w' ∧ Turn (FootGr G xc (us.set kn n')) w w' ∧ ∀ y, FootGr G xc us' y → FootGr G xc (us.set kn n') y ∨ w.heap.size ≤ y) := by
  have C : Calls Tryz.prog 59 #[.agg #[.slice (some ⟨G, 0, none⟩) us.length xc], .int .i64 ((kn : Int) + 1), .agg (verC v.k v.t v.u v.a v.ts.length v.c v.s v.g)] w (AddedF w base G xc (us.set kn n') (kn + 1) v) := by
    have h := l3AddF_sh base G xc (kn + 1) (us.set kn n') m v w (by rw [List.length_set]; exact hG) (by rw [List.getElem?_set_ne (by omega)]; exact hm) (by rw [List.length_set]; exact hl) hnb.1 hnb.2.1 hvv hv
    rw [List.length_set] at h
    exact h
  refine C.mono fun e w' h => ?_
  obtain ⟨us', he, h1, h2, h3, h4, h5⟩ := h
  have hl : (us.set kn n').length = us.length := List.length_set
  rw [hl] at he h2
  exact ⟨us', he, h1, h2, h3, h4, h5⟩
/-- What l3Pass leaves. -/
def PassedF (w : World) (base G xc : Nat) (us : List Nd) (k : Nat) (e : Ending) (w' : World) : Prop :=
  ∃ us' : List Nd, e = .returned (.agg #[.slice (some ⟨G, 0, none⟩) us.length xc]) ∧ NL us' (goN us k) ∧ GRow base w' (.slice (some ⟨G, 0, none⟩) us.length xc) us' ∧ Turn (TouchC w base) w w' ∧ Turn (FootGr G xc us) w w' ∧ ∀ y, FootGr G xc us' y → FootGr G xc us y ∨ w.heap.size ≤ y
set_option maxRecDepth 100000 in
set_option maxHeartbeats 4000000 in
theorem l3PassF_sh (base G xc kn : Nat) (us : List Nd) (n m : Nd) (v : V) (r : List V) (w : World) (hG : GRow base w (.slice (some ⟨G, 0, none⟩) us.length xc) us) (hk : us[kn]? = some n) (hm : us[kn + 1]? = some m) (hl : us.length ≤ 4) (hB : ∀ (i : Nat) m, us[i]? = some m → shN m) (hw : n.ws = v :: r) :
    Calls Tryz.prog 23 #[.agg #[.slice (some ⟨G, 0, none⟩) us.length xc], .int .i64 (kn : Int)] w (PassedF w base G xc us kn) := by
  obtain ⟨j0, hj0, hy0, hy1, hy2⟩ := info_parts ver_info
  have J0 := hide hj0
  have J1 := hide hy0
  have J2 := hide hy1
  have J3 := hide hy2
  clear hj0 hy0 hy1 hy2
  have hkl := (List.getElem?_eq_some_iff.1 hk).1
  obtain ⟨cur, hcg⟩ := hG.cgs (by omega)
  have S0 := (((Inv.start w).box 32 #[.slice (some ⟨G, 0, none⟩) us.length xc]).box 32 #[.slice none 0 0]).box 96 (verC v.k v.t v.u v.a v.ts.length v.c v.s v.g)
  simp only [World.size_alloc] at S0
  have hcr := hG.own kn n hk
  have c3 := (hcg.at' kn n hk).2
  have HCRW := hide hcr
  rw [hw] at hcr c3
  simp only [List.length_cons] at hcr c3
  obtain ⟨gw, hwa, hgl, hcc, hsix, -, hov⟩ := hcr.first
  rw [hwa] at c3 hcr
  obtain ⟨adT, haT, hadd⟩ : ∃ adT : Addr, (if n.wc = 1 then some (⟨gw, 0, none⟩ : Addr) else some ⟨gw, 6, none⟩) = some adT ∧ (r = [] ∨ adT = ⟨gw, 6, none⟩) := by
    by_cases h1 : n.wc = 1
    · rw [if_pos h1]
      exact ⟨_, rfl, .inl (List.length_eq_zero_iff.1 (by omega))⟩
    · rw [if_neg h1]
      exact ⟨_, rfl, .inr rfl⟩
  have HNEWS : Hid (∀ W, Below w.heap.size w W → ∀ (j : Nat) u, (flat6 r)[j]? = some u → W.cell? (adT.add j) = some u) := fun W hW j u hu => by
    rcases hadd with rfl | rfl
    · simp [flat6] at hu
    · have hq : (⟨gw, 6, none⟩ : Addr).add j = ⟨gw, 6 + j, none⟩ := by unfold Addr.add; split <;> simp_all
      rw [hq]
      exact (hcr.on hW).news j u hu
  have hr5 : r.length ≤ 5 := by
    obtain ⟨_, h6, _⟩ := hB kn n hk
    rw [hw] at h6
    simp only [List.length_cons] at h6
    omega
  have HVV := hide ((hB kn n hk).2.2 v (by rw [hw]; exact List.mem_cons_self))
  have hS2 := (Inv.start w).box 32 #[.slice (some ⟨G, 0, none⟩) us.length xc] |>.box 32 #[.slice none 0 0]
  simp only [World.size_alloc] at hS2
  have c3' : ((w.alloc (.cells #[.slice (some ⟨G, 0, none⟩) us.length xc] 32)).alloc (.cells #[.slice none 0 0] 32)).cell? ⟨G, kn * 2 + 1, none⟩ = some (.slice (some ⟨gw, 0, none⟩) (r.length + 1) n.wc) := ((hcg.on hS2.below).blk.at _).trans c3
  obtain ⟨s0, s1, s2, s3, s4, s5⟩ := hsix.keep hgl (fun _ hp => hS2.below.cell hp)
  simp only [Nat.zero_add] at s1 s2 s3 s4 s5
  have k0 := (hS2.nth 1 rfl).one.1
  have i1 : (0 : Int) ≤ (kn : Int) := by omega
  have i2 : (kn : Int) < (us.length : Int) := by omega
  have i3 : (0 : Int) < ((r.length + 1 : Nat) : Int) := by omega
  have i4 : (0 : Int) < (r.length : Int) + 1 := by omega
  have i5 : (1 : Int) ≤ (r.length : Int) + 1 := by omega
  have gin := hcg.blk.inside
  have hbs := hG.lo
  have HG := hide hG
  have HK := hide hk
  have HMM := hide hm
  have HB := hide hB
  have HW := hide hw
  have HC3 := hide c3
  have BG := hide hcg.blk
  have HV := hide hov
  have HCR := hide hcr
  have HWA := hide hwa
  clear hG hk hm hB hw c3 hov hcr hcg hS2 hwa hadd hsix
  go_enter Tryz.func23, Tryz.ntmps23
  go_wp2_with fail
  clear s0 s1 s2 s3 s4 s5 c3' k0
  generalize ((w.alloc (.cells #[.slice (some ⟨G, 0, none⟩) us.length xc] 32)).alloc (.cells #[.slice none 0 0] 32)).alloc (.cells (verC v.k v.t v.u v.a v.ts.length v.c v.s v.g) 96) = W1 at S0 ⊢
  have B3 := S0.nth 2 rfl
  have B5 := S0.nth 0 rfl
  have B6 := S0.nth 1 rfl
  have HB1 := hide S0.below
  have z1 := S0.room
  have N1 := BG.out.on HB1.out
  have q1 := (N1.at (kn * 2 + 1)).trans HC3.out
  have N2 := N1.more (.cells #[] 96)
  have q2 := (N2.at (kn * 2 + 1)).trans HC3.out
  have HB2 : Hid (Below w.heap.size w (W1.alloc (.cells #[] 96)).drew) := HB1.out.trans (((below_alloc1 W1 _).drew).mono HB1.out.size)
  have HOW : Hid ((W1.alloc (.cells #[] 96)).drew.ownsRow base 96 6 (.slice (some ⟨W1.heap.size, 0, none⟩) 0 0) 0 []) := World.ownsRow_made (base := base) (e := 96) (size := 6) W1 #[] 0 (by omega) (by unfold maxLen; omega) rfl
  refine wp_region_noPanic ?_
  refine wp_region_held_drew (S := (fun w' => w'.cell? ⟨w.heap.size, 0, none⟩ = some (.slice (some ⟨G, 0, none⟩) us.length xc) ∧ (Blk w' w.heap.size 32 #[.slice (some ⟨G, 0, none⟩) us.length xc] ∧ Blk w' (w.heap.size + 1) 32 #[.slice none 0 0] ∧ Blk w' (w.heap.size + 1 + 1) 96 (verC v.k v.t v.u v.a v.ts.length v.c v.s v.g)))) (by kernel_rfl) (by exact ⟨B3.drew.at 0, B3.drew, B6.drew, B5.drew⟩) (fun hHeld => ?_)
  refine mvR 0 (some 14) hHeld ?_
  refine mvR 1 (some 15) hHeld ?_
  refine mvR 2 (some 16) hHeld ?_
  refine mvR 4 (some 18) hHeld ?_
  refine mvR 5 (some 19) hHeld ?_
  refine mvR 6 (some 20) hHeld ?_
  refine mvR 7 (some 21) hHeld ?_
  refine mvR 8 (some 22) hHeld ?_
  refine wpAnyH_ready (rs := [3, 9]) (by kernel_rfl) (by simp) ?_
  refine AllReadyH.cons rfl (fun K hK => ?_) (AllReadyH.cons rfl (fun K hK => ?_) AllReadyH.nil)
  · skip
    go_simp
    refine hK.out _ _ (by exact ⟨(hHeld.2.1.more _).at 0, hHeld.2.1.more _, hHeld.2.2.1.more _, hHeld.2.2.2.more _⟩) (fun hHeld => ?_)
    clear hK K
    refine take_one 9 (by kernel_rfl) rfl (fun K hK => ?_)
    go_simp
    refine hK.out _ _ (by exact hHeld) (fun hHeld => ?_)
    clear hK K
    refine mvR 10 (some 24) hHeld ?_
    refine take_one 11 (by kernel_rfl) rfl (fun K hK => ?_)
    (refine step_append_more _ (by rfl) _ _ _ (by rfl) base 96 j0 _ 6 72 Tryz.underlying33 J0.out J1.out J2.out J3.out rfl (by omega) W1.heap.size 0 0 [] (by rfl) HOW.out (some adT) r.length (n.wc - 1) (flat6 r) (by rfl) (flat6_len r) (fun _ => ⟨adT, rfl, HNEWS.out _ HB2.out⟩) (flat6_one r) (by unfold maxLen; omega) (by omega) (by simp; omega) _ rfl ?_; intro g cap w8 hown2 hgrow hat; rw [Nat.zero_add] at hown2 ⊢; rw [List.nil_append] at hown2; have N8 := N2.drew.kept hgrow (by intro e; injection e with e; omega); have q5 := (N8.at (kn * 2 + 1)).trans HC3.out; have f5 := N8.loose (kn * 2 + 1); have OW := hide hown2; have GW := hide hgrow; have HAT := hide hat; clear hown2 hat)
    simp only [List.getElem_toArray, List.getElem_cons_zero, List.getElem_cons_succ, Act.put, List.setIfInBounds_toArray, List.set_cons_zero, List.set_cons_succ]
    refine hK.out _ _ (by exact ⟨(hHeld.2.1.kept hgrow (by intro e; injection e with e; omega)).at 0, hHeld.2.1.kept hgrow (by intro e; injection e with e; omega), hHeld.2.2.1.kept hgrow (by intro e; injection e with e; omega), hHeld.2.2.2.kept hgrow (by intro e; injection e with e; omega)⟩) (fun hHeld => ?_)
    clear hK K
    refine mvR 12 (some 26) hHeld ?_
    refine mvR 13 (some 27) hHeld ?_
    refine take_one 14 (by kernel_rfl) rfl (fun K hK => ?_)
    go_simp
    refine hK.out _ _ (by exact ⟨(hHeld.2.1.aside (by show w.heap.size ≠ G; omega) _).at 0, hHeld.2.1.aside (by show w.heap.size ≠ G; omega) _, hHeld.2.2.1.aside (by show w.heap.size + 1 ≠ G; omega) _, hHeld.2.2.2.aside (by show w.heap.size + 1 + 1 ≠ G; omega) _⟩) (fun hHeld => ?_)
    clear hK K
    refine wpAnyH_done (by kernel_rfl) ?_ _
    refine NoPanic.normal ?_
    obtain ⟨-, E3, E6, E5⟩ := hHeld
    have hg0 : w.heap.size ≤ g := by
      rcases HAT.out with q | q <;> (rw [q]; first | omega | (simp; omega))
    have BL8 := hide (below_rows HB2.out GW.out (by omega))
    have GG := HG.out.newWait (A := some ⟨g, 0, none⟩) (cap := cap) (ws := r) HK.out BL8.out (HCR.out.tail BL8.out OW.out) (HCRW.out.tailFoot HW.out hg0)
    have HGG := hide GG
    have HT9 := hide ((Turn.below (P := TouchC w base) BL8.out).set (p := ⟨G, kn * 2 + 1, none⟩) (by obtain ⟨cs, b1, b2, _⟩ := HG.out.typed G rfl; exact ⟨b2, cs, .inr b1⟩) (.slice (some ⟨g, 0, none⟩) r.length cap))
    have HV9 : Hid (Own1 (w8.setCell ⟨G, kn * 2 + 1, none⟩ (.slice (some ⟨g, 0, none⟩) r.length cap)) 0 (w8.setCell ⟨G, kn * 2 + 1, none⟩ (.slice (some ⟨g, 0, none⟩) r.length cap)).heap.size v) := ((HV.out.on BL8.out).turned ((Turn.refl (fun y => y = G) w8).set (p := ⟨G, kn * 2 + 1, none⟩) rfl (.slice (some ⟨g, 0, none⟩) r.length cap)) (fun g' h1 _ _ hn e => own_not_node HV.out BG.out h1 hn e)).wide (by have := BL8.out.size; simpa [World.setCell] using this)
    have HU9 := hide ((Turn.below (P := FootGr G xc us) BL8.out).set (p := ⟨G, kn * 2 + 1, none⟩) (.inl rfl) (.slice (some ⟨g, 0, none⟩) r.length cap))
    have HFT := hide (footGr_set (G := G) (xc := xc) (z := w.heap.size) (n' := ⟨n.sa, n.sc, n.ss, some ⟨g, 0, none⟩, cap, r⟩) HK.out (fun y hy => hy.elim (fun h => .inl (.inl h)) (fun h => (HCRW.out.tailFoot HW.out hg0 y h).elim (fun h => .inl (.inr h)) .inr)))
    have HZ9 : Hid (w.heap.size ≤ (w8.setCell ⟨G, kn * 2 + 1, none⟩ (.slice (some ⟨g, 0, none⟩) r.length cap)).heap.size) := (by unfold Hid; have := BL8.out.size; simpa [World.setCell] using this)
    clear GG N1 N2 N8 q1 q2 q5 f5 B3 B5 B6
    generalize w8.setCell ⟨G, kn * 2 + 1, none⟩ (.slice (some ⟨g, 0, none⟩) r.length cap) = W9 at E3 E5 E6 HGG HT9 HU9 HZ9 HV9 ⊢
    have CA := hide (passAddF base G xc kn us ⟨n.sa, n.sc, n.ss, some ⟨g, 0, none⟩, cap, r⟩ m v W9 HGG.out HMM.out hl (HB.out (kn + 1) m HMM.out) HVV.out HV9.out)
    have e3 := E3.one.1
    have e5 := E5.six.1
    go_wp2_with fail
    with_reducible refine CA.out.mono ?_
    rintro e w10 ⟨us', rfl, hul, hg10, hT10, hU10, hf10⟩
    have HU10 := hide (HU9.out.then hU10 (fun g hg h => (HFT.out g h).elim id (fun h => by omega)))
    have HF10 : Hid (∀ y, FootGr G xc us' y → FootGr G xc us y ∨ w.heap.size ≤ y) := (fun y h => (hf10 y h).elim (HFT.out y) (fun h => .inr (Nat.le_trans HZ9.out h)))
    have HUL := hide hul
    have HG10 := hide hg10
    have HT10 := hide (touch_trans HT9.out hT10)
    have E6' := E6.turned hT10 (touch_no E6 (by decide) (by decide))
    have e6 := E6'.one
    clear hul hg10 hT10 hU10 hf10 CA e3 e5 E3 E5
    go_wp2
    refine bodyPost_ret (v := .agg #[.slice (some ⟨G, 0, none⟩) us.length xc]) (by simp [results, Tryz.results23, go_sem, e6]) rfl ?_
    refine ⟨us', rfl, ?_, HG10.out.asideT (p := ⟨w.heap.size + 1, 0, none⟩) E6' _, HT10.out.far (by simp only; omega) _, HU10.out.far (by simp only; omega) _, HF10.out⟩
    rw [goN_at HK.out HW.out]
    have HLT : Nd.like ⟨n.sa, n.sc, n.ss, some ⟨g, 0, none⟩, cap, r⟩ (tailNd n) := ⟨rfl, like_refl _, by show r.length = n.ws.tail.length; rw [HW.out]; rfl, by show Like r n.ws.tail; rw [HW.out]; exact like_refl _⟩
    exact nl_trans HUL.out (addN_like (nl_set (nl_refl us) HLT) (vlike_refl v) (kn + 1))
  · skip
    go_simp
    refine hK.out _ _ (by exact hHeld) (fun hHeld => ?_)
    clear hK K
    refine mvR 10 (some 24) hHeld ?_
    refine take_one 3 (by kernel_rfl) rfl (fun K hK => ?_)
    go_simp
    refine hK.out _ _ (by exact ⟨(hHeld.2.1.more _).at 0, hHeld.2.1.more _, hHeld.2.2.1.more _, hHeld.2.2.2.more _⟩) (fun hHeld => ?_)
    clear hK K
    refine take_one 11 (by kernel_rfl) rfl (fun K hK => ?_)
    (refine step_append_more _ (by rfl) _ _ _ (by rfl) base 96 j0 _ 6 72 Tryz.underlying33 J0.out J1.out J2.out J3.out rfl (by omega) W1.heap.size 0 0 [] (by rfl) HOW.out (some adT) r.length (n.wc - 1) (flat6 r) (by rfl) (flat6_len r) (fun _ => ⟨adT, rfl, HNEWS.out _ HB2.out⟩) (flat6_one r) (by unfold maxLen; omega) (by omega) (by simp; omega) _ rfl ?_; intro g cap w8 hown2 hgrow hat; rw [Nat.zero_add] at hown2 ⊢; rw [List.nil_append] at hown2; have N8 := N2.drew.kept hgrow (by intro e; injection e with e; omega); have q5 := (N8.at (kn * 2 + 1)).trans HC3.out; have f5 := N8.loose (kn * 2 + 1); have OW := hide hown2; have GW := hide hgrow; have HAT := hide hat; clear hown2 hat)
    simp only [List.getElem_toArray, List.getElem_cons_zero, List.getElem_cons_succ, Act.put, List.setIfInBounds_toArray, List.set_cons_zero, List.set_cons_succ]
    refine hK.out _ _ (by exact ⟨(hHeld.2.1.kept hgrow (by intro e; injection e with e; omega)).at 0, hHeld.2.1.kept hgrow (by intro e; injection e with e; omega), hHeld.2.2.1.kept hgrow (by intro e; injection e with e; omega), hHeld.2.2.2.kept hgrow (by intro e; injection e with e; omega)⟩) (fun hHeld => ?_)
    clear hK K
    refine mvR 12 (some 26) hHeld ?_
    refine mvR 13 (some 27) hHeld ?_
    refine take_one 14 (by kernel_rfl) rfl (fun K hK => ?_)
    go_simp
    refine hK.out _ _ (by exact ⟨(hHeld.2.1.aside (by show w.heap.size ≠ G; omega) _).at 0, hHeld.2.1.aside (by show w.heap.size ≠ G; omega) _, hHeld.2.2.1.aside (by show w.heap.size + 1 ≠ G; omega) _, hHeld.2.2.2.aside (by show w.heap.size + 1 + 1 ≠ G; omega) _⟩) (fun hHeld => ?_)
    clear hK K
    refine wpAnyH_done (by kernel_rfl) ?_ _
    refine NoPanic.normal ?_
    obtain ⟨-, E3, E6, E5⟩ := hHeld
    have hg0 : w.heap.size ≤ g := by
      rcases HAT.out with q | q <;> (rw [q]; first | omega | (simp; omega))
    have BL8 := hide (below_rows HB2.out GW.out (by omega))
    have GG := HG.out.newWait (A := some ⟨g, 0, none⟩) (cap := cap) (ws := r) HK.out BL8.out (HCR.out.tail BL8.out OW.out) (HCRW.out.tailFoot HW.out hg0)
    have HGG := hide GG
    have HT9 := hide ((Turn.below (P := TouchC w base) BL8.out).set (p := ⟨G, kn * 2 + 1, none⟩) (by obtain ⟨cs, b1, b2, _⟩ := HG.out.typed G rfl; exact ⟨b2, cs, .inr b1⟩) (.slice (some ⟨g, 0, none⟩) r.length cap))
    have HV9 : Hid (Own1 (w8.setCell ⟨G, kn * 2 + 1, none⟩ (.slice (some ⟨g, 0, none⟩) r.length cap)) 0 (w8.setCell ⟨G, kn * 2 + 1, none⟩ (.slice (some ⟨g, 0, none⟩) r.length cap)).heap.size v) := ((HV.out.on BL8.out).turned ((Turn.refl (fun y => y = G) w8).set (p := ⟨G, kn * 2 + 1, none⟩) rfl (.slice (some ⟨g, 0, none⟩) r.length cap)) (fun g' h1 _ _ hn e => own_not_node HV.out BG.out h1 hn e)).wide (by have := BL8.out.size; simpa [World.setCell] using this)
    have HU9 := hide ((Turn.below (P := FootGr G xc us) BL8.out).set (p := ⟨G, kn * 2 + 1, none⟩) (.inl rfl) (.slice (some ⟨g, 0, none⟩) r.length cap))
    have HFT := hide (footGr_set (G := G) (xc := xc) (z := w.heap.size) (n' := ⟨n.sa, n.sc, n.ss, some ⟨g, 0, none⟩, cap, r⟩) HK.out (fun y hy => hy.elim (fun h => .inl (.inl h)) (fun h => (HCRW.out.tailFoot HW.out hg0 y h).elim (fun h => .inl (.inr h)) .inr)))
    have HZ9 : Hid (w.heap.size ≤ (w8.setCell ⟨G, kn * 2 + 1, none⟩ (.slice (some ⟨g, 0, none⟩) r.length cap)).heap.size) := (by unfold Hid; have := BL8.out.size; simpa [World.setCell] using this)
    clear GG N1 N2 N8 q1 q2 q5 f5 B3 B5 B6
    generalize w8.setCell ⟨G, kn * 2 + 1, none⟩ (.slice (some ⟨g, 0, none⟩) r.length cap) = W9 at E3 E5 E6 HGG HT9 HU9 HZ9 HV9 ⊢
    have CA := hide (passAddF base G xc kn us ⟨n.sa, n.sc, n.ss, some ⟨g, 0, none⟩, cap, r⟩ m v W9 HGG.out HMM.out hl (HB.out (kn + 1) m HMM.out) HVV.out HV9.out)
    have e3 := E3.one.1
    have e5 := E5.six.1
    go_wp2_with fail
    with_reducible refine CA.out.mono ?_
    rintro e w10 ⟨us', rfl, hul, hg10, hT10, hU10, hf10⟩
    have HU10 := hide (HU9.out.then hU10 (fun g hg h => (HFT.out g h).elim id (fun h => by omega)))
    have HF10 : Hid (∀ y, FootGr G xc us' y → FootGr G xc us y ∨ w.heap.size ≤ y) := (fun y h => (hf10 y h).elim (HFT.out y) (fun h => .inr (Nat.le_trans HZ9.out h)))
    have HUL := hide hul
    have HG10 := hide hg10
    have HT10 := hide (touch_trans HT9.out hT10)
    have E6' := E6.turned hT10 (touch_no E6 (by decide) (by decide))
    have e6 := E6'.one
    clear hul hg10 hT10 hU10 hf10 CA e3 e5 E3 E5
    go_wp2
    refine bodyPost_ret (v := .agg #[.slice (some ⟨G, 0, none⟩) us.length xc]) (by simp [results, Tryz.results23, go_sem, e6]) rfl ?_
    refine ⟨us', rfl, ?_, HG10.out.asideT (p := ⟨w.heap.size + 1, 0, none⟩) E6' _, HT10.out.far (by simp only; omega) _, HU10.out.far (by simp only; omega) _, HF10.out⟩
    rw [goN_at HK.out HW.out]
    have HLT : Nd.like ⟨n.sa, n.sc, n.ss, some ⟨g, 0, none⟩, cap, r⟩ (tailNd n) := ⟨rfl, like_refl _, by show r.length = n.ws.tail.length; rw [HW.out]; rfl, by show Like r n.ws.tail; rw [HW.out]; exact like_refl _⟩
    exact nl_trans HUL.out (addN_like (nl_set (nl_refl us) HLT) (vlike_refl v) (kn + 1))
theorem l3PassF_can_sh (base G xc kn : Nat) (us : List Nd) (w : World) (hG : GRow base w (.slice (some ⟨G, 0, none⟩) us.length xc) us) (hc : canB us kn = true) (hl : us.length ≤ 4) (hB : ∀ (i : Nat) m, us[i]? = some m → shN m) :
    Calls Tryz.prog 23 #[.agg #[.slice (some ⟨G, 0, none⟩) us.length xc], .int .i64 (kn : Int)] w (PassedF w base G xc us kn) := by
  have h1 : kn + 1 < us.length := by
    by_cases h : kn + 1 < us.length
    · exact h
    · rw [canB_end (by omega)] at hc
      cases hc
  obtain ⟨n, hn⟩ : ∃ n, us[kn]? = some n := ⟨_, List.getElem?_eq_getElem (by omega)⟩
  obtain ⟨m, hm⟩ : ∃ m, us[kn + 1]? = some m := ⟨_, List.getElem?_eq_getElem h1⟩
  rw [canB_at hn hm, Bool.and_eq_true, decide_eq_true_eq] at hc
  cases hw : n.ws with
  | nil => rw [hw] at hc; simp at hc
  | cons v r => exact l3PassF_sh base G xc kn us n m v r w hG hn hm hl hB hw
end Go.Proofs.YtnaggcdhimcilaaGreat
