/- A copy of a version put into a row: its causes are new. No condition. -/
import Derived.Test.YtjnloillcgeodaaJChainApply
namespace Go.Proofs.Ytjnloillcgeodaa
open Go.RowKit Go.Joins

theorem put_own {w1 w2 : World} {B G j : Nat} {us : List V} {cur cur0 : Array Value} {v : V} (h : ORow w2 B w2.heap.size G us cur) (hj : j < us.length) (ho : Own1 w2 w1.heap.size w2.heap.size v) (h0 : ORow w1 B w1.heap.size G us cur0) :
    ORow ((((((w2.setCell ⟨G, j * 6, none⟩ (.int .i64 v.k)).setCell ⟨G, j * 6 + 1, none⟩ (.int .i64 v.t)).setCell ⟨G, j * 6 + 2, none⟩ (.int .i64 v.u)).setCell ⟨G, j * 6 + 3, none⟩ (.slice v.a v.ts.length v.c)).setCell ⟨G, j * 6 + 4, none⟩ (.string v.s)).setCell ⟨G, j * 6 + 5, none⟩ (.bool v.g)) B w2.heap.size G (us.set j v) (put6 cur j v) ∧
    Turn (fun g => g = G) w2 ((((((w2.setCell ⟨G, j * 6, none⟩ (.int .i64 v.k)).setCell ⟨G, j * 6 + 1, none⟩ (.int .i64 v.t)).setCell ⟨G, j * 6 + 2, none⟩ (.int .i64 v.u)).setCell ⟨G, j * 6 + 3, none⟩ (.slice v.a v.ts.length v.c)).setCell ⟨G, j * 6 + 4, none⟩ (.string v.s)).setCell ⟨G, j * 6 + 5, none⟩ (.bool v.g)) := by
  have g0 := h0.hi
  have l0 := h0.lo
  refine h.put6 hj (ho.low (by omega)) (fun i x _ hx hne hne' => ?_) (fun hne' => ?_)
  · rcases h0.own i x hx with q | ⟨gg, _, q1, _, q2, _⟩
    · exact absurd q hne
    · rcases ho with q | ⟨gg', _, q3, q4, _⟩
      · exact absurd q hne'
      · rw [q1, q3]
        intro e
        injection e with e
        injection e with e
        omega
  · rcases ho with q | ⟨gg', _, q3, q4, _⟩
    · exact absurd q hne'
    · rw [q3]
      intro e
      injection e with e
      injection e with e
      omega
end Go.Proofs.Ytjnloillcgeodaa
/- Contract of the program's apply where the version is later: it comes into the store and, unless the node is the last, waits there. Condition: at most four nodes, the node valid. -/
namespace Go.Proofs.Ytjnloillcgeodaa
open Go.RowKit Go.Joins
attribute [local go_sem ↓] Go.wp_at_zero Go.wp_at_succ

set_option maxRecDepth 100000 in
set_option maxHeartbeats 4000000 in
theorem apply_yes (B L base G xc k : Nat) (us : List Nd) (n : Nd) (v : V) (w : World) (hG : GRow base w (.slice (some ⟨G, 0, none⟩) us.length xc) us) (hL : LinkAt w B L (some ⟨G, 0, none⟩) G us.length xc k) (hk : us[k]? = some n) (hl : us.length ≤ 4) (hnb : nodeB n = true) (hvv : verV v = true) (hv : Own1 w 0 w.heap.size v) (hyes : stepL n.ss v ≠ none) :
    Calls Try.prog 32 #[.pointer (some ⟨L, 0, none⟩), .agg (verC v.k v.t v.u v.a v.ts.length v.c v.s v.g)] w (AppliedC w base G xc us k v) := by
  obtain ⟨j0, hj0, hy0, hy1, hy2⟩ := info_parts ver_info
  have J0 := hide hj0
  have J1 := hide hy0
  have J2 := hide hy1
  have J3 := hide hy2
  clear hj0 hy0 hy1 hy2
  have hkl := (List.getElem?_eq_some_iff.1 hk).1
  obtain ⟨hs4, hw6, _⟩ := node_ts hnb
  obtain ⟨kn, hkn, hkn4⟩ : ∃ kn : Nat, v.k = (kn : Int) ∧ kn < 4 := by
    have := verV_key hvv
    exact ⟨v.k.toNat, by omega, by omega⟩
  have hvl : v.ts.length = 4 := pastB_len4 (verB_parts hvv).2.2.2
  obtain ⟨y, hy⟩ : ∃ y, n.ss[kn]? = some y := ⟨_, List.getElem?_eq_getElem (by omega)⟩
  obtain ⟨Gs, cu, hsa, hO⟩ : ∃ Gs cu, n.sa = some ⟨Gs, 0, none⟩ ∧ ORow w base w.heap.size Gs n.ss cu := by
    rcases hG.store k n hk with h0 | h
    · rw [h0] at hs4; simp at hs4
    · exact h
  have hcg : ∃ cur, Cg w G us cur := by
    obtain ⟨_, hR⟩ := hG.res
    rcases hR with h0 | ⟨G', cur, e, hR⟩
    · rw [h0] at hkl; simp at hkl
    · injection e with e
      injection e with e
      subst e
      exact ⟨cur, hR.cg⟩
  obtain ⟨cur, hcg⟩ := hcg
  obtain ⟨b1, b2, -, -, -, hL1, hL2, hL3⟩ := hL
  have S0 := (Inv.start w).box 32 (verC v.k v.t v.u v.a v.ts.length v.c v.s v.g)
  simp only [World.size_alloc] at S0
  have gs1 := hO.hi
  have gs0 := hO.lo
  have gin := hcg.blk.inside
  have lin := hL1.inside
  have hLs : L ≠ Gs := fun e => by subst e; exact absurd (blk_one hL1 hO.blk) (by decide)
  have h1s : b1 ≠ Gs := fun e => by subst e; exact absurd (blk_one hL2 hO.blk) (by decide)
  have h2s : b2 ≠ Gs := fun e => by subst e; exact absurd (blk_one hL3 hO.blk) (by decide)
  have hLG : L ≠ G := fun e => by subst e; exact absurd (blk_one hL1 hcg.blk) (by decide)
  have hne : G ≠ Gs := fun e => by subst e; exact absurd (blk_one hcg.blk hO.blk) (by decide)
  have HG := hide hG
  have HCG := hide hcg
  have HO := hide hO
  have HK := hide hk
  have HY := hide hy
  have HSA := hide hsa
  have HYES := hide hyes
  have HV := hide hv
  have HVL := hide hvl
  have HS4 := hide hs4.1
  have HL1 := hide hL1
  have HL2 := hide hL2
  have HL3 := hide hL3
  have CELL : Hid (∀ W, Below w.heap.size w W → W.cell? ⟨G, k * 2, none⟩ = some (.slice (some ⟨Gs, 0, none⟩) 4 n.sc)) := fun W hW => by
    have := ((HCG.out.on hW).blk.at (k * 2)).trans (HCG.out.at' k n HK.out).1
    rw [HSA.out, HS4.out] at this
    exact this
  have CELS : Hid (∀ W, Below w.heap.size w W → W.cell? ⟨Gs, kn * 6 + 1, none⟩ = some (.int .i64 y.t) ∧ W.cell? ⟨Gs, kn * 6 + 2, none⟩ = some (.int .i64 y.u)) := fun W hW => by
    have hr := HO.out.on hW
    exact ⟨(hr.blk.at _).trans (hr.at' kn y HY.out).2.1, (hr.blk.at _).trans (hr.at' kn y HY.out).2.2.1⟩
  obtain ⟨vk, vt, vu, va, vc, vts, vs, vg⟩ := v
  simp only at hkn S0 hvl hvv
  subst hkn
  have i1 : (0 : Int) ≤ (k : Int) := by omega
  have i2 : (k : Int) < (us.length : Int) := by omega
  have i3 : (0 : Int) ≤ (kn : Int) := by omega
  have i4 : (kn : Int) < 4 := by omega
  clear hG hk hcg hO hy hsa hyes hv hvl hs4 hnb hL1 hL2 hL3
  go_enter Try.func32, Try.ntmps32
  go_wp2_with fail
  generalize w.alloc (.cells (verC (kn : Int) vt vu va vts.length vc vs vg) 32) = W0 at S0 ⊢
  have jh : ∀ {W : World}, Inv w (w.heap.size + 1) [(w.heap.size, 32, (verC (kn : Int) vt vu va vts.length vc vs vg))] W → (W.cell? ⟨L, 0, none⟩ = some (.pointer (some ⟨G, k * 2, none⟩)) ∧ W.cell? ⟨G, k * 2, none⟩ = some (.slice (some ⟨Gs, 0, none⟩) 4 n.sc)) ∧ (W.cell? ⟨w.heap.size, 0, none⟩ = some (.int .i64 (kn : Int)) ∧ W.cell? ⟨w.heap.size, 1, none⟩ = some (.int .i64 vt) ∧ W.cell? ⟨w.heap.size, 2, none⟩ = some (.int .i64 vu)) ∧ (W.cell? ⟨Gs, kn * 6 + 1, none⟩ = some (.int .i64 y.t) ∧ W.cell? ⟨Gs, kn * 6 + 2, none⟩ = some (.int .i64 y.u)) ∧ Inv w (w.heap.size + 1) [(w.heap.size, 32, (verC (kn : Int) vt vu va vts.length vc vs vg))] W :=
    fun hI => ⟨⟨(HL1.out.on hI.below).at 0, CELL.out _ hI.below⟩, ⟨(hI.nth 0 rfl).at 0, (hI.nth 0 rfl).at 1, (hI.nth 0 rfl).at 2⟩, CELS.out _ hI.below, hI⟩
  refine wp_region_noPanic ?_
  refine wp_region_held_drew (S := (fun w' => (w'.cell? ⟨L, 0, none⟩ = some (.pointer (some ⟨G, k * 2, none⟩)) ∧ w'.cell? ⟨G, k * 2, none⟩ = some (.slice (some ⟨Gs, 0, none⟩) 4 n.sc)) ∧ (w'.cell? ⟨w.heap.size, 0, none⟩ = some (.int .i64 (kn : Int)) ∧ w'.cell? ⟨w.heap.size, 1, none⟩ = some (.int .i64 vt) ∧ w'.cell? ⟨w.heap.size, 2, none⟩ = some (.int .i64 vu)) ∧ (w'.cell? ⟨Gs, kn * 6 + 1, none⟩ = some (.int .i64 y.t) ∧ w'.cell? ⟨Gs, kn * 6 + 2, none⟩ = some (.int .i64 y.u)) ∧ Inv w (w.heap.size + 1) [(w.heap.size, 32, (verC (kn : Int) vt vu va vts.length vc vs vg))] w')) (by kernel_rfl) (by exact jh S0.drew) (fun hHeld => ?_)
  refine take_run 0 (some 4) (v := ?_) rfl rfl (by kernel_rfl) (by kernel_rfl) (by kernel_rfl) (fun _ _ _ h => h) (by rfl) ?_ hHeld ?_
  rotate_left
  · ((intro w hSw); (try dsimp only at hSw); go_simp <;> with_reducible rfl)
  simp only [Act.put, List.setIfInBounds_toArray, List.set_cons_zero, List.set_cons_succ]
  refine take_run 1 (some 5) (v := ?_) rfl rfl (by kernel_rfl) (by kernel_rfl) (by kernel_rfl) (fun _ _ _ h => h) (by rfl) ?_ hHeld ?_
  rotate_left
  · ((intro w hSw); (try dsimp only at hSw); go_simp <;> with_reducible rfl)
  simp only [Act.put, List.setIfInBounds_toArray, List.set_cons_zero, List.set_cons_succ]
  refine take_run 2 (some 6) (v := ?_) rfl rfl (by kernel_rfl) (by kernel_rfl) (by kernel_rfl) (fun _ _ _ h => h) (by rfl) ?_ hHeld ?_
  rotate_left
  · ((intro w hSw); (try dsimp only at hSw); go_simp <;> with_reducible rfl)
  simp only [Act.put, List.setIfInBounds_toArray, List.set_cons_zero, List.set_cons_succ]
  refine take_run 3 (some 7) (v := ?_) rfl rfl (by kernel_rfl) (by kernel_rfl) (by kernel_rfl) (fun _ _ _ h => h) (by rfl) ?_ hHeld ?_
  rotate_left
  · ((intro w hSw); (try dsimp only at hSw); go_simp <;> with_reducible rfl)
  simp only [Act.put, List.setIfInBounds_toArray, List.set_cons_zero, List.set_cons_succ]
  refine take_run 4 (some 8) (v := ?_) rfl rfl (by kernel_rfl) (by kernel_rfl) (by kernel_rfl) (fun _ _ _ h => h) (by rfl) ?_ hHeld ?_
  rotate_left
  · ((intro w hSw); (try dsimp only at hSw); go_simp <;> with_reducible rfl)
  simp only [Act.put, List.setIfInBounds_toArray, List.set_cons_zero, List.set_cons_succ]
  refine take_run 5 (some 9) (v := ?_) rfl rfl (by kernel_rfl) (by kernel_rfl) (by kernel_rfl) (fun _ _ _ h => h) (by rfl) ?_ hHeld ?_
  rotate_left
  · ((intro w hSw); (try dsimp only at hSw); go_simp <;> with_reducible rfl)
  simp only [Act.put, List.setIfInBounds_toArray, List.set_cons_zero, List.set_cons_succ]
  refine take_run 6 (some 10) (v := ?_) rfl rfl (by kernel_rfl) (by kernel_rfl) (by kernel_rfl) (fun _ _ _ h => h) (by rfl) ?_ hHeld ?_
  rotate_left
  · ((intro w hSw); (try dsimp only at hSw); go_simp <;> with_reducible rfl)
  simp only [Act.put, List.setIfInBounds_toArray, List.set_cons_zero, List.set_cons_succ]
  refine take_run 7 (some 11) (v := ?_) rfl rfl (by kernel_rfl) (by kernel_rfl) (by kernel_rfl) (fun _ _ _ h => h) (by rfl) ?_ hHeld ?_
  rotate_left
  · ((intro w hSw); (try dsimp only at hSw); go_simp <;> with_reducible rfl)
  simp only [Act.put, List.setIfInBounds_toArray, List.set_cons_zero, List.set_cons_succ]
  refine take_run 8 (some 12) (v := ?_) rfl rfl (by kernel_rfl) (by kernel_rfl) (by kernel_rfl) (fun _ _ _ h => h) (by rfl) ?_ hHeld ?_
  rotate_left
  · ((intro w hSw); (try dsimp only at hSw); go_simp <;> with_reducible rfl)
  simp only [Act.put, List.setIfInBounds_toArray, List.set_cons_zero, List.set_cons_succ]
  refine take_run 9 (some 13) (v := ?_) rfl rfl (by kernel_rfl) (by kernel_rfl) (by kernel_rfl) (fun _ _ _ h => h) (by rfl) ?_ hHeld ?_
  rotate_left
  · ((intro w hSw); (try dsimp only at hSw); go_simp <;> with_reducible rfl)
  simp only [Act.put, List.setIfInBounds_toArray, List.set_cons_zero, List.set_cons_succ]
  refine take_run 10 (some 14) (v := ?_) rfl rfl (by kernel_rfl) (by kernel_rfl) (by kernel_rfl) (fun _ _ _ h => h) (by rfl) ?_ hHeld ?_
  rotate_left
  · ((intro w hSw); (try dsimp only at hSw); go_simp <;> with_reducible rfl)
  simp only [Act.put, List.setIfInBounds_toArray, List.set_cons_zero, List.set_cons_succ]
  refine take_run 11 (some 15) (v := ?_) rfl rfl (by kernel_rfl) (by kernel_rfl) (by kernel_rfl) (fun _ _ _ h => h) (by rfl) ?_ hHeld ?_
  rotate_left
  · ((intro w hSw); (try dsimp only at hSw); go_simp <;> with_reducible rfl)
  simp only [Act.put, List.setIfInBounds_toArray, List.set_cons_zero, List.set_cons_succ]
  refine take_run 12 (some 16) (v := ?_) rfl rfl (by kernel_rfl) (by kernel_rfl) (by kernel_rfl) (fun _ _ _ h => h) (by rfl) ?_ hHeld ?_
  rotate_left
  · ((intro w hSw); (try dsimp only at hSw); go_simp <;> with_reducible rfl)
  simp only [Act.put, List.setIfInBounds_toArray, List.set_cons_zero, List.set_cons_succ]
  refine take_run 13 (some 17) (v := ?_) rfl rfl (by kernel_rfl) (by kernel_rfl) (by kernel_rfl) (fun _ _ _ h => h) (by rfl) ?_ hHeld ?_
  rotate_left
  · ((intro w hSw); (try dsimp only at hSw); go_simp <;> with_reducible rfl)
  simp only [Act.put, List.setIfInBounds_toArray, List.set_cons_zero, List.set_cons_succ]
  refine take_run 14 (some 18) (v := ?_) rfl rfl (by kernel_rfl) (by kernel_rfl) (by kernel_rfl) (fun _ _ _ h => h) (by rfl) ?_ hHeld ?_
  rotate_left
  · ((intro w hSw); (try dsimp only at hSw); go_simp <;> with_reducible rfl)
  simp only [Act.put, List.setIfInBounds_toArray, List.set_cons_zero, List.set_cons_succ]
  refine take_one 15 (by kernel_rfl) rfl (fun K hK => ?_)
  go_simp
  ((with_reducible refine (less_any y.t y.u vt vu _).mono ?_); rintro e w1 ⟨rfl, hb1⟩)
  try go_wp2_with fail
  refine hK.out _ _ (by exact jh (hHeld.2.2.2.on hb1)) (fun hHeld => ?_)
  clear hK K
  refine take_run 16 (some 20) (v := ?_) rfl rfl (by kernel_rfl) (by kernel_rfl) (by kernel_rfl) (fun _ _ _ h => h) (by rfl) ?_ hHeld ?_
  rotate_left
  · ((intro w hSw); (try dsimp only at hSw); go_simp <;> with_reducible rfl)
  simp only [Act.put, List.setIfInBounds_toArray, List.set_cons_zero, List.set_cons_succ]
  refine wpAnyH_done (by kernel_rfl) ?_ _
  refine NoPanic.normal ?_
  have I1 := hHeld.2.2.2
  clear hHeld S0
  have hless : lessB y.t y.u vt vu = true := by
    cases h : lessB y.t y.u vt vu with
    | true => rfl
    | false => exact absurd (stepL_no (v := ⟨(kn : Int), vt, vu, va, vc, vts, vs, vg⟩) rfl HY.out h) HYES.out
  have HST : Hid (stepL n.ss ⟨(kn : Int), vt, vu, va, vc, vts, vs, vg⟩ = some (n.ss.set kn ⟨(kn : Int), vt, vu, va, vc, vts, vs, vg⟩)) := stepL_yes rfl HY.out hless
  rw [hless]
  have BV := I1.nth 0 rfl
  have BL := HL1.out.on I1.below
  have BB1 := HL2.out.on I1.below
  have BB2 := HL3.out.on I1.below
  have BG := (HCG.out.on I1.below).blk
  have HG1 := hide ((HG.out.on I1.below).on (Below.refl _ _).drew)
  have HO1 : Hid (ORow w1.drew base w1.drew.heap.size Gs n.ss cu) := ((HO.out.on I1.below).wide I1.base).on (Below.refl _ _).drew
  have HV1 : Hid (Own1 w1.drew 0 w1.drew.heap.size ⟨(kn : Int), vt, vu, va, vc, vts, vs, vg⟩) := ((HV.out.on I1.below).wide I1.base).on (Below.refl _ _).drew
  have HT1 := hide ((Turn.below (P := TouchC w base) I1.below).trans (.below (Below.refl _ _).drew))
  have zb := I1.base
  have zr := I1.room
  have hc0 := CELL.out _ I1.below
  have HCUR : Hid (cur[k * 2]? = some (.slice (some ⟨Gs, 0, none⟩) 4 n.sc)) := (BG.at (k * 2)).symm.trans hc0
  have hvs : w.heap.size ≠ Gs := by omega
  have hkn4' : kn < n.ss.length := by have := HS4.out; omega
  have CP := hide (clone_any ⟨(kn : Int), vt, vu, va, vc, vts, vs, vg⟩ w1.drew (by have := HVL.out; simp only at this ⊢; omega) HV1.out.tg)
  have PO : Hid (∀ (w2 : World) (v2 : V), Below w1.drew.heap.size w1.drew w2 → Own1 w2 w1.drew.heap.size w2.heap.size v2 → ORow ((((((w2.setCell ⟨Gs, kn * 6, none⟩ (.int .i64 v2.k)).setCell ⟨Gs, kn * 6 + 1, none⟩ (.int .i64 v2.t)).setCell ⟨Gs, kn * 6 + 2, none⟩ (.int .i64 v2.u)).setCell ⟨Gs, kn * 6 + 3, none⟩ (.slice v2.a v2.ts.length v2.c)).setCell ⟨Gs, kn * 6 + 4, none⟩ (.string v2.s)).setCell ⟨Gs, kn * 6 + 5, none⟩ (.bool v2.g)) base w2.heap.size Gs (n.ss.set kn v2) (put6 cu kn v2) ∧ Turn (fun g => g = Gs) w2 ((((((w2.setCell ⟨Gs, kn * 6, none⟩ (.int .i64 v2.k)).setCell ⟨Gs, kn * 6 + 1, none⟩ (.int .i64 v2.t)).setCell ⟨Gs, kn * 6 + 2, none⟩ (.int .i64 v2.u)).setCell ⟨Gs, kn * 6 + 3, none⟩ (.slice v2.a v2.ts.length v2.c)).setCell ⟨Gs, kn * 6 + 4, none⟩ (.string v2.s)).setCell ⟨Gs, kn * 6 + 5, none⟩ (.bool v2.g))) := fun w2 v2 hb ho => put_own (w1 := w1.drew) (cur0 := cu) ((HO1.out.on hb).wide hb.size) hkn4' ho HO1.out
  clear hless jh I1
  go_wp2_with fail
  refine wp_region_noPanic ?_
  refine wp_region_held_drew (S := (fun w' => (w'.cell? ⟨L, 0, none⟩ = some (.pointer (some ⟨G, k * 2, none⟩)) ∧ w'.cell? ⟨G, k * 2, none⟩ = some (.slice (some ⟨Gs, 0, none⟩) 4 n.sc)) ∧ Six w' w.heap.size 0 ⟨(kn : Int), vt, vu, va, vc, vts, vs, vg⟩ ∧ (Blk w' L 75 #[.pointer (some ⟨G, k * 2, none⟩), .func (.func 70) #[] #[.pointer (some ⟨b1, 0, none⟩), .pointer (some ⟨b2, 0, none⟩)]] ∧ Blk w' b1 23 #[.slice (some ⟨G, 0, none⟩) us.length xc] ∧ Blk w' b2 3 #[.int .i64 (k : Int)] ∧ Blk w' w.heap.size 32 (verC (kn : Int) vt vu va vts.length vc vs vg) ∧ Blk w' G 45 cur))) (by kernel_rfl) (by exact ⟨⟨BL.drew.at 0, hc0⟩, BV.drew.six.1, BL.drew, BB1.drew, BB2.drew, BV.drew, BG.drew⟩) (fun hHeld => ?_)
  refine take_run 0 (some 21) (v := ?_) rfl rfl (by kernel_rfl) (by kernel_rfl) (by kernel_rfl) (fun _ _ _ h => h) (by rfl) ?_ hHeld ?_
  rotate_left
  · ((intro w hSw); (try dsimp only at hSw); go_simp <;> with_reducible rfl)
  simp only [Act.put, List.setIfInBounds_toArray, List.set_cons_zero, List.set_cons_succ]
  refine take_run 1 (some 22) (v := ?_) rfl rfl (by kernel_rfl) (by kernel_rfl) (by kernel_rfl) (fun _ _ _ h => h) (by rfl) ?_ hHeld ?_
  rotate_left
  · ((intro w hSw); (try dsimp only at hSw); go_simp <;> with_reducible rfl)
  simp only [Act.put, List.setIfInBounds_toArray, List.set_cons_zero, List.set_cons_succ]
  refine take_run 2 (some 23) (v := ?_) rfl rfl (by kernel_rfl) (by kernel_rfl) (by kernel_rfl) (fun _ _ _ h => h) (by rfl) ?_ hHeld ?_
  rotate_left
  · ((intro w hSw); (try dsimp only at hSw); go_simp <;> with_reducible rfl)
  simp only [Act.put, List.setIfInBounds_toArray, List.set_cons_zero, List.set_cons_succ]
  refine take_run 3 (some 24) (v := ?_) rfl rfl (by kernel_rfl) (by kernel_rfl) (by kernel_rfl) (fun _ _ _ h => h) (by rfl) ?_ hHeld ?_
  rotate_left
  · ((intro w hSw); (try dsimp only at hSw); go_simp <;> with_reducible rfl)
  simp only [Act.put, List.setIfInBounds_toArray, List.set_cons_zero, List.set_cons_succ]
  refine take_run 4 (some 25) (v := ?_) rfl rfl (by kernel_rfl) (by kernel_rfl) (by kernel_rfl) (fun _ _ _ h => h) (by rfl) ?_ hHeld ?_
  rotate_left
  · ((intro w hSw); (try dsimp only at hSw); go_simp <;> with_reducible rfl)
  simp only [Act.put, List.setIfInBounds_toArray, List.set_cons_zero, List.set_cons_succ]
  refine take_run 5 (some 26) (v := ?_) rfl rfl (by kernel_rfl) (by kernel_rfl) (by kernel_rfl) (fun _ _ _ h => h) (by rfl) ?_ hHeld ?_
  rotate_left
  · ((intro w hSw); (try dsimp only at hSw); go_simp <;> with_reducible rfl)
  simp only [Act.put, List.setIfInBounds_toArray, List.set_cons_zero, List.set_cons_succ]
  refine take_run 6 (some 27) (v := ?_) rfl rfl (by kernel_rfl) (by kernel_rfl) (by kernel_rfl) (fun _ _ _ h => h) (by rfl) ?_ hHeld ?_
  rotate_left
  · ((intro w hSw); (try dsimp only at hSw); go_simp <;> with_reducible rfl)
  simp only [Act.put, List.setIfInBounds_toArray, List.set_cons_zero, List.set_cons_succ]
  refine take_run 7 (some 28) (v := ?_) rfl rfl (by kernel_rfl) (by kernel_rfl) (by kernel_rfl) (fun _ _ _ h => h) (by rfl) ?_ hHeld ?_
  rotate_left
  · ((intro w hSw); (try dsimp only at hSw); go_simp <;> with_reducible rfl)
  simp only [Act.put, List.setIfInBounds_toArray, List.set_cons_zero, List.set_cons_succ]
  refine take_run 8 (some 29) (v := ?_) rfl rfl (by kernel_rfl) (by kernel_rfl) (by kernel_rfl) (fun _ _ _ h => h) (by rfl) ?_ hHeld ?_
  rotate_left
  · ((intro w hSw); (try dsimp only at hSw); go_simp <;> with_reducible rfl)
  simp only [Act.put, List.setIfInBounds_toArray, List.set_cons_zero, List.set_cons_succ]
  refine take_run 9 (some 30) (v := ?_) rfl rfl (by kernel_rfl) (by kernel_rfl) (by kernel_rfl) (fun _ _ _ h => h) (by rfl) ?_ hHeld ?_
  rotate_left
  · ((intro w hSw); (try dsimp only at hSw); go_simp <;> with_reducible rfl)
  simp only [Act.put, List.setIfInBounds_toArray, List.set_cons_zero, List.set_cons_succ]
  refine take_run 10 (some 31) (v := ?_) rfl rfl (by kernel_rfl) (by kernel_rfl) (by kernel_rfl) (fun _ _ _ h => h) (by rfl) ?_ hHeld ?_
  rotate_left
  · ((intro w hSw); (try dsimp only at hSw); go_simp <;> with_reducible rfl)
  simp only [Act.put, List.setIfInBounds_toArray, List.set_cons_zero, List.set_cons_succ]
  refine take_one 11 (by kernel_rfl) rfl (fun K hK => ?_)
  go_simp
  ((with_reducible refine CP.out.mono ?_); rintro e w2 ⟨v2, rfl, hlk, hov, hb2⟩; have HLK := hide hlk; have HOV := hide hov; have HB2 := hide hb2; have HP := hide (PO.out w2 v2 hb2 hov); have z2 : w1.heap.size ≤ w2.heap.size := hb2.size; have HR2 := hide (HO1.out.on hb2); obtain ⟨e0, e1, e2, e3, e4, e5⟩ := HR2.out.at' kn y HY.out; have d0 := (HR2.out.blk.at (kn * 6)).trans e0; have d1 := (HR2.out.blk.at (kn * 6 + 1)).trans e1; have d2 := (HR2.out.blk.at (kn * 6 + 2)).trans e2; have d3 := (HR2.out.blk.at (kn * 6 + 3)).trans e3; have d4 := (HR2.out.blk.at (kn * 6 + 4)).trans e4; have d5 := (HR2.out.blk.at (kn * 6 + 5)).trans e5; have f0 := HR2.out.blk.loose (kn * 6); have f1 := HR2.out.blk.loose (kn * 6 + 1); have f2 := HR2.out.blk.loose (kn * 6 + 2); have f3 := HR2.out.blk.loose (kn * 6 + 3); have f4 := HR2.out.blk.loose (kn * 6 + 4); have f5 := HR2.out.blk.loose (kn * 6 + 5); clear hlk hov)
  try go_wp2_with fail
  refine hK.out _ _ (by exact ⟨⟨(hHeld.2.2.1.on HB2.out).at 0, ((hHeld.2.2.2.2.2.2.on HB2.out).at (k * 2)).trans HCUR.out⟩, (hHeld.2.2.2.2.2.1.on HB2.out).six.1, hHeld.2.2.1.on HB2.out, hHeld.2.2.2.1.on HB2.out, hHeld.2.2.2.2.1.on HB2.out, hHeld.2.2.2.2.2.1.on HB2.out, hHeld.2.2.2.2.2.2.on HB2.out⟩) (fun hHeld => ?_)
  clear hK K
  refine take_run 12 (some 33) (v := ?_) rfl rfl (by kernel_rfl) (by kernel_rfl) (by kernel_rfl) (fun _ _ _ h => h) (by rfl) ?_ hHeld ?_
  rotate_left
  · ((intro w hSw); (try dsimp only at hSw); go_simp <;> with_reducible rfl)
  simp only [Act.put, List.setIfInBounds_toArray, List.set_cons_zero, List.set_cons_succ]
  refine take_one 13 (by kernel_rfl) rfl (fun K hK => ?_)
  go_simp
  refine hK.out _ _ (by exact ⟨⟨(hHeld.2.2.1.turned HP.out.2 hLs).at 0, ((hHeld.2.2.2.2.2.2.turned HP.out.2 hne).at (k * 2)).trans HCUR.out⟩, (hHeld.2.2.2.2.2.1.turned HP.out.2 hvs).six.1, hHeld.2.2.1.turned HP.out.2 hLs, hHeld.2.2.2.1.turned HP.out.2 h1s, hHeld.2.2.2.2.1.turned HP.out.2 h2s, hHeld.2.2.2.2.2.1.turned HP.out.2 hvs, hHeld.2.2.2.2.2.2.turned HP.out.2 hne⟩) (fun hHeld => ?_)
  clear hK K
  refine wpAnyH_done (by kernel_rfl) ?_ _
  refine NoPanic.normal ?_
  obtain ⟨-, -, BL', BB1', BB2', BV', BG'⟩ := hHeld
  have HTT := hide ((Turn.below (P := fun g => g = Gs) HB2.out).trans HP.out.2)
  have HOVx := hide ((HOV.out.turned HP.out.2 (fun g hg hb _ _ e => by have q5 : w1.heap.size ≤ g := hb; have e' : g = Gs := e; omega)).wide HP.out.2.size)
  have HG9 := hide (HG1.out.setStore (v' := v2) (cur' := put6 cu kn v2) (kn := kn) HK.out HSA.out (by intro e; have := HS4.out; rw [e] at this; simp at this) HOVx.out (HP.out.1.wide HP.out.2.size) HTT.out)
  have HV9 := hide (HV1.out.turned HTT.out (fun g hg _ _ hn e => by
    have e' : g = Gs := e
    subst e'
    rcases HV1.out with q | ⟨g', _, e1, _, _, q3, _⟩
    · exact hn q
    · simp only at e1 hg
      rw [hg] at e1
      injection e1 with e1
      injection e1 with e1
      subst e1
      exact absurd (blk_one q3 HO1.out.blk) (by decide)))
  have HT9 := hide (HT1.out.trans (HTT.out.mono (fun g e => by have e' : g = Gs := e; subst e'; exact ⟨gs0, _, .inl HO.out.blk⟩)))
  have z9 : w1.heap.size ≤ ((((((w2.setCell ⟨Gs, kn * 6, none⟩ (.int .i64 v2.k)).setCell ⟨Gs, kn * 6 + 1, none⟩ (.int .i64 v2.t)).setCell ⟨Gs, kn * 6 + 2, none⟩ (.int .i64 v2.u)).setCell ⟨Gs, kn * 6 + 3, none⟩ (.slice v2.a v2.ts.length v2.c)).setCell ⟨Gs, kn * 6 + 4, none⟩ (.string v2.s)).setCell ⟨Gs, kn * 6 + 5, none⟩ (.bool v2.g)).heap.size := HTT.out.size
  clear d0 d1 d2 d3 d4 d5 f0 f1 f2 f3 f4 f5 e0 e1 e2 e3 e4 e5 BV BL BB1 BB2 BG hc0 CP PO HOVx HR2
  generalize ((((((w2.setCell ⟨Gs, kn * 6, none⟩ (.int .i64 v2.k)).setCell ⟨Gs, kn * 6 + 1, none⟩ (.int .i64 v2.t)).setCell ⟨Gs, kn * 6 + 2, none⟩ (.int .i64 v2.u)).setCell ⟨Gs, kn * 6 + 3, none⟩ (.slice v2.a v2.ts.length v2.c)).setCell ⟨Gs, kn * 6 + 4, none⟩ (.string v2.s)).setCell ⟨Gs, kn * 6 + 5, none⟩ (.bool v2.g)) = W9 at BL' BB1' BB2' BV' BG' HG9 HV9 HT9 HTT HP z9 ⊢
  have CT := hide (next_any G us.length xc k b1 b2 W9 (by omega) (by omega) BB1' BB2')
  have q0 := BL'.two.1
  have q1 : W9.cell? ⟨L, 1, none⟩ = some (.func (.func 70) #[] #[.pointer (some ⟨b1, 0, none⟩), .pointer (some ⟨b2, 0, none⟩)]) := BL'.at 1
  go_wp2_with fail
  with_reducible refine CT.out.mono ?_
  rintro e w4 ⟨hE, hb4⟩
  have HE := hide hE
  have HB4 := hide hb4
  have BL4 := BL'.on hb4
  have BV4 := BV'.on hb4
  have N6 := hide (BG'.on hb4)
  have HG6 := hide (HG9.out.on hb4)
  have HT6 := hide (HT9.out.trans (.below hb4))
  have HV6 := hide ((HV9.out.on hb4).wide (Nat.le_trans z9 hb4.size))
  have z4 := hb4.size
  clear hE hb4 CT q0 q1 BL' BB1' BB2' BV' BG'
  by_cases hlt : k + 1 < us.length
  · have hq := HE.out
    rw [if_pos hlt] at hq
    obtain ⟨L', rfl, hL'⟩ := hq
    clear hL' HE
    have HADD : Hid (addN us k ⟨(kn : Int), vt, vu, va, vc, vts, vs, vg⟩ = us.set k ⟨n.sa, n.sc, n.ss.set kn ⟨(kn : Int), vt, vu, va, vc, vts, vs, vg⟩, n.wa, n.wc, n.ws ++ [⟨(kn : Int), vt, vu, va, vc, vts, vs, vg⟩]⟩) := by
      unfold Hid
      rw [addN_at HK.out, decide_eq_false (by omega)]
      unfold addNd
      rw [HST.out]
      rfl
    obtain ⟨n1, hn1⟩ : ∃ n1 : Nd, n1 = ⟨n.sa, n.sc, n.ss.set kn v2, n.wa, n.wc, n.ws⟩ := ⟨_, rfl⟩
    have HN1' := hide hn1
    rw [← hn1] at HG6
    have HEW : Hid (n1.wa = n.wa ∧ n1.wc = n.wc ∧ n1.ws = n.ws) := ⟨by rw [hn1], by rw [hn1], by rw [hn1]⟩
    clear hn1
    have HK1 : Hid ((us.set k n1)[k]? = some n1) := List.getElem?_set_self hkl
    have HG7 : Hid (GRow base w4.drew (.slice (some ⟨G, 0, none⟩) (us.set k n1).length xc) (us.set k n1)) := by
      unfold Hid
      rw [List.length_set]
      exact HG6.out.on (Below.refl _ _).drew
    have HTW := hide (HG.out.own k n HK.out).typed
    have HCU2 : Hid (cur[k * 2 + 1]? = some (.slice n.wa n.ws.length n.wc)) := (HCG.out.at' k n HK.out).2
    have q1 : w4.drew.cell? ⟨G, k * 2 + 1, none⟩ = some (.slice n.wa n.ws.length n.wc) := (N6.out.drew.at _).trans HCU2.out
    have hw6' : n.ws.length ≤ 6 := hw6
    have CP := hide (clone_any ⟨(kn : Int), vt, vu, va, vc, vts, vs, vg⟩ w4.drew (by have := HVL.out; simp only at this ⊢; omega) (HV6.out.on (Below.refl _ _).drew).tg)
    have hb6 : base ≤ w4.heap.size := HG6.out.lo
    go_wp2_with fail
    refine wp_region_noPanic ?_
    refine wp_region_held_drew (S := (fun w' => w'.cell? ⟨L, 0, none⟩ = some (.pointer (some ⟨G, k * 2, none⟩)) ∧ Six w' w.heap.size 0 ⟨(kn : Int), vt, vu, va, vc, vts, vs, vg⟩ ∧ (Blk w' L 75 #[.pointer (some ⟨G, k * 2, none⟩), .func (.func 70) #[] #[.pointer (some ⟨b1, 0, none⟩), .pointer (some ⟨b2, 0, none⟩)]] ∧ Blk w' w.heap.size 32 (verC (kn : Int) vt vu va vts.length vc vs vg)))) (by kernel_rfl) (by exact ⟨BL4.drew.at 0, BV4.drew.six.1, BL4.drew, BV4.drew⟩) (fun hHeld => ?_)
    refine take_run 0 (some 40) (v := ?_) rfl rfl (by kernel_rfl) (by kernel_rfl) (by kernel_rfl) (fun _ _ _ h => h) (by rfl) ?_ hHeld ?_
    rotate_left
    · ((intro w hSw); (try dsimp only at hSw); go_simp <;> with_reducible rfl)
    simp only [Act.put, List.setIfInBounds_toArray, List.set_cons_zero, List.set_cons_succ]
    refine take_run 1 (some 41) (v := ?_) rfl rfl (by kernel_rfl) (by kernel_rfl) (by kernel_rfl) (fun _ _ _ h => h) (by rfl) ?_ hHeld ?_
    rotate_left
    · ((intro w hSw); (try dsimp only at hSw); go_simp <;> with_reducible rfl)
    simp only [Act.put, List.setIfInBounds_toArray, List.set_cons_zero, List.set_cons_succ]
    refine take_run 2 (some 42) (v := ?_) rfl rfl (by kernel_rfl) (by kernel_rfl) (by kernel_rfl) (fun _ _ _ h => h) (by rfl) ?_ hHeld ?_
    rotate_left
    · ((intro w hSw); (try dsimp only at hSw); go_simp <;> with_reducible rfl)
    simp only [Act.put, List.setIfInBounds_toArray, List.set_cons_zero, List.set_cons_succ]
    refine take_run 3 (some 43) (v := ?_) rfl rfl (by kernel_rfl) (by kernel_rfl) (by kernel_rfl) (fun _ _ _ h => h) (by rfl) ?_ hHeld ?_
    rotate_left
    · ((intro w hSw); (try dsimp only at hSw); go_simp <;> with_reducible rfl)
    simp only [Act.put, List.setIfInBounds_toArray, List.set_cons_zero, List.set_cons_succ]
    refine take_run 4 (some 44) (v := ?_) rfl rfl (by kernel_rfl) (by kernel_rfl) (by kernel_rfl) (fun _ _ _ h => h) (by rfl) ?_ hHeld ?_
    rotate_left
    · ((intro w hSw); (try dsimp only at hSw); go_simp <;> with_reducible rfl)
    simp only [Act.put, List.setIfInBounds_toArray, List.set_cons_zero, List.set_cons_succ]
    refine take_run 5 (some 45) (v := ?_) rfl rfl (by kernel_rfl) (by kernel_rfl) (by kernel_rfl) (fun _ _ _ h => h) (by rfl) ?_ hHeld ?_
    rotate_left
    · ((intro w hSw); (try dsimp only at hSw); go_simp <;> with_reducible rfl)
    simp only [Act.put, List.setIfInBounds_toArray, List.set_cons_zero, List.set_cons_succ]
    refine take_run 6 (some 46) (v := ?_) rfl rfl (by kernel_rfl) (by kernel_rfl) (by kernel_rfl) (fun _ _ _ h => h) (by rfl) ?_ hHeld ?_
    rotate_left
    · ((intro w hSw); (try dsimp only at hSw); go_simp <;> with_reducible rfl)
    simp only [Act.put, List.setIfInBounds_toArray, List.set_cons_zero, List.set_cons_succ]
    refine take_run 7 (some 47) (v := ?_) rfl rfl (by kernel_rfl) (by kernel_rfl) (by kernel_rfl) (fun _ _ _ h => h) (by rfl) ?_ hHeld ?_
    rotate_left
    · ((intro w hSw); (try dsimp only at hSw); go_simp <;> with_reducible rfl)
    simp only [Act.put, List.setIfInBounds_toArray, List.set_cons_zero, List.set_cons_succ]
    refine take_run 8 (some 48) (v := ?_) rfl rfl (by kernel_rfl) (by kernel_rfl) (by kernel_rfl) (fun _ _ _ h => h) (by rfl) ?_ hHeld ?_
    rotate_left
    · ((intro w hSw); (try dsimp only at hSw); go_simp <;> with_reducible rfl)
    simp only [Act.put, List.setIfInBounds_toArray, List.set_cons_zero, List.set_cons_succ]
    refine take_run 9 (some 49) (v := ?_) rfl rfl (by kernel_rfl) (by kernel_rfl) (by kernel_rfl) (fun _ _ _ h => h) (by rfl) ?_ hHeld ?_
    rotate_left
    · ((intro w hSw); (try dsimp only at hSw); go_simp <;> with_reducible rfl)
    simp only [Act.put, List.setIfInBounds_toArray, List.set_cons_zero, List.set_cons_succ]
    refine take_run 11 (some 51) (v := ?_) rfl rfl (by kernel_rfl) (by kernel_rfl) (by kernel_rfl) (fun _ _ _ h => h) (by rfl) ?_ hHeld ?_
    rotate_left
    · ((intro w hSw); (try dsimp only at hSw); go_simp <;> with_reducible rfl)
    simp only [Act.put, List.setIfInBounds_toArray, List.set_cons_zero, List.set_cons_succ]
    refine wpAnyH_ready (rs := [10, 12]) (by kernel_rfl) (by simp) ?_
    refine AllReadyH.cons rfl (fun K hK => ?_) (AllReadyH.cons rfl (fun K hK => ?_) AllReadyH.nil)
    · skip
      go_simp
      refine hK.out _ _ (by exact hHeld) (fun hHeld => ?_)
      clear hK K
      refine take_one 12 (by kernel_rfl) rfl (fun K hK => ?_)
      go_simp
      ((with_reducible refine CP.out.mono ?_); rintro e w7 ⟨v3, rfl, hlk2, hov2, hb7⟩; have HL2' := hide hlk2; have HO2 := hide hov2; have HB7 := hide hb7; have N7 := N6.out.drew.on hb7; have q2 : w7.cell? ⟨G, k * 2 + 1, none⟩ = some (.slice n.wa n.ws.length n.wc) := (N7.at _).trans HCU2.out; have q4 : (w7.alloc (.cells (verC v3.k v3.t v3.u v3.a v3.ts.length v3.c v3.s v3.g) 32)).cell? ⟨G, k * 2 + 1, none⟩ = some (.slice n.wa n.ws.length n.wc) := ((N7.more _).at _).trans HCU2.out; have z7 : w4.heap.size ≤ w7.heap.size := (by have := hb7.size; simpa using this); have HR := hide (show w7.ownsRow base 32 6 (.slice n.wa n.ws.length n.wc) n.ws.length (flat6 n.ws) by have := ((HG7.out.on hb7).own k n1 HK1.out).row; rw [HEW.out.1, HEW.out.2.1, HEW.out.2.2] at this; exact this); clear hlk2 hov2)
      try go_wp2_with fail
      refine hK.out _ _ (by exact ⟨(hHeld.2.2.1.on HB7.out).at 0, (hHeld.2.2.2.on HB7.out).six.1, hHeld.2.2.1.on HB7.out, hHeld.2.2.2.on HB7.out⟩) (fun hHeld => ?_)
      clear hK K
      refine take_one 13 (by kernel_rfl) rfl (fun K hK => ?_)
      go_simp
      refine hK.out _ _ (by exact ⟨(hHeld.2.2.1.more _).at 0, (hHeld.2.2.2.more _).six.1, hHeld.2.2.1.more _, hHeld.2.2.2.more _⟩) (fun hHeld => ?_)
      clear hK K
      refine take_one 14 (by kernel_rfl) rfl (fun K hK => ?_)
      (refine step_append_lies _ (by rfl) _ _ _ (by rfl) base 32 j0 _ 6 72 Try.underlying41 J0.out J1.out J2.out J3.out rfl (by omega) (.slice n.wa n.ws.length n.wc) n.ws.length (flat6 n.ws) (by rfl) (HR.out.alloc _) ⟨w7.heap.size, 0, none⟩ 1 1 (cells6 v3) (by rfl) (by rfl) (World.news_of_block (cs := verC v3.k v3.t v3.u v3.a v3.ts.length v3.c v3.s v3.g) (t := 32) (fr := (0, 0)) (heap_alloc_new w7 _)) (by simp [cells6, Value.oneCell']) (by omega) (by unfold maxLen; omega) (by omega) (by simp; omega) _ rfl ?_; intro g cap w8 hown2 hgrow hat hlt2; have N8 := (N7.more (.cells (verC v3.k v3.t v3.u v3.a v3.ts.length v3.c v3.s v3.g) 32)).kept hgrow (by intro e; obtain ⟨cs, b1, b2, b3⟩ := HTW.out _ e; exact absurd (blk_one b1 HCG.out.blk) (by decide)); have q5 : w8.cell? ⟨G, k * 2 + 1, none⟩ = some (.slice n.wa n.ws.length n.wc) := (N8.at _).trans HCU2.out; have f5 := N8.loose (k * 2 + 1); have OW := hide hown2; have GW := hide hgrow; have HAT := hide hat; clear hown2 hat)
      simp only [List.getElem_toArray, List.getElem_cons_zero, List.getElem_cons_succ, Act.put, List.setIfInBounds_toArray, List.set_cons_zero, List.set_cons_succ]
      refine hK.out _ _ (by exact ⟨(hHeld.2.2.1.kept hgrow (by intro e; obtain ⟨cs, b1, b2, b3⟩ := HTW.out _ e; exact absurd (blk_one b1 HL1.out) (by decide))).at 0, (hHeld.2.2.2.kept hgrow (by intro e; obtain ⟨cs, b1, b2, b3⟩ := HTW.out _ e; omega)).six.1, hHeld.2.2.1.kept hgrow (by intro e; obtain ⟨cs, b1, b2, b3⟩ := HTW.out _ e; exact absurd (blk_one b1 HL1.out) (by decide)), hHeld.2.2.2.kept hgrow (by intro e; obtain ⟨cs, b1, b2, b3⟩ := HTW.out _ e; omega)⟩) (fun hHeld => ?_)
      clear hK K
      refine take_run 15 (some 55) (v := ?_) rfl rfl (by kernel_rfl) (by kernel_rfl) (by kernel_rfl) (fun _ _ _ h => h) (by rfl) ?_ hHeld ?_
      rotate_left
      · ((intro w hSw); (try dsimp only at hSw); go_simp <;> with_reducible rfl)
      simp only [Act.put, List.setIfInBounds_toArray, List.set_cons_zero, List.set_cons_succ]
      refine take_run 16 (some 56) (v := ?_) rfl rfl (by kernel_rfl) (by kernel_rfl) (by kernel_rfl) (fun _ _ _ h => h) (by rfl) ?_ hHeld ?_
      rotate_left
      · ((intro w hSw); (try dsimp only at hSw); go_simp <;> with_reducible rfl)
      simp only [Act.put, List.setIfInBounds_toArray, List.set_cons_zero, List.set_cons_succ]
      refine take_one 17 (by kernel_rfl) rfl (fun K hK => ?_)
      go_simp
      refine hK.out _ _ (by exact ⟨(hHeld.2.2.1.aside (by show L ≠ G; exact hLG) _).at 0, (hHeld.2.2.2.aside (by show w.heap.size ≠ G; omega) _).six.1, hHeld.2.2.1.aside (by show L ≠ G; exact hLG) _, hHeld.2.2.2.aside (by show w.heap.size ≠ G; omega) _⟩) (fun hHeld => ?_)
      clear hK K
      refine wpAnyH_done (by kernel_rfl) ?_ _
      refine NoPanic.normal ?_
      have HE := HEW.out
      have GG := HG7.out.setWait (v' := v3) (g := g) (cap := cap) (w2 := w8) (w1 := w7.alloc (.cells (verC v3.k v3.t v3.u v3.a v3.ts.length v3.c v3.s v3.g) 32)) HK1.out (HB7.out.trans ((below_alloc1 w7 _).mono HB7.out.size)) ((HO2.out.on (below_alloc1 w7 _)).wide (by simp)) (by rw [HE.2.2]; exact OW.out) (by rw [HE.1, HE.2.1, HE.2.2]; exact GW.out) (by rw [HE.1, HE.2.1, HE.2.2]; rcases HAT.out with q | q; exact .inl q; exact .inr (by rw [q]; have e : w4.drew.heap.size = w4.heap.size := rfl; simp only [World.size_alloc]; omega))
      rw [HE.2.2, List.length_set, List.set_set] at GG
      have HGG := hide GG
      have HT99 := hide (((HT6.out.trans ((Turn.below (P := TouchC w base) (Below.refl _ _).drew).trans (.below (HB7.out.trans ((below_alloc1 w7 _).mono HB7.out.size))))).trans (.of GW.out (fun g' e => by obtain ⟨cs, b1, b2, b3⟩ := HTW.out _ e; exact ⟨b2, cs, .inl b1⟩))).set (p := ⟨G, k * 2 + 1, none⟩) (by obtain ⟨cs, b1, b2, _⟩ := HG.out.typed G rfl; exact ⟨b2, cs, .inr b1⟩) (.slice (some ⟨g, 0, none⟩) (n.ws.length + 1) cap))
      clear GG N7 N8 q1 q2 q4 q5 f5 HE hHeld
      generalize w8.setCell ⟨G, k * 2 + 1, none⟩ (.slice (some ⟨g, 0, none⟩) (n.ws.length + 1) cap) = W10 at HGG HT99 ⊢
      go_wp2
      refine bodyPost_ret (v := .tuple #[]) (by simp [results, Try.results32, go_sem]) rfl ?_
      refine ⟨_, rfl, ?_, HGG.out, HT99.out⟩
      rw [HADD.out, HN1'.out]
      exact nl_set (nl_refl us) ⟨(ll_set (ll_refl n.ss) HLK.out kn).1, (ll_set (ll_refl n.ss) HLK.out kn).2, (ll_snoc (ll_refl n.ws) HL2'.out).1, (ll_snoc (ll_refl n.ws) HL2'.out).2⟩
    · skip
      go_simp
      ((with_reducible refine CP.out.mono ?_); rintro e w7 ⟨v3, rfl, hlk2, hov2, hb7⟩; have HL2' := hide hlk2; have HO2 := hide hov2; have HB7 := hide hb7; have N7 := N6.out.drew.on hb7; have q2 : w7.cell? ⟨G, k * 2 + 1, none⟩ = some (.slice n.wa n.ws.length n.wc) := (N7.at _).trans HCU2.out; have q4 : (w7.alloc (.cells (verC v3.k v3.t v3.u v3.a v3.ts.length v3.c v3.s v3.g) 32)).cell? ⟨G, k * 2 + 1, none⟩ = some (.slice n.wa n.ws.length n.wc) := ((N7.more _).at _).trans HCU2.out; have z7 : w4.heap.size ≤ w7.heap.size := (by have := hb7.size; simpa using this); have HR := hide (show w7.ownsRow base 32 6 (.slice n.wa n.ws.length n.wc) n.ws.length (flat6 n.ws) by have := ((HG7.out.on hb7).own k n1 HK1.out).row; rw [HEW.out.1, HEW.out.2.1, HEW.out.2.2] at this; exact this); clear hlk2 hov2)
      try go_wp2_with fail
      refine hK.out _ _ (by exact ⟨(hHeld.2.2.1.on HB7.out).at 0, (hHeld.2.2.2.on HB7.out).six.1, hHeld.2.2.1.on HB7.out, hHeld.2.2.2.on HB7.out⟩) (fun hHeld => ?_)
      clear hK K
      refine wpAnyH_ready (rs := [10, 13]) (by kernel_rfl) (by simp) ?_
      refine AllReadyH.cons rfl (fun K hK => ?_) (AllReadyH.cons rfl (fun K hK => ?_) AllReadyH.nil)
      · skip
        go_simp
        refine hK.out _ _ (by exact hHeld) (fun hHeld => ?_)
        clear hK K
        refine take_one 13 (by kernel_rfl) rfl (fun K hK => ?_)
        go_simp
        refine hK.out _ _ (by exact ⟨(hHeld.2.2.1.more _).at 0, (hHeld.2.2.2.more _).six.1, hHeld.2.2.1.more _, hHeld.2.2.2.more _⟩) (fun hHeld => ?_)
        clear hK K
        refine take_one 14 (by kernel_rfl) rfl (fun K hK => ?_)
        (refine step_append_lies _ (by rfl) _ _ _ (by rfl) base 32 j0 _ 6 72 Try.underlying41 J0.out J1.out J2.out J3.out rfl (by omega) (.slice n.wa n.ws.length n.wc) n.ws.length (flat6 n.ws) (by rfl) (HR.out.alloc _) ⟨w7.heap.size, 0, none⟩ 1 1 (cells6 v3) (by rfl) (by rfl) (World.news_of_block (cs := verC v3.k v3.t v3.u v3.a v3.ts.length v3.c v3.s v3.g) (t := 32) (fr := (0, 0)) (heap_alloc_new w7 _)) (by simp [cells6, Value.oneCell']) (by omega) (by unfold maxLen; omega) (by omega) (by simp; omega) _ rfl ?_; intro g cap w8 hown2 hgrow hat hlt2; have N8 := (N7.more (.cells (verC v3.k v3.t v3.u v3.a v3.ts.length v3.c v3.s v3.g) 32)).kept hgrow (by intro e; obtain ⟨cs, b1, b2, b3⟩ := HTW.out _ e; exact absurd (blk_one b1 HCG.out.blk) (by decide)); have q5 : w8.cell? ⟨G, k * 2 + 1, none⟩ = some (.slice n.wa n.ws.length n.wc) := (N8.at _).trans HCU2.out; have f5 := N8.loose (k * 2 + 1); have OW := hide hown2; have GW := hide hgrow; have HAT := hide hat; clear hown2 hat)
        simp only [List.getElem_toArray, List.getElem_cons_zero, List.getElem_cons_succ, Act.put, List.setIfInBounds_toArray, List.set_cons_zero, List.set_cons_succ]
        refine hK.out _ _ (by exact ⟨(hHeld.2.2.1.kept hgrow (by intro e; obtain ⟨cs, b1, b2, b3⟩ := HTW.out _ e; exact absurd (blk_one b1 HL1.out) (by decide))).at 0, (hHeld.2.2.2.kept hgrow (by intro e; obtain ⟨cs, b1, b2, b3⟩ := HTW.out _ e; omega)).six.1, hHeld.2.2.1.kept hgrow (by intro e; obtain ⟨cs, b1, b2, b3⟩ := HTW.out _ e; exact absurd (blk_one b1 HL1.out) (by decide)), hHeld.2.2.2.kept hgrow (by intro e; obtain ⟨cs, b1, b2, b3⟩ := HTW.out _ e; omega)⟩) (fun hHeld => ?_)
        clear hK K
        refine take_run 15 (some 55) (v := ?_) rfl rfl (by kernel_rfl) (by kernel_rfl) (by kernel_rfl) (fun _ _ _ h => h) (by rfl) ?_ hHeld ?_
        rotate_left
        · ((intro w hSw); (try dsimp only at hSw); go_simp <;> with_reducible rfl)
        simp only [Act.put, List.setIfInBounds_toArray, List.set_cons_zero, List.set_cons_succ]
        refine take_run 16 (some 56) (v := ?_) rfl rfl (by kernel_rfl) (by kernel_rfl) (by kernel_rfl) (fun _ _ _ h => h) (by rfl) ?_ hHeld ?_
        rotate_left
        · ((intro w hSw); (try dsimp only at hSw); go_simp <;> with_reducible rfl)
        simp only [Act.put, List.setIfInBounds_toArray, List.set_cons_zero, List.set_cons_succ]
        refine take_one 17 (by kernel_rfl) rfl (fun K hK => ?_)
        go_simp
        refine hK.out _ _ (by exact ⟨(hHeld.2.2.1.aside (by show L ≠ G; exact hLG) _).at 0, (hHeld.2.2.2.aside (by show w.heap.size ≠ G; omega) _).six.1, hHeld.2.2.1.aside (by show L ≠ G; exact hLG) _, hHeld.2.2.2.aside (by show w.heap.size ≠ G; omega) _⟩) (fun hHeld => ?_)
        clear hK K
        refine wpAnyH_done (by kernel_rfl) ?_ _
        refine NoPanic.normal ?_
        have HE := HEW.out
        have GG := HG7.out.setWait (v' := v3) (g := g) (cap := cap) (w2 := w8) (w1 := w7.alloc (.cells (verC v3.k v3.t v3.u v3.a v3.ts.length v3.c v3.s v3.g) 32)) HK1.out (HB7.out.trans ((below_alloc1 w7 _).mono HB7.out.size)) ((HO2.out.on (below_alloc1 w7 _)).wide (by simp)) (by rw [HE.2.2]; exact OW.out) (by rw [HE.1, HE.2.1, HE.2.2]; exact GW.out) (by rw [HE.1, HE.2.1, HE.2.2]; rcases HAT.out with q | q; exact .inl q; exact .inr (by rw [q]; have e : w4.drew.heap.size = w4.heap.size := rfl; simp only [World.size_alloc]; omega))
        rw [HE.2.2, List.length_set, List.set_set] at GG
        have HGG := hide GG
        have HT99 := hide (((HT6.out.trans ((Turn.below (P := TouchC w base) (Below.refl _ _).drew).trans (.below (HB7.out.trans ((below_alloc1 w7 _).mono HB7.out.size))))).trans (.of GW.out (fun g' e => by obtain ⟨cs, b1, b2, b3⟩ := HTW.out _ e; exact ⟨b2, cs, .inl b1⟩))).set (p := ⟨G, k * 2 + 1, none⟩) (by obtain ⟨cs, b1, b2, _⟩ := HG.out.typed G rfl; exact ⟨b2, cs, .inr b1⟩) (.slice (some ⟨g, 0, none⟩) (n.ws.length + 1) cap))
        clear GG N7 N8 q1 q2 q4 q5 f5 HE hHeld
        generalize w8.setCell ⟨G, k * 2 + 1, none⟩ (.slice (some ⟨g, 0, none⟩) (n.ws.length + 1) cap) = W10 at HGG HT99 ⊢
        go_wp2
        refine bodyPost_ret (v := .tuple #[]) (by simp [results, Try.results32, go_sem]) rfl ?_
        refine ⟨_, rfl, ?_, HGG.out, HT99.out⟩
        rw [HADD.out, HN1'.out]
        exact nl_set (nl_refl us) ⟨(ll_set (ll_refl n.ss) HLK.out kn).1, (ll_set (ll_refl n.ss) HLK.out kn).2, (ll_snoc (ll_refl n.ws) HL2'.out).1, (ll_snoc (ll_refl n.ws) HL2'.out).2⟩
      · skip
        go_simp
        refine hK.out _ _ (by exact ⟨(hHeld.2.2.1.more _).at 0, (hHeld.2.2.2.more _).six.1, hHeld.2.2.1.more _, hHeld.2.2.2.more _⟩) (fun hHeld => ?_)
        clear hK K
        refine take_one 10 (by kernel_rfl) rfl (fun K hK => ?_)
        go_simp
        refine hK.out _ _ (by exact hHeld) (fun hHeld => ?_)
        clear hK K
        refine take_one 14 (by kernel_rfl) rfl (fun K hK => ?_)
        (refine step_append_lies _ (by rfl) _ _ _ (by rfl) base 32 j0 _ 6 72 Try.underlying41 J0.out J1.out J2.out J3.out rfl (by omega) (.slice n.wa n.ws.length n.wc) n.ws.length (flat6 n.ws) (by rfl) (HR.out.alloc _) ⟨w7.heap.size, 0, none⟩ 1 1 (cells6 v3) (by rfl) (by rfl) (World.news_of_block (cs := verC v3.k v3.t v3.u v3.a v3.ts.length v3.c v3.s v3.g) (t := 32) (fr := (0, 0)) (heap_alloc_new w7 _)) (by simp [cells6, Value.oneCell']) (by omega) (by unfold maxLen; omega) (by omega) (by simp; omega) _ rfl ?_; intro g cap w8 hown2 hgrow hat hlt2; have N8 := (N7.more (.cells (verC v3.k v3.t v3.u v3.a v3.ts.length v3.c v3.s v3.g) 32)).kept hgrow (by intro e; obtain ⟨cs, b1, b2, b3⟩ := HTW.out _ e; exact absurd (blk_one b1 HCG.out.blk) (by decide)); have q5 : w8.cell? ⟨G, k * 2 + 1, none⟩ = some (.slice n.wa n.ws.length n.wc) := (N8.at _).trans HCU2.out; have f5 := N8.loose (k * 2 + 1); have OW := hide hown2; have GW := hide hgrow; have HAT := hide hat; clear hown2 hat)
        simp only [List.getElem_toArray, List.getElem_cons_zero, List.getElem_cons_succ, Act.put, List.setIfInBounds_toArray, List.set_cons_zero, List.set_cons_succ]
        refine hK.out _ _ (by exact ⟨(hHeld.2.2.1.kept hgrow (by intro e; obtain ⟨cs, b1, b2, b3⟩ := HTW.out _ e; exact absurd (blk_one b1 HL1.out) (by decide))).at 0, (hHeld.2.2.2.kept hgrow (by intro e; obtain ⟨cs, b1, b2, b3⟩ := HTW.out _ e; omega)).six.1, hHeld.2.2.1.kept hgrow (by intro e; obtain ⟨cs, b1, b2, b3⟩ := HTW.out _ e; exact absurd (blk_one b1 HL1.out) (by decide)), hHeld.2.2.2.kept hgrow (by intro e; obtain ⟨cs, b1, b2, b3⟩ := HTW.out _ e; omega)⟩) (fun hHeld => ?_)
        clear hK K
        refine take_run 15 (some 55) (v := ?_) rfl rfl (by kernel_rfl) (by kernel_rfl) (by kernel_rfl) (fun _ _ _ h => h) (by rfl) ?_ hHeld ?_
        rotate_left
        · ((intro w hSw); (try dsimp only at hSw); go_simp <;> with_reducible rfl)
        simp only [Act.put, List.setIfInBounds_toArray, List.set_cons_zero, List.set_cons_succ]
        refine take_run 16 (some 56) (v := ?_) rfl rfl (by kernel_rfl) (by kernel_rfl) (by kernel_rfl) (fun _ _ _ h => h) (by rfl) ?_ hHeld ?_
        rotate_left
        · ((intro w hSw); (try dsimp only at hSw); go_simp <;> with_reducible rfl)
        simp only [Act.put, List.setIfInBounds_toArray, List.set_cons_zero, List.set_cons_succ]
        refine take_one 17 (by kernel_rfl) rfl (fun K hK => ?_)
        go_simp
        refine hK.out _ _ (by exact ⟨(hHeld.2.2.1.aside (by show L ≠ G; exact hLG) _).at 0, (hHeld.2.2.2.aside (by show w.heap.size ≠ G; omega) _).six.1, hHeld.2.2.1.aside (by show L ≠ G; exact hLG) _, hHeld.2.2.2.aside (by show w.heap.size ≠ G; omega) _⟩) (fun hHeld => ?_)
        clear hK K
        refine wpAnyH_done (by kernel_rfl) ?_ _
        refine NoPanic.normal ?_
        have HE := HEW.out
        have GG := HG7.out.setWait (v' := v3) (g := g) (cap := cap) (w2 := w8) (w1 := w7.alloc (.cells (verC v3.k v3.t v3.u v3.a v3.ts.length v3.c v3.s v3.g) 32)) HK1.out (HB7.out.trans ((below_alloc1 w7 _).mono HB7.out.size)) ((HO2.out.on (below_alloc1 w7 _)).wide (by simp)) (by rw [HE.2.2]; exact OW.out) (by rw [HE.1, HE.2.1, HE.2.2]; exact GW.out) (by rw [HE.1, HE.2.1, HE.2.2]; rcases HAT.out with q | q; exact .inl q; exact .inr (by rw [q]; have e : w4.drew.heap.size = w4.heap.size := rfl; simp only [World.size_alloc]; omega))
        rw [HE.2.2, List.length_set, List.set_set] at GG
        have HGG := hide GG
        have HT99 := hide (((HT6.out.trans ((Turn.below (P := TouchC w base) (Below.refl _ _).drew).trans (.below (HB7.out.trans ((below_alloc1 w7 _).mono HB7.out.size))))).trans (.of GW.out (fun g' e => by obtain ⟨cs, b1, b2, b3⟩ := HTW.out _ e; exact ⟨b2, cs, .inl b1⟩))).set (p := ⟨G, k * 2 + 1, none⟩) (by obtain ⟨cs, b1, b2, _⟩ := HG.out.typed G rfl; exact ⟨b2, cs, .inr b1⟩) (.slice (some ⟨g, 0, none⟩) (n.ws.length + 1) cap))
        clear GG N7 N8 q1 q2 q4 q5 f5 HE hHeld
        generalize w8.setCell ⟨G, k * 2 + 1, none⟩ (.slice (some ⟨g, 0, none⟩) (n.ws.length + 1) cap) = W10 at HGG HT99 ⊢
        go_wp2
        refine bodyPost_ret (v := .tuple #[]) (by simp [results, Try.results32, go_sem]) rfl ?_
        refine ⟨_, rfl, ?_, HGG.out, HT99.out⟩
        rw [HADD.out, HN1'.out]
        exact nl_set (nl_refl us) ⟨(ll_set (ll_refl n.ss) HLK.out kn).1, (ll_set (ll_refl n.ss) HLK.out kn).2, (ll_snoc (ll_refl n.ws) HL2'.out).1, (ll_snoc (ll_refl n.ws) HL2'.out).2⟩
  · have hq := HE.out
    rw [if_neg hlt] at hq
    subst hq
    have HADD : Hid (addN us k ⟨(kn : Int), vt, vu, va, vc, vts, vs, vg⟩ = us.set k ⟨n.sa, n.sc, n.ss.set kn ⟨(kn : Int), vt, vu, va, vc, vts, vs, vg⟩, n.wa, n.wc, n.ws⟩) := by
      unfold Hid
      rw [addN_at HK.out, decide_eq_true (by omega)]
      unfold addNd
      rw [HST.out]
      rfl
    clear HE hlt
    go_wp2
    refine bodyPost_ret (v := .tuple #[]) (by simp [results, Try.results32, go_sem]) rfl ?_
    refine ⟨_, rfl, ?_, HG6.out, HT6.out⟩
    rw [HADD.out]
    exact nl_set (nl_refl us) ⟨(ll_set (ll_refl n.ss) HLK.out kn).1, (ll_set (ll_refl n.ss) HLK.out kn).2, rfl, like_refl _⟩
end Go.Proofs.Ytjnloillcgeodaa
/- Contract of the program's ChainPut. Condition: sizes that memory holds. -/
namespace Go.Proofs.Ytjnloillcgeodaa
open Go.RowKit Go.Joins
attribute [local go_sem ↓] Go.wp_at_zero Go.wp_at_succ

theorem apply_any (B L base G xc k : Nat) (us : List Nd) (n : Nd) (v : V) (w : World) (hG : GRow base w (.slice (some ⟨G, 0, none⟩) us.length xc) us) (hL : LinkAt w B L (some ⟨G, 0, none⟩) G us.length xc k) (hk : us[k]? = some n) (hl : us.length ≤ 4) (hnb : nodeB n = true) (hvv : verV v = true) (hv : Own1 w 0 w.heap.size v) :
    Calls Try.prog 32 #[.pointer (some ⟨L, 0, none⟩), .agg (verC v.k v.t v.u v.a v.ts.length v.c v.s v.g)] w (AppliedC w base G xc us k v) := by
  by_cases h : stepL n.ss v = none
  · exact apply_not B L base G xc k us n v w hG hL hk hnb hvv h
  · exact apply_yes B L base G xc k us n v w hG hL hk hl hnb hvv hv h
theorem touch_no {w : World} {base g : Nat} {T : TypeId} {cs : Array Value} (hb : Blk w g T cs) (h1 : T ≠ 32) (h2 : T ≠ 45) : ¬ TouchC w base g := by
  rintro ⟨_, cs', h | h⟩
  · exact h1 (blk_one hb h)
  · exact h2 (blk_one hb h)
set_option maxRecDepth 100000 in
set_option maxHeartbeats 4000000 in
theorem implChainPutT_any (A : Option Addr) (c : Nat) (ns : List Nd) (v : V) (w : World) (hn : ns.length ≤ 1048576) (hm : SmN ns) (hC : CgA w A ns) (hn1 : v.ts.length ≤ 1048576) (hs1 : v.s.size ≤ 9223372036854775807) (htg : Tg w w.heap.size v.a v.ts) (hv : verV v = true → Own1 w 0 w.heap.size v) :
    Calls Try.prog 8 #[.agg #[.slice A ns.length c], .agg (verC v.k v.t v.u v.a v.ts.length v.c v.s v.g)] w (AnswerCB w (putN ns v) (putK ns v)) := by
  have S0 := (((Inv.start w).box 25 #[.slice A ns.length c]).box 32 (verC v.k v.t v.u v.a v.ts.length v.c v.s v.g)).box 25 #[.slice none 0 0]
  simp only [World.size_alloc] at S0
  have C0 := hide (implChainOk_any A c ns (((w.alloc (.cells #[.slice A ns.length c] 25)).alloc (.cells (verC v.k v.t v.u v.a v.ts.length v.c v.s v.g) 32)).alloc (.cells #[.slice none 0 0] 25)) hn hm (hC.on S0.below))
  have CV : Hid (∀ W, Below w.heap.size w W → Calls Try.prog 13 #[.agg (verC v.k v.t v.u v.a v.ts.length v.c v.s v.g)] W fun e w' => e = .returned (.bool (verV v)) ∧ Below W.heap.size W w') := fun W hW => implVerOk_any v.k v.t v.u v.a v.c v.ts v.s v.g W hn1 hs1 ((htg.on hW).up hW.size)
  have CC : Hid (∀ W, Below w.heap.size w W → Calls Try.prog 29 #[.agg #[.slice A ns.length c]] W (ClonedC W ns)) := fun W hW => chainClone_any A c ns W hn hm (hC.on hW)
  have k0 := (S0.nth 2 rfl).one.1
  have HVF := hide hv
  clear hm hC hv htg
  cases ho : chainB ns
  · have HE := hide (putN_no (ns := ns) (v := v) (by rw [ho]; simp))
    rw [ho] at C0
    clear ho
    go_enter Try.func8, Try.ntmps8
    go_wp2_with fail
    with_reducible refine C0.out.mono ?_
    rintro e w1 ⟨rfl, hb1⟩
    have S1 := S0.on hb1
    have q1 := (S1.nth 0 rfl).one
    clear S0 C0 k0
    go_wp2
    refine bodyPost_ret (v := .tuple #[.agg #[.slice none 0 0], .bool false]) (by simp [results, Try.results8, go_sem, q1]) rfl ?_
    exact answerCB_none HE.out (S1.below.setCell (by simp only; omega) _)
  · have HOK := hide ho
    rw [ho] at C0
    clear ho
    cases hvb : verV v
    · have HE := hide (putN_no (ns := ns) (v := v) (by rw [hvb]; simp))
      rw [hvb] at CV
      clear hvb
      go_enter Try.func8, Try.ntmps8
      go_wp2_with fail
      with_reducible refine C0.out.mono ?_
      rintro e w1 ⟨rfl, hb1⟩
      have S1 := S0.on hb1
      have k1 := (S1.nth 1 rfl).six.1
      clear S0 C0 k0
      go_wp2_with fail
      with_reducible refine (CV.out _ S1.below).mono ?_
      rintro e w2 ⟨rfl, hb2⟩
      have S2 := S1.on hb2
      have q1 := (S2.nth 0 rfl).one
      clear S1 k1
      go_wp2
      refine bodyPost_ret (v := .tuple #[.agg #[.slice none 0 0], .bool false]) (by simp [results, Try.results8, go_sem, q1]) rfl ?_
      exact answerCB_none HE.out (S2.below.setCell (by simp only; omega) _)
    · have HVB := hide hvb
      have HV := hide (HVF.out hvb)
      rw [hvb] at CV
      clear hvb
      go_enter Try.func8, Try.ntmps8
      go_wp2_with fail
      with_reducible refine C0.out.mono ?_
      rintro e w1 ⟨rfl, hb1⟩
      have S1 := S0.on hb1
      have k1 := (S1.nth 1 rfl).six.1
      clear S0 C0 k0
      go_wp2_with fail
      with_reducible refine (CV.out _ S1.below).mono ?_
      rintro e w2 ⟨rfl, hb2⟩
      have S2 := S1.on hb2
      have k2 := (S2.nth 2 rfl).one.1
      have zr := S2.room
      have zb := S2.base
      clear S1 k1 CV hb1 hb2
      go_wp2_with fail
      with_reducible refine (CC.out _ S2.below).mono ?_
      rintro e w3 ⟨x, us, rfl, hul, hgr, hb3⟩
      obtain ⟨xa, xc, rfl⟩ := hgr.form
      have HUL := hide hul
      have hcu : chainB us = true := (chainB_like hul).trans HOK.out
      obtain ⟨⟨h1, h4⟩, hB, -⟩ := chainB_parts hcu
      obtain ⟨n, hn0⟩ : ∃ n, us[0]? = some n := ⟨_, List.getElem?_eq_getElem (by omega)⟩
      have HNB := hide (hB 0 n hn0)
      have HN0 := hide hn0
      have HRO := hide (roomB_like hul)
      have HRN : Hid (roomB us = decide (n.ws.length < 6)) := by unfold Hid roomB; rw [hn0]
      obtain ⟨_, hR⟩ := hgr.res
      rcases hR with h0 | ⟨G, cur, rfl, hR⟩
      · rw [h0] at h1; simp at h1
      have HCG := hide hR.cg
      have z3 := hb3.size
      have S3 := (S2.on hb3).alloc (.cells #[.slice (some ⟨G, 0, none⟩) us.length xc] 25)
      have V0 := Blk.made w3 25 #[.slice (some ⟨G, 0, none⟩) us.length xc]
      have BA := hide (below_alloc1 w3 (.cells #[.slice (some ⟨G, 0, none⟩) us.length xc] 25))
      have HGR := hide (hgr.on BA.out)
      have HCG1 := hide (HCG.out.on BA.out)
      have v0 := V0.one.1
      clear S2 k2 hb3 hul hgr hR hcu hB hn0 CC HCG
      go_wp2_with fail
      generalize hW0 : w3.alloc (.cells #[.slice (some ⟨G, 0, none⟩) us.length xc] 25) = W0 at V0 v0 HGR HCG1 S3 ⊢
      have zA : w3.heap.size < W0.heap.size := by rw [← hW0]; simp
      clear hW0 BA
      have CT := linkAt_any G us.length xc 0 W0 (by omega) (by omega)
      change Calls _ _ #[_, .int .i64 0] _ _ at CT
      have CT := hide CT
      with_reducible refine CT.out.mono ?_
      rintro e w4 ⟨hE, hb4⟩
      rw [if_pos (by omega)] at hE
      obtain ⟨L, rfl, hL⟩ := hE
      have HL := hide hL
      have HGR4 := hide (HGR.out.on hb4)
      have HCG4 := hide (HCG1.out.on hb4)
      have V4 := V0.on hb4
      have S4 := S3.on hb4
      have HV4 := hide ((HV.out.on S4.below).wide S4.base)
      have CF := hide (linkFull_any W0.heap.size L G xc 0 us.length us cur n w4 HCG4.out HL.out HN0.out)
      have z4 := hb4.size
      clear CT HGR HCG1 V0 v0 S3 hb4 hL
      by_cases h6 : n.ws.length ≥ 6
      · have HE := hide (putN_full (v := v) HOK.out HVB.out (by rw [← HRO.out, HRN.out]; simp; omega))
        rw [decide_eq_true h6] at CF
        clear h6
        go_wp2_with fail
        with_reducible refine CF.out.mono ?_
        rintro e w5 ⟨rfl, rfl⟩
        have v4 := V4.one.1
        have q4 := (S4.nth 0 rfl).one
        clear CF
        go_wp2
        refine bodyPost_ret (v := .tuple #[.agg #[.slice (some ⟨G, 0, none⟩) us.length xc], .bool false]) (by simp [results, Try.results8, go_sem, q4]) rfl ?_
        rw [HE.out.1, HE.out.2]
        exact answerCB_row ((HGR4.out.aside (p := ⟨w.heap.size + 1 + 1, 0, none⟩) (by simp only; omega) _).down zb) HUL.out (S4.below.setCell (by simp only; omega) _)
      · have HE := hide (putN_yes (v := v) HOK.out HVB.out (by rw [← HRO.out, HRN.out]; simp; omega))
        rw [decide_eq_false h6] at CF
        clear h6
        have CA := hide (apply_any W0.heap.size L w2.heap.size G xc 0 us n v w4 HGR4.out HL.out HN0.out h4 HNB.out HVB.out HV4.out)
        go_wp2_with fail
        with_reducible refine CF.out.mono ?_
        rintro e w5 ⟨rfl, rfl⟩
        have k4 := (S4.nth 1 rfl).six.1
        clear CF
        go_wp2_with fail
        with_reducible refine CA.out.mono ?_
        rintro e w6 ⟨us', rfl, hul6, hg6, hT6⟩
        have HUL6 := hide hul6
        have HG6 := hide hg6
        have V6 := V4.turned hT6 (touch_no V4 (by decide) (by decide))
        have S6 := S4.turned hT6 (fun g h => by have := h.1; omega) (fun x hx h => by
          simp only [List.mem_cons, List.not_mem_nil, or_false] at hx
          have h' := h.1
          rcases hx with rfl | rfl | rfl <;> simp only at h' <;> omega)
        have v6 := V6.one.1
        have q6 := (S6.nth 0 rfl).one
        clear CA V4 S4 k4 hul6 hg6 hT6 HGR4
        go_wp2
        refine bodyPost_ret (v := .tuple #[.agg #[.slice (some ⟨G, 0, none⟩) us.length xc], .bool true]) (by simp [results, Try.results8, go_sem, q6]) rfl ?_
        rw [HE.out.1, HE.out.2]
        exact answerCB_row ((HG6.out.aside (p := ⟨w.heap.size + 1 + 1, 0, none⟩) (by simp only; omega) _).down zb) (nl_trans HUL6.out (addN_like HUL.out (vlike_refl v) 0)) (S6.below.setCell (by simp only; omega) _)
end Go.Proofs.Ytjnloillcgeodaa
