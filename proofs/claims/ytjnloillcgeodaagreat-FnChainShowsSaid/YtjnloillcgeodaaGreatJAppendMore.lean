/- Contract of the model's l3Add: a version comes to a node of a chain that is the caller's own. Condition: at most four nodes, the node valid. -/
import Derived.Test.YtjnloillcgeodaaGreatJChainSet
import Derived.Test.YtjnloillcgeodaaGreatJStoreKeep2
namespace Go.Proofs.YtjnloillcgeodaaGreat
open Go.RowKit Go.Joins
attribute [local go_sem ↓] Go.wp_at_zero Go.wp_at_succ

theorem Turn.mono {P Q : Nat → Prop} {w w' : World} (h : Turn P w w') (hq : ∀ g, P g → Q g) : Turn Q w w' := ⟨h.os, h.tape, h.output, h.size, fun k hk hn => h.block k hk (fun hp => hn (hq k hp))⟩
/-- Blocks that a version that comes may change: of versions or of nodes, from base on. -/
def TouchC (w : World) (base g : Nat) : Prop := base ≤ g ∧ ∃ cs, Blk w g 51 cs ∨ Blk w g 37 cs
/-- What l3Add leaves. -/
def AddedC (w : World) (base G xc : Nat) (us : List Nd) (k : Nat) (v : V) (e : Ending) (w' : World) : Prop :=
  ∃ us' : List Nd, e = .returned (.agg #[.slice (some ⟨G, 0, none⟩) us.length xc]) ∧ NL us' (addN us k v) ∧ GRow base w' (.slice (some ⟨G, 0, none⟩) us.length xc) us' ∧ Turn (TouchC w base) w w'
theorem addN_at {us : List Nd} {k : Nat} {n : Nd} {v : V} (hk : us[k]? = some n) : addN us k v = us.set k (addNd n (decide (k + 1 = us.length)) v) := by unfold addN; rw [hk]
theorem addN_not {us : List Nd} {k : Nat} {n : Nd} {v : V} (hk : us[k]? = some n) (hs : stepL n.ss v = none) : addN us k v = us := by
  rw [addN_at hk]
  unfold addNd
  rw [hs]
  apply List.ext_getElem?
  intro i
  by_cases e : i = k
  · subst e
    rw [List.getElem?_set_self (List.getElem?_eq_some_iff.1 hk).1, hk]
  · rw [List.getElem?_set_ne (fun e' => e e'.symm)]
theorem nl_refl (us : List Nd) : NL us us := ⟨rfl, fun i x y hx hy => by rw [hx] at hy; injection hy with hy; subst hy; exact ⟨rfl, like_refl _, rfl, like_refl _⟩⟩
/-- A version with a key and causes as a valid one has; a node with room for such. -/
def shV (v : V) : Prop := (0 ≤ v.k ∧ v.k ≤ 3) ∧ v.ts.length = 4
def shN (n : Nd) : Prop := n.ss.length = 4 ∧ n.ws.length ≤ 6 ∧ ∀ v ∈ n.ws, shV v
set_option maxRecDepth 100000 in
set_option maxHeartbeats 4000000 in
theorem l3Add_sh (base G xc k : Nat) (us : List Nd) (n : Nd) (v : V) (w : World) (hG : GRow base w (.slice (some ⟨G, 0, none⟩) us.length xc) us) (hk : us[k]? = some n) (hl : us.length ≤ 4) (hs4 : n.ss.length = 4) (hw6 : n.ws.length ≤ 6) (hsv : shV v) (hv : Own1 w 0 w.heap.size v) :
    Calls Tryz.prog 87 #[.agg #[.slice (some ⟨G, 0, none⟩) us.length xc], .int .i64 (k : Int), .agg (verC v.k v.t v.u v.a v.ts.length v.c v.s v.g)] w (AddedC w base G xc us k v) := by
  obtain ⟨j0, hj0, hy0, hy1, hy2⟩ := info_parts ver_info
  have J0 := hide hj0
  have J1 := hide hy0
  have J2 := hide hy1
  have J3 := hide hy2
  clear hj0 hy0 hy1 hy2
  have hkl := (List.getElem?_eq_some_iff.1 hk).1
  obtain ⟨kn, hkn, hkn4⟩ : ∃ kn : Nat, v.k = (kn : Int) ∧ kn < 4 := by
    have := hsv.1
    exact ⟨v.k.toNat, by omega, by omega⟩
  have hvl : v.ts.length = 4 := hsv.2
  obtain ⟨y, hy⟩ : ∃ y, n.ss[kn]? = some y := ⟨_, List.getElem?_eq_getElem (by omega)⟩
  obtain ⟨Gs, cu, hsa, hO⟩ : ∃ Gs cu, n.sa = some ⟨Gs, 0, none⟩ ∧ ORow w base w.heap.size Gs n.ss cu := by
    rcases hG.store k n hk with h0 | h
    · rw [h0] at hs4; simp at hs4
    · exact h
  have hcg : ∃ cur, Cg w G us cur := by
    obtain ⟨_, hR⟩ := hG.res
    rcases hR with h0 | ⟨G', cur, e, hR⟩
    · rw [h0] at hkl; simp at hkl
    · injection e with e
      injection e with e
      subst e
      exact ⟨cur, hR.cg⟩
  obtain ⟨cur, hcg⟩ := hcg
  have S0 := (((Inv.start w).box 25 #[.slice (some ⟨G, 0, none⟩) us.length xc]).box 51 (verC v.k v.t v.u v.a v.ts.length v.c v.s v.g)).box 25 #[.slice none 0 0]
  simp only [World.size_alloc] at S0
  have gs1 := hO.hi
  have gs0 := hO.lo
  have gin := hcg.blk.inside
  have HG := hide hG
  have HCG := hide hcg
  have HO := hide hO
  have HK := hide hk
  have HY := hide hy
  have HSA := hide hsa
  have HV := hide hv
  have HVL := hide hvl
  have HS4 := hide hs4
  have CELL : Hid (∀ W, Below w.heap.size w W → W.cell? ⟨G, k * 2, none⟩ = some (.slice (some ⟨Gs, 0, none⟩) 4 n.sc)) := fun W hW => by
    have := ((HCG.out.on hW).blk.at (k * 2)).trans (HCG.out.at' k n HK.out).1
    rw [HSA.out, HS4.out] at this
    exact this
  have CELS : Hid (∀ W, Below w.heap.size w W → W.cell? ⟨Gs, kn * 6 + 1, none⟩ = some (.int .i64 y.t) ∧ W.cell? ⟨Gs, kn * 6 + 2, none⟩ = some (.int .i64 y.u)) := fun W hW => by
    have hr := HO.out.on hW
    exact ⟨(hr.blk.at _).trans (hr.at' kn y HY.out).2.1, (hr.blk.at _).trans (hr.at' kn y HY.out).2.2.1⟩
  obtain ⟨vk, vt, vu, va, vc, vts, vs, vg⟩ := v
  simp only at hkn S0 hvl
  subst hkn
  have i1 : (0 : Int) ≤ (k : Int) := by omega
  have i2 : (k : Int) < (us.length : Int) := by omega
  have i3 : (0 : Int) ≤ (kn : Int) := by omega
  have i4 : (kn : Int) < 4 := by omega
  clear hG hk hcg hO hy hsa hv hvl hs4 hsv
  go_enter Tryz.func87, Tryz.ntmps87
  go_wp2_with fail
  generalize ((w.alloc (.cells #[.slice (some ⟨G, 0, none⟩) us.length xc] 25)).alloc (.cells (verC (kn : Int) vt vu va vts.length vc vs vg) 51)).alloc (.cells #[.slice none 0 0] 25) = W0 at S0 ⊢
  have jh : ∀ {W : World}, Inv w (w.heap.size + 1 + 1 + 1) [(w.heap.size + 1 + 1, 25, #[.slice none 0 0]), (w.heap.size + 1, 51, (verC (kn : Int) vt vu va vts.length vc vs vg)), (w.heap.size, 25, #[.slice (some ⟨G, 0, none⟩) us.length xc])] W → (W.cell? ⟨w.heap.size, 0, none⟩ = some (.slice (some ⟨G, 0, none⟩) us.length xc) ∧ W.cell? ⟨G, k * 2, none⟩ = some (.slice (some ⟨Gs, 0, none⟩) 4 n.sc)) ∧ (W.cell? ⟨w.heap.size + 1, 0, none⟩ = some (.int .i64 (kn : Int)) ∧ W.cell? ⟨w.heap.size + 1, 1, none⟩ = some (.int .i64 vt) ∧ W.cell? ⟨w.heap.size + 1, 2, none⟩ = some (.int .i64 vu)) ∧ (W.cell? ⟨Gs, kn * 6 + 1, none⟩ = some (.int .i64 y.t) ∧ W.cell? ⟨Gs, kn * 6 + 2, none⟩ = some (.int .i64 y.u)) ∧ Inv w (w.heap.size + 1 + 1 + 1) [(w.heap.size + 1 + 1, 25, #[.slice none 0 0]), (w.heap.size + 1, 51, (verC (kn : Int) vt vu va vts.length vc vs vg)), (w.heap.size, 25, #[.slice (some ⟨G, 0, none⟩) us.length xc])] W :=
    fun hI => ⟨⟨(hI.nth 2 rfl).at 0, CELL.out _ hI.below⟩, ⟨(hI.nth 1 rfl).at 0, (hI.nth 1 rfl).at 1, (hI.nth 1 rfl).at 2⟩, CELS.out _ hI.below, hI⟩
  refine wp_region_noPanic ?_
  refine wp_region_held_drew (S := (fun w' => (w'.cell? ⟨w.heap.size, 0, none⟩ = some (.slice (some ⟨G, 0, none⟩) us.length xc) ∧ w'.cell? ⟨G, k * 2, none⟩ = some (.slice (some ⟨Gs, 0, none⟩) 4 n.sc)) ∧ (w'.cell? ⟨w.heap.size + 1, 0, none⟩ = some (.int .i64 (kn : Int)) ∧ w'.cell? ⟨w.heap.size + 1, 1, none⟩ = some (.int .i64 vt) ∧ w'.cell? ⟨w.heap.size + 1, 2, none⟩ = some (.int .i64 vu)) ∧ (w'.cell? ⟨Gs, kn * 6 + 1, none⟩ = some (.int .i64 y.t) ∧ w'.cell? ⟨Gs, kn * 6 + 2, none⟩ = some (.int .i64 y.u)) ∧ Inv w (w.heap.size + 1 + 1 + 1) [(w.heap.size + 1 + 1, 25, #[.slice none 0 0]), (w.heap.size + 1, 51, (verC (kn : Int) vt vu va vts.length vc vs vg)), (w.heap.size, 25, #[.slice (some ⟨G, 0, none⟩) us.length xc])] w')) (by kernel_rfl) (by exact jh S0.drew) (fun hHeld => ?_)
  refine take_run 0 (some 7) (v := ?_) rfl rfl (by kernel_rfl) (by kernel_rfl) (by kernel_rfl) (fun _ _ _ h => h) (by rfl) ?_ hHeld ?_
  rotate_left
  · ((intro w hSw); (try dsimp only at hSw); go_simp <;> with_reducible rfl)
  simp only [Act.put, List.setIfInBounds_toArray, List.set_cons_zero, List.set_cons_succ]
  refine take_run 1 (some 8) (v := ?_) rfl rfl (by kernel_rfl) (by kernel_rfl) (by kernel_rfl) (fun _ _ _ h => h) (by rfl) ?_ hHeld ?_
  rotate_left
  · ((intro w hSw); (try dsimp only at hSw); go_simp <;> with_reducible rfl)
  simp only [Act.put, List.setIfInBounds_toArray, List.set_cons_zero, List.set_cons_succ]
  refine take_run 2 (some 9) (v := ?_) rfl rfl (by kernel_rfl) (by kernel_rfl) (by kernel_rfl) (fun _ _ _ h => h) (by rfl) ?_ hHeld ?_
  rotate_left
  · ((intro w hSw); (try dsimp only at hSw); go_simp <;> with_reducible rfl)
  simp only [Act.put, List.setIfInBounds_toArray, List.set_cons_zero, List.set_cons_succ]
  refine take_run 3 (some 10) (v := ?_) rfl rfl (by kernel_rfl) (by kernel_rfl) (by kernel_rfl) (fun _ _ _ h => h) (by rfl) ?_ hHeld ?_
  rotate_left
  · ((intro w hSw); (try dsimp only at hSw); go_simp <;> with_reducible rfl)
  simp only [Act.put, List.setIfInBounds_toArray, List.set_cons_zero, List.set_cons_succ]
  refine take_run 4 (some 11) (v := ?_) rfl rfl (by kernel_rfl) (by kernel_rfl) (by kernel_rfl) (fun _ _ _ h => h) (by rfl) ?_ hHeld ?_
  rotate_left
  · ((intro w hSw); (try dsimp only at hSw); go_simp <;> with_reducible rfl)
  simp only [Act.put, List.setIfInBounds_toArray, List.set_cons_zero, List.set_cons_succ]
  refine take_run 5 (some 12) (v := ?_) rfl rfl (by kernel_rfl) (by kernel_rfl) (by kernel_rfl) (fun _ _ _ h => h) (by rfl) ?_ hHeld ?_
  rotate_left
  · ((intro w hSw); (try dsimp only at hSw); go_simp <;> with_reducible rfl)
  simp only [Act.put, List.setIfInBounds_toArray, List.set_cons_zero, List.set_cons_succ]
  refine take_run 6 (some 13) (v := ?_) rfl rfl (by kernel_rfl) (by kernel_rfl) (by kernel_rfl) (fun _ _ _ h => h) (by rfl) ?_ hHeld ?_
  rotate_left
  · ((intro w hSw); (try dsimp only at hSw); go_simp <;> with_reducible rfl)
  simp only [Act.put, List.setIfInBounds_toArray, List.set_cons_zero, List.set_cons_succ]
  refine take_run 7 (some 14) (v := ?_) rfl rfl (by kernel_rfl) (by kernel_rfl) (by kernel_rfl) (fun _ _ _ h => h) (by rfl) ?_ hHeld ?_
  rotate_left
  · ((intro w hSw); (try dsimp only at hSw); go_simp <;> with_reducible rfl)
  simp only [Act.put, List.setIfInBounds_toArray, List.set_cons_zero, List.set_cons_succ]
  refine take_run 8 (some 15) (v := ?_) rfl rfl (by kernel_rfl) (by kernel_rfl) (by kernel_rfl) (fun _ _ _ h => h) (by rfl) ?_ hHeld ?_
  rotate_left
  · ((intro w hSw); (try dsimp only at hSw); go_simp <;> with_reducible rfl)
  simp only [Act.put, List.setIfInBounds_toArray, List.set_cons_zero, List.set_cons_succ]
  refine take_run 9 (some 16) (v := ?_) rfl rfl (by kernel_rfl) (by kernel_rfl) (by kernel_rfl) (fun _ _ _ h => h) (by rfl) ?_ hHeld ?_
  rotate_left
  · ((intro w hSw); (try dsimp only at hSw); go_simp <;> with_reducible rfl)
  simp only [Act.put, List.setIfInBounds_toArray, List.set_cons_zero, List.set_cons_succ]
  refine take_run 10 (some 17) (v := ?_) rfl rfl (by kernel_rfl) (by kernel_rfl) (by kernel_rfl) (fun _ _ _ h => h) (by rfl) ?_ hHeld ?_
  rotate_left
  · ((intro w hSw); (try dsimp only at hSw); go_simp <;> with_reducible rfl)
  simp only [Act.put, List.setIfInBounds_toArray, List.set_cons_zero, List.set_cons_succ]
  refine take_run 11 (some 18) (v := ?_) rfl rfl (by kernel_rfl) (by kernel_rfl) (by kernel_rfl) (fun _ _ _ h => h) (by rfl) ?_ hHeld ?_
  rotate_left
  · ((intro w hSw); (try dsimp only at hSw); go_simp <;> with_reducible rfl)
  simp only [Act.put, List.setIfInBounds_toArray, List.set_cons_zero, List.set_cons_succ]
  refine take_run 12 (some 19) (v := ?_) rfl rfl (by kernel_rfl) (by kernel_rfl) (by kernel_rfl) (fun _ _ _ h => h) (by rfl) ?_ hHeld ?_
  rotate_left
  · ((intro w hSw); (try dsimp only at hSw); go_simp <;> with_reducible rfl)
  simp only [Act.put, List.setIfInBounds_toArray, List.set_cons_zero, List.set_cons_succ]
  refine take_run 13 (some 20) (v := ?_) rfl rfl (by kernel_rfl) (by kernel_rfl) (by kernel_rfl) (fun _ _ _ h => h) (by rfl) ?_ hHeld ?_
  rotate_left
  · ((intro w hSw); (try dsimp only at hSw); go_simp <;> with_reducible rfl)
  simp only [Act.put, List.setIfInBounds_toArray, List.set_cons_zero, List.set_cons_succ]
  refine take_one 14 (by kernel_rfl) rfl (fun K hK => ?_)
  go_simp
  ((with_reducible refine (l1Less_any y.t y.u vt vu _).mono ?_); rintro e w1 ⟨rfl, hb1⟩)
  try go_wp2_with fail
  refine hK.out _ _ (by exact jh (hHeld.2.2.2.on hb1)) (fun hHeld => ?_)
  clear hK K
  refine take_run 15 (some 22) (v := ?_) rfl rfl (by kernel_rfl) (by kernel_rfl) (by kernel_rfl) (fun _ _ _ h => h) (by rfl) ?_ hHeld ?_
  rotate_left
  · ((intro w hSw); (try dsimp only at hSw); go_simp <;> with_reducible rfl)
  simp only [Act.put, List.setIfInBounds_toArray, List.set_cons_zero, List.set_cons_succ]
  refine wpAnyH_done (by kernel_rfl) ?_ _
  refine NoPanic.normal ?_
  have I1 := hHeld.2.2.2
  clear hHeld S0
  have q3 := (I1.nth 2 rfl).one.1
  have q6 := (I1.nth 0 rfl).one
  cases hless : lessB y.t y.u vt vu
  · have HNO := hide (addN_not (v := ⟨(kn : Int), vt, vu, va, vc, vts, vs, vg⟩) HK.out (stepL_no rfl HY.out hless))
    clear hless jh
    go_wp2
    refine bodyPost_ret (v := .agg #[.slice (some ⟨G, 0, none⟩) us.length xc]) (by simp [results, Tryz.results87, go_sem, q6]) rfl ?_
    exact ⟨us, rfl, by rw [HNO.out]; exact nl_refl us, (HG.out.on I1.below).asideT (p := ⟨w.heap.size + 1 + 1, 0, none⟩) (I1.nth 0 rfl) _, (Turn.below I1.below).far (by simp only; omega) _⟩
  · have HLS := hide hless
    have HST : Hid (stepL n.ss ⟨(kn : Int), vt, vu, va, vc, vts, vs, vg⟩ = some (n.ss.set kn ⟨(kn : Int), vt, vu, va, vc, vts, vs, vg⟩)) := stepL_yes rfl HY.out hless
    have B3 := I1.nth 2 rfl
    have B5 := I1.nth 1 rfl
    have B6 := I1.nth 0 rfl
    have HG1 := hide (HG.out.on I1.below)
    have HO1 := hide ((HO.out.on I1.below).wide I1.base)
    have HN1 := hide ((HCG.out.on I1.below).blk)
    have HV1 := hide ((HV.out.on I1.below).wide I1.base)
    have HT1 := hide (Turn.below (P := TouchC w base) I1.below)
    have zb := I1.base
    have hne : G ≠ Gs := fun e => by
      subst e
      exact absurd (blk_one HN1.out HO1.out.blk) (by decide)
    have hc0 := CELL.out _ I1.below
    have HCUR : Hid (cur[k * 2]? = some (.slice (some ⟨Gs, 0, none⟩) 4 n.sc)) := (HN1.out.at (k * 2)).symm.trans hc0
    have HA := hide (l2Add_less base w1.heap.size Gs n.sc n.ss cu ⟨(kn : Int), vt, vu, va, vc, vts, vs, vg⟩ y kn w1.drew (HO1.out.on (Below.refl _ _).drew) (Nat.le_refl _) HS4.out rfl hkn4 (by have := HVL.out; simp only at this ⊢; omega) (HV1.out.on (Below.refl _ _).drew).tg HY.out HLS.out)
    clear hless jh I1 q3 q6
    go_wp2_with fail
    refine wp_region_noPanic ?_
    refine wp_region_held_drew (S := (fun w' => (w'.cell? ⟨w.heap.size, 0, none⟩ = some (.slice (some ⟨G, 0, none⟩) us.length xc) ∧ w'.cell? ⟨G, k * 2, none⟩ = some (.slice (some ⟨Gs, 0, none⟩) 4 n.sc)) ∧ Six w' (w.heap.size + 1) 0 ⟨(kn : Int), vt, vu, va, vc, vts, vs, vg⟩ ∧ (Blk w' w.heap.size 25 #[.slice (some ⟨G, 0, none⟩) us.length xc] ∧ Blk w' (w.heap.size + 1) 51 (verC (kn : Int) vt vu va vts.length vc vs vg) ∧ Blk w' (w.heap.size + 1 + 1) 25 #[.slice none 0 0]))) (by kernel_rfl) (by exact ⟨⟨B3.drew.at 0, hc0⟩, B5.drew.six.1, B3.drew, B5.drew, B6.drew⟩) (fun hHeld => ?_)
    refine take_run 0 (some 24) (v := ?_) rfl rfl (by kernel_rfl) (by kernel_rfl) (by kernel_rfl) (fun _ _ _ h => h) (by rfl) ?_ hHeld ?_
    rotate_left
    · ((intro w hSw); (try dsimp only at hSw); go_simp <;> with_reducible rfl)
    simp only [Act.put, List.setIfInBounds_toArray, List.set_cons_zero, List.set_cons_succ]
    refine take_run 1 (some 25) (v := ?_) rfl rfl (by kernel_rfl) (by kernel_rfl) (by kernel_rfl) (fun _ _ _ h => h) (by rfl) ?_ hHeld ?_
    rotate_left
    · ((intro w hSw); (try dsimp only at hSw); go_simp <;> with_reducible rfl)
    simp only [Act.put, List.setIfInBounds_toArray, List.set_cons_zero, List.set_cons_succ]
    refine take_run 2 (some 26) (v := ?_) rfl rfl (by kernel_rfl) (by kernel_rfl) (by kernel_rfl) (fun _ _ _ h => h) (by rfl) ?_ hHeld ?_
    rotate_left
    · ((intro w hSw); (try dsimp only at hSw); go_simp <;> with_reducible rfl)
    simp only [Act.put, List.setIfInBounds_toArray, List.set_cons_zero, List.set_cons_succ]
    refine take_run 3 (some 27) (v := ?_) rfl rfl (by kernel_rfl) (by kernel_rfl) (by kernel_rfl) (fun _ _ _ h => h) (by rfl) ?_ hHeld ?_
    rotate_left
    · ((intro w hSw); (try dsimp only at hSw); go_simp <;> with_reducible rfl)
    simp only [Act.put, List.setIfInBounds_toArray, List.set_cons_zero, List.set_cons_succ]
    refine take_run 4 (some 28) (v := ?_) rfl rfl (by kernel_rfl) (by kernel_rfl) (by kernel_rfl) (fun _ _ _ h => h) (by rfl) ?_ hHeld ?_
    rotate_left
    · ((intro w hSw); (try dsimp only at hSw); go_simp <;> with_reducible rfl)
    simp only [Act.put, List.setIfInBounds_toArray, List.set_cons_zero, List.set_cons_succ]
    refine take_run 5 (some 29) (v := ?_) rfl rfl (by kernel_rfl) (by kernel_rfl) (by kernel_rfl) (fun _ _ _ h => h) (by rfl) ?_ hHeld ?_
    rotate_left
    · ((intro w hSw); (try dsimp only at hSw); go_simp <;> with_reducible rfl)
    simp only [Act.put, List.setIfInBounds_toArray, List.set_cons_zero, List.set_cons_succ]
    refine take_run 6 (some 30) (v := ?_) rfl rfl (by kernel_rfl) (by kernel_rfl) (by kernel_rfl) (fun _ _ _ h => h) (by rfl) ?_ hHeld ?_
    rotate_left
    · ((intro w hSw); (try dsimp only at hSw); go_simp <;> with_reducible rfl)
    simp only [Act.put, List.setIfInBounds_toArray, List.set_cons_zero, List.set_cons_succ]
    refine take_run 7 (some 31) (v := ?_) rfl rfl (by kernel_rfl) (by kernel_rfl) (by kernel_rfl) (fun _ _ _ h => h) (by rfl) ?_ hHeld ?_
    rotate_left
    · ((intro w hSw); (try dsimp only at hSw); go_simp <;> with_reducible rfl)
    simp only [Act.put, List.setIfInBounds_toArray, List.set_cons_zero, List.set_cons_succ]
    refine take_run 8 (some 32) (v := ?_) rfl rfl (by kernel_rfl) (by kernel_rfl) (by kernel_rfl) (fun _ _ _ h => h) (by rfl) ?_ hHeld ?_
    rotate_left
    · ((intro w hSw); (try dsimp only at hSw); go_simp <;> with_reducible rfl)
    simp only [Act.put, List.setIfInBounds_toArray, List.set_cons_zero, List.set_cons_succ]
    refine take_run 9 (some 33) (v := ?_) rfl rfl (by kernel_rfl) (by kernel_rfl) (by kernel_rfl) (fun _ _ _ h => h) (by rfl) ?_ hHeld ?_
    rotate_left
    · ((intro w hSw); (try dsimp only at hSw); go_simp <;> with_reducible rfl)
    simp only [Act.put, List.setIfInBounds_toArray, List.set_cons_zero, List.set_cons_succ]
    refine take_one 10 (by kernel_rfl) rfl (fun K hK => ?_)
    go_simp
    ((with_reducible refine HA.out.mono ?_); rintro e w5 ⟨v', cur', rfl, hlk, hov, hor, hT5⟩; have HLK := hide hlk; have HOV := hide hov; have HOR := hide hor; have HT5 := hide hT5; have N5 := (HN1.out.drew).turned hT5 (fun e => hne e); have d5 := (N5.at (k * 2)).trans HCUR.out; have f5 := N5.loose (k * 2); have BS := hide (below_same N5 HCUR.out); have z5 : w1.heap.size ≤ w5.heap.size := (by have := hT5.size; simpa using this); clear hlk hov hor)
    try go_wp2_with fail
    refine hK.out _ _ (by exact ⟨⟨(hHeld.2.2.1.turned HT5.out (fun e => by have e' : w.heap.size = Gs := e; omega)).at 0, d5⟩, (hHeld.2.2.2.1.turned HT5.out (fun e => by have e' : w.heap.size + 1 = Gs := e; omega)).six.1, hHeld.2.2.1.turned HT5.out (fun e => by have e' : w.heap.size = Gs := e; omega), hHeld.2.2.2.1.turned HT5.out (fun e => by have e' : w.heap.size + 1 = Gs := e; omega), hHeld.2.2.2.2.turned HT5.out (fun e => by have e' : w.heap.size + 1 + 1 = Gs := e; omega)⟩) (fun hHeld => ?_)
    clear hK K
    refine take_run 11 (some 35) (v := ?_) rfl rfl (by kernel_rfl) (by kernel_rfl) (by kernel_rfl) (fun _ _ _ h => h) (by rfl) ?_ hHeld ?_
    rotate_left
    · ((intro w hSw); (try dsimp only at hSw); go_simp <;> with_reducible rfl)
    simp only [Act.put, List.setIfInBounds_toArray, List.set_cons_zero, List.set_cons_succ]
    refine take_run 12 (some 36) (v := ?_) rfl rfl (by kernel_rfl) (by kernel_rfl) (by kernel_rfl) (fun _ _ _ h => h) (by rfl) ?_ hHeld ?_
    rotate_left
    · ((intro w hSw); (try dsimp only at hSw); go_simp <;> with_reducible rfl)
    simp only [Act.put, List.setIfInBounds_toArray, List.set_cons_zero, List.set_cons_succ]
    refine take_one 13 (by kernel_rfl) rfl (fun K hK => ?_)
    go_simp
    refine hK.out _ _ (by exact ⟨⟨(hHeld.2.2.1.on BS.out).at 0, ((N5.on BS.out).at (k * 2)).trans HCUR.out⟩, (hHeld.2.2.2.1.on BS.out).six.1, hHeld.2.2.1.on BS.out, hHeld.2.2.2.1.on BS.out, hHeld.2.2.2.2.on BS.out⟩) (fun hHeld => ?_)
    clear hK K
    refine wpAnyH_done (by kernel_rfl) ?_ _
    refine NoPanic.normal ?_
    obtain ⟨-, -, B3', B5', B6'⟩ := hHeld
    have G5 := (HG1.out.on (Below.refl _ _).drew).setStore (v' := v') (cur' := cur') (kn := kn) HK.out HSA.out (by intro e; have := HS4.out; rw [e] at this; simp at this) HOV.out HOR.out HT5.out
    have HG6 := hide (G5.on BS.out)
    have HV6 := hide ((HV1.out.on (Below.refl _ _).drew).turned HT5.out (fun g hg _ _ hn e => by
      have e' : g = Gs := e
      subst e'
      rcases HV1.out with q | ⟨g', _, e1, _, _, q3, _⟩
      · exact hn q
      · simp only at e1 hg
        rw [hg] at e1
        injection e1 with e1
        injection e1 with e1
        subst e1
        exact absurd (blk_one q3 HO1.out.blk) (by decide)) |>.on BS.out)
    have HT6 := hide ((HT1.out.trans ((Turn.below (P := TouchC w base) (Below.refl _ _).drew).trans (HT5.out.mono (fun g e => by have e' : g = Gs := e; subst e'; exact ⟨gs0, _, .inl HO.out.blk⟩)))).trans (.below BS.out))
    have N6 := hide (N5.on BS.out)
    have z6 : w5.heap.size ≤ (w5.setCell ⟨G, k * 2, none⟩ (.slice (some ⟨Gs, 0, none⟩) 4 n.sc)).heap.size := BS.out.size
    clear B3 B5 B6 hc0 d5 f5 N5 G5 HA
    generalize w5.setCell ⟨G, k * 2, none⟩ (.slice (some ⟨Gs, 0, none⟩) 4 n.sc) = W6 at B3' B5' B6' HG6 HV6 HT6 N6 BS z6 ⊢
    have q3 := B3'.one.1
    have q6 := B6'.one
    by_cases hlast : k + 1 = us.length
    · have c1 : ¬ ((k : Int) < (us.length : Int) - 1) := by omega
      have HADD : Hid (addN us k ⟨(kn : Int), vt, vu, va, vc, vts, vs, vg⟩ = us.set k ⟨n.sa, n.sc, n.ss.set kn ⟨(kn : Int), vt, vu, va, vc, vts, vs, vg⟩, n.wa, n.wc, n.ws⟩) := by
        unfold Hid
        rw [addN_at HK.out, decide_eq_true hlast]
        unfold addNd
        rw [HST.out]
        rfl
      clear hlast
      go_wp2
      refine bodyPost_ret (v := .agg #[.slice (some ⟨G, 0, none⟩) us.length xc]) (by simp [results, Tryz.results87, go_sem, q6]) rfl ?_
      refine ⟨_, rfl, ?_, HG6.out.asideT (p := ⟨w.heap.size + 1 + 1, 0, none⟩) B6' _, HT6.out.far (by simp only; omega) _⟩
      rw [HADD.out]
      have hll := ll_set (ll_refl n.ss) HLK.out kn
      exact nl_set (nl_refl us) ⟨hll.1, hll.2, rfl, like_refl _⟩
    · have c1 : (k : Int) < (us.length : Int) - 1 := by omega
      have HADD : Hid (addN us k ⟨(kn : Int), vt, vu, va, vc, vts, vs, vg⟩ = us.set k ⟨n.sa, n.sc, n.ss.set kn ⟨(kn : Int), vt, vu, va, vc, vts, vs, vg⟩, n.wa, n.wc, n.ws ++ [⟨(kn : Int), vt, vu, va, vc, vts, vs, vg⟩]⟩) := by
        unfold Hid
        rw [addN_at HK.out, decide_eq_false hlast]
        unfold addNd
        rw [HST.out]
        rfl
      clear hlast
      obtain ⟨n1, hn1⟩ : ∃ n1 : Nd, n1 = ⟨n.sa, n.sc, n.ss.set kn v', n.wa, n.wc, n.ws⟩ := ⟨_, rfl⟩
      have HN1' := hide hn1
      rw [← hn1] at HG6
      have ewa : n1.wa = n.wa := by rw [hn1]
      have ewc : n1.wc = n.wc := by rw [hn1]
      have ews : n1.ws = n.ws := by rw [hn1]
      have HEW : Hid (n1.wa = n.wa ∧ n1.wc = n.wc ∧ n1.ws = n.ws) := ⟨ewa, ewc, ews⟩
      clear hn1 ewa ewc ews
      have HK1 : Hid ((us.set k n1)[k]? = some n1) := List.getElem?_set_self hkl
      have HG7 : Hid (GRow base W6.drew (.slice (some ⟨G, 0, none⟩) (us.set k n1).length xc) (us.set k n1)) := by
        unfold Hid
        rw [List.length_set]
        exact HG6.out.on (Below.refl _ _).drew
      have HTW := hide (HG.out.own k n HK.out).typed
      have HCU2 : Hid (cur[k * 2 + 1]? = some (.slice n.wa n.ws.length n.wc)) := (HCG.out.at' k n HK.out).2
      have q1 : W6.drew.cell? ⟨G, k * 2 + 1, none⟩ = some (.slice n.wa n.ws.length n.wc) := (N6.out.drew.at _).trans HCU2.out
      have hw6' : n.ws.length ≤ 6 := hw6
      have CP := hide (l2Copy_any ⟨(kn : Int), vt, vu, va, vc, vts, vs, vg⟩ W6.drew (by have := HVL.out; simp only at this ⊢; omega) (HV6.out.on (Below.refl _ _).drew).tg)
      have hb6 : base ≤ W6.heap.size := HG6.out.lo
      go_wp2_with fail
      refine wp_region_noPanic ?_
      refine wp_region_held_drew (S := (fun w' => w'.cell? ⟨w.heap.size, 0, none⟩ = some (.slice (some ⟨G, 0, none⟩) us.length xc) ∧ Six w' (w.heap.size + 1) 0 ⟨(kn : Int), vt, vu, va, vc, vts, vs, vg⟩ ∧ (Blk w' w.heap.size 25 #[.slice (some ⟨G, 0, none⟩) us.length xc] ∧ Blk w' (w.heap.size + 1) 51 (verC (kn : Int) vt vu va vts.length vc vs vg) ∧ Blk w' (w.heap.size + 1 + 1) 25 #[.slice none 0 0]))) (by kernel_rfl) (by exact ⟨B3'.drew.at 0, B5'.drew.six.1, B3'.drew, B5'.drew, B6'.drew⟩) (fun hHeld => ?_)
      refine take_run 0 (some 43) (v := ?_) rfl rfl (by kernel_rfl) (by kernel_rfl) (by kernel_rfl) (fun _ _ _ h => h) (by rfl) ?_ hHeld ?_
      rotate_left
      · ((intro w hSw); (try dsimp only at hSw); go_simp <;> with_reducible rfl)
      simp only [Act.put, List.setIfInBounds_toArray, List.set_cons_zero, List.set_cons_succ]
      refine take_run 1 (some 44) (v := ?_) rfl rfl (by kernel_rfl) (by kernel_rfl) (by kernel_rfl) (fun _ _ _ h => h) (by rfl) ?_ hHeld ?_
      rotate_left
      · ((intro w hSw); (try dsimp only at hSw); go_simp <;> with_reducible rfl)
      simp only [Act.put, List.setIfInBounds_toArray, List.set_cons_zero, List.set_cons_succ]
      refine take_run 2 (some 45) (v := ?_) rfl rfl (by kernel_rfl) (by kernel_rfl) (by kernel_rfl) (fun _ _ _ h => h) (by rfl) ?_ hHeld ?_
      rotate_left
      · ((intro w hSw); (try dsimp only at hSw); go_simp <;> with_reducible rfl)
      simp only [Act.put, List.setIfInBounds_toArray, List.set_cons_zero, List.set_cons_succ]
      refine take_run 3 (some 46) (v := ?_) rfl rfl (by kernel_rfl) (by kernel_rfl) (by kernel_rfl) (fun _ _ _ h => h) (by rfl) ?_ hHeld ?_
      rotate_left
      · ((intro w hSw); (try dsimp only at hSw); go_simp <;> with_reducible rfl)
      simp only [Act.put, List.setIfInBounds_toArray, List.set_cons_zero, List.set_cons_succ]
      refine take_run 4 (some 47) (v := ?_) rfl rfl (by kernel_rfl) (by kernel_rfl) (by kernel_rfl) (fun _ _ _ h => h) (by rfl) ?_ hHeld ?_
      rotate_left
      · ((intro w hSw); (try dsimp only at hSw); go_simp <;> with_reducible rfl)
      simp only [Act.put, List.setIfInBounds_toArray, List.set_cons_zero, List.set_cons_succ]
      refine take_run 5 (some 48) (v := ?_) rfl rfl (by kernel_rfl) (by kernel_rfl) (by kernel_rfl) (fun _ _ _ h => h) (by rfl) ?_ hHeld ?_
      rotate_left
      · ((intro w hSw); (try dsimp only at hSw); go_simp <;> with_reducible rfl)
      simp only [Act.put, List.setIfInBounds_toArray, List.set_cons_zero, List.set_cons_succ]
      refine take_run 6 (some 49) (v := ?_) rfl rfl (by kernel_rfl) (by kernel_rfl) (by kernel_rfl) (fun _ _ _ h => h) (by rfl) ?_ hHeld ?_
      rotate_left
      · ((intro w hSw); (try dsimp only at hSw); go_simp <;> with_reducible rfl)
      simp only [Act.put, List.setIfInBounds_toArray, List.set_cons_zero, List.set_cons_succ]
      refine take_run 7 (some 50) (v := ?_) rfl rfl (by kernel_rfl) (by kernel_rfl) (by kernel_rfl) (fun _ _ _ h => h) (by rfl) ?_ hHeld ?_
      rotate_left
      · ((intro w hSw); (try dsimp only at hSw); go_simp <;> with_reducible rfl)
      simp only [Act.put, List.setIfInBounds_toArray, List.set_cons_zero, List.set_cons_succ]
      refine take_run 9 (some 52) (v := ?_) rfl rfl (by kernel_rfl) (by kernel_rfl) (by kernel_rfl) (fun _ _ _ h => h) (by rfl) ?_ hHeld ?_
      rotate_left
      · ((intro w hSw); (try dsimp only at hSw); go_simp <;> with_reducible rfl)
      simp only [Act.put, List.setIfInBounds_toArray, List.set_cons_zero, List.set_cons_succ]
      refine wpAnyH_ready (rs := [8, 10]) (by kernel_rfl) (by simp) ?_
      refine AllReadyH.cons rfl (fun K hK => ?_) (AllReadyH.cons rfl (fun K hK => ?_) AllReadyH.nil)
      · skip
        go_simp
        refine hK.out _ _ (by exact hHeld) (fun hHeld => ?_)
        clear hK K
        refine take_one 10 (by kernel_rfl) rfl (fun K hK => ?_)
        go_simp
        ((with_reducible refine CP.out.mono ?_); rintro e w7 ⟨v2, rfl, hlk2, hov2, hb7⟩; have HL2 := hide hlk2; have HO2 := hide hov2; have HB7 := hide hb7; have N7 := N6.out.drew.on hb7; have q2 : w7.cell? ⟨G, k * 2 + 1, none⟩ = some (.slice n.wa n.ws.length n.wc) := (N7.at _).trans HCU2.out; have q4 : (w7.alloc (.cells (verC v2.k v2.t v2.u v2.a v2.ts.length v2.c v2.s v2.g) 51)).cell? ⟨G, k * 2 + 1, none⟩ = some (.slice n.wa n.ws.length n.wc) := ((N7.more _).at _).trans HCU2.out; have z7 : W6.heap.size ≤ w7.heap.size := (by have := hb7.size; simpa using this); have HR := hide (show w7.ownsRow base 51 6 (.slice n.wa n.ws.length n.wc) n.ws.length (flat6 n.ws) by have := ((HG7.out.on hb7).own k n1 HK1.out).row; rw [HEW.out.1, HEW.out.2.1, HEW.out.2.2] at this; exact this); clear hlk2 hov2)
        try go_wp2_with fail
        refine hK.out _ _ (by exact ⟨(hHeld.2.2.1.on HB7.out).at 0, (hHeld.2.2.2.1.on HB7.out).six.1, hHeld.2.2.1.on HB7.out, hHeld.2.2.2.1.on HB7.out, hHeld.2.2.2.2.on HB7.out⟩) (fun hHeld => ?_)
        clear hK K
        refine take_one 11 (by kernel_rfl) rfl (fun K hK => ?_)
        go_simp
        refine hK.out _ _ (by exact ⟨(hHeld.2.2.1.more _).at 0, (hHeld.2.2.2.1.more _).six.1, hHeld.2.2.1.more _, hHeld.2.2.2.1.more _, hHeld.2.2.2.2.more _⟩) (fun hHeld => ?_)
        clear hK K
        refine take_one 12 (by kernel_rfl) rfl (fun K hK => ?_)
        (refine step_append_lies _ (by rfl) _ _ _ (by rfl) base 51 j0 _ 6 72 Tryz.underlying33 J0.out J1.out J2.out J3.out rfl (by omega) (.slice n.wa n.ws.length n.wc) n.ws.length (flat6 n.ws) (by rfl) (HR.out.alloc _) ⟨w7.heap.size, 0, none⟩ 1 1 (cells6 v2) (by rfl) (by rfl) (World.news_of_block (cs := verC v2.k v2.t v2.u v2.a v2.ts.length v2.c v2.s v2.g) (t := 51) (fr := (0, 0)) (heap_alloc_new w7 _)) (by simp [cells6, Value.oneCell']) (by omega) (by unfold maxLen; omega) (by omega) (by simp; omega) _ rfl ?_; intro g cap w8 hown2 hgrow hat hlt2; have N8 := (N7.more (.cells (verC v2.k v2.t v2.u v2.a v2.ts.length v2.c v2.s v2.g) 51)).kept hgrow (by intro e; obtain ⟨cs, b1, b2, b3⟩ := HTW.out _ e; exact absurd (blk_one b1 HCG.out.blk) (by decide)); have q5 : w8.cell? ⟨G, k * 2 + 1, none⟩ = some (.slice n.wa n.ws.length n.wc) := (N8.at _).trans HCU2.out; have f5 := N8.loose (k * 2 + 1); have OW := hide hown2; have GW := hide hgrow; have HAT := hide hat; clear hown2 hat)
        simp only [List.getElem_toArray, List.getElem_cons_zero, List.getElem_cons_succ, Act.put, List.setIfInBounds_toArray, List.set_cons_zero, List.set_cons_succ]
        refine hK.out _ _ (by exact ⟨(hHeld.2.2.1.kept hgrow (by intro e; obtain ⟨cs, b1, b2, b3⟩ := HTW.out _ e; omega)).at 0, (hHeld.2.2.2.1.kept hgrow (by intro e; obtain ⟨cs, b1, b2, b3⟩ := HTW.out _ e; omega)).six.1, hHeld.2.2.1.kept hgrow (by intro e; obtain ⟨cs, b1, b2, b3⟩ := HTW.out _ e; omega), hHeld.2.2.2.1.kept hgrow (by intro e; obtain ⟨cs, b1, b2, b3⟩ := HTW.out _ e; omega), hHeld.2.2.2.2.kept hgrow (by intro e; obtain ⟨cs, b1, b2, b3⟩ := HTW.out _ e; omega)⟩) (fun hHeld => ?_)
        clear hK K
        refine take_run 13 (some 56) (v := ?_) rfl rfl (by kernel_rfl) (by kernel_rfl) (by kernel_rfl) (fun _ _ _ h => h) (by rfl) ?_ hHeld ?_
        rotate_left
        · ((intro w hSw); (try dsimp only at hSw); go_simp <;> with_reducible rfl)
        simp only [Act.put, List.setIfInBounds_toArray, List.set_cons_zero, List.set_cons_succ]
        refine take_run 14 (some 57) (v := ?_) rfl rfl (by kernel_rfl) (by kernel_rfl) (by kernel_rfl) (fun _ _ _ h => h) (by rfl) ?_ hHeld ?_
        rotate_left
        · ((intro w hSw); (try dsimp only at hSw); go_simp <;> with_reducible rfl)
        simp only [Act.put, List.setIfInBounds_toArray, List.set_cons_zero, List.set_cons_succ]
        refine take_one 15 (by kernel_rfl) rfl (fun K hK => ?_)
        go_simp
        refine hK.out _ _ (by exact ⟨(hHeld.2.2.1.aside (by show w.heap.size ≠ G; omega) _).at 0, (hHeld.2.2.2.1.aside (by show w.heap.size + 1 ≠ G; omega) _).six.1, hHeld.2.2.1.aside (by show w.heap.size ≠ G; omega) _, hHeld.2.2.2.1.aside (by show w.heap.size + 1 ≠ G; omega) _, hHeld.2.2.2.2.aside (by show w.heap.size + 1 + 1 ≠ G; omega) _⟩) (fun hHeld => ?_)
        clear hK K
        refine wpAnyH_done (by kernel_rfl) ?_ _
        refine NoPanic.normal ?_
        obtain ⟨-, -, E3, E5, E6⟩ := hHeld
        have HE := HEW.out
        have GG := HG7.out.setWait (v' := v2) (g := g) (cap := cap) (w2 := w8) (w1 := w7.alloc (.cells (verC v2.k v2.t v2.u v2.a v2.ts.length v2.c v2.s v2.g) 51)) HK1.out (HB7.out.trans ((below_alloc1 w7 _).mono HB7.out.size)) ((HO2.out.on (below_alloc1 w7 _)).wide (by simp)) (by rw [HE.2.2]; exact OW.out) (by rw [HE.1, HE.2.1, HE.2.2]; exact GW.out) (by rw [HE.1, HE.2.1, HE.2.2]; rcases HAT.out with q | q; exact .inl q; exact .inr (by rw [q]; have e : W6.drew.heap.size = W6.heap.size := rfl; simp only [World.size_alloc]; omega))
        rw [HE.2.2, List.length_set, List.set_set] at GG
        have HGG := hide GG
        have HT9 := hide (((HT6.out.trans ((Turn.below (P := TouchC w base) (Below.refl _ _).drew).trans (.below (HB7.out.trans ((below_alloc1 w7 _).mono HB7.out.size))))).trans (.of GW.out (fun g' e => by obtain ⟨cs, b1, b2, b3⟩ := HTW.out _ e; exact ⟨b2, cs, .inl b1⟩))).set (p := ⟨G, k * 2 + 1, none⟩) (by obtain ⟨cs, b1, b2, _⟩ := HG.out.typed G rfl; exact ⟨b2, cs, .inr b1⟩) (.slice (some ⟨g, 0, none⟩) (n.ws.length + 1) cap))
        clear GG N7 N8 q1 q2 q4 q5 f5 B3' B5' B6' HE
        generalize w8.setCell ⟨G, k * 2 + 1, none⟩ (.slice (some ⟨g, 0, none⟩) (n.ws.length + 1) cap) = W9 at E3 E5 E6 HGG HT9 ⊢
        have e3 := E3.one.1
        have e6 := E6.one
        go_wp2
        refine bodyPost_ret (v := .agg #[.slice (some ⟨G, 0, none⟩) us.length xc]) (by simp [results, Tryz.results87, go_sem, e6]) rfl ?_
        refine ⟨_, rfl, ?_, HGG.out.asideT (p := ⟨w.heap.size + 1 + 1, 0, none⟩) E6 _, HT9.out.far (by simp only; omega) _⟩
        rw [HADD.out, HN1'.out]
        exact nl_set (nl_refl us) ⟨(ll_set (ll_refl n.ss) HLK.out kn).1, (ll_set (ll_refl n.ss) HLK.out kn).2, (ll_snoc (ll_refl n.ws) HL2.out).1, (ll_snoc (ll_refl n.ws) HL2.out).2⟩
      · skip
        go_simp
        ((with_reducible refine CP.out.mono ?_); rintro e w7 ⟨v2, rfl, hlk2, hov2, hb7⟩; have HL2 := hide hlk2; have HO2 := hide hov2; have HB7 := hide hb7; have N7 := N6.out.drew.on hb7; have q2 : w7.cell? ⟨G, k * 2 + 1, none⟩ = some (.slice n.wa n.ws.length n.wc) := (N7.at _).trans HCU2.out; have q4 : (w7.alloc (.cells (verC v2.k v2.t v2.u v2.a v2.ts.length v2.c v2.s v2.g) 51)).cell? ⟨G, k * 2 + 1, none⟩ = some (.slice n.wa n.ws.length n.wc) := ((N7.more _).at _).trans HCU2.out; have z7 : W6.heap.size ≤ w7.heap.size := (by have := hb7.size; simpa using this); have HR := hide (show w7.ownsRow base 51 6 (.slice n.wa n.ws.length n.wc) n.ws.length (flat6 n.ws) by have := ((HG7.out.on hb7).own k n1 HK1.out).row; rw [HEW.out.1, HEW.out.2.1, HEW.out.2.2] at this; exact this); clear hlk2 hov2)
        try go_wp2_with fail
        refine hK.out _ _ (by exact ⟨(hHeld.2.2.1.on HB7.out).at 0, (hHeld.2.2.2.1.on HB7.out).six.1, hHeld.2.2.1.on HB7.out, hHeld.2.2.2.1.on HB7.out, hHeld.2.2.2.2.on HB7.out⟩) (fun hHeld => ?_)
        clear hK K
        refine wpAnyH_ready (rs := [8, 11]) (by kernel_rfl) (by simp) ?_
        refine AllReadyH.cons rfl (fun K hK => ?_) (AllReadyH.cons rfl (fun K hK => ?_) AllReadyH.nil)
        · skip
          go_simp
          refine hK.out _ _ (by exact hHeld) (fun hHeld => ?_)
          clear hK K
          refine take_one 11 (by kernel_rfl) rfl (fun K hK => ?_)
          go_simp
          refine hK.out _ _ (by exact ⟨(hHeld.2.2.1.more _).at 0, (hHeld.2.2.2.1.more _).six.1, hHeld.2.2.1.more _, hHeld.2.2.2.1.more _, hHeld.2.2.2.2.more _⟩) (fun hHeld => ?_)
          clear hK K
          refine take_one 12 (by kernel_rfl) rfl (fun K hK => ?_)
          (refine step_append_lies _ (by rfl) _ _ _ (by rfl) base 51 j0 _ 6 72 Tryz.underlying33 J0.out J1.out J2.out J3.out rfl (by omega) (.slice n.wa n.ws.length n.wc) n.ws.length (flat6 n.ws) (by rfl) (HR.out.alloc _) ⟨w7.heap.size, 0, none⟩ 1 1 (cells6 v2) (by rfl) (by rfl) (World.news_of_block (cs := verC v2.k v2.t v2.u v2.a v2.ts.length v2.c v2.s v2.g) (t := 51) (fr := (0, 0)) (heap_alloc_new w7 _)) (by simp [cells6, Value.oneCell']) (by omega) (by unfold maxLen; omega) (by omega) (by simp; omega) _ rfl ?_; intro g cap w8 hown2 hgrow hat hlt2; have N8 := (N7.more (.cells (verC v2.k v2.t v2.u v2.a v2.ts.length v2.c v2.s v2.g) 51)).kept hgrow (by intro e; obtain ⟨cs, b1, b2, b3⟩ := HTW.out _ e; exact absurd (blk_one b1 HCG.out.blk) (by decide)); have q5 : w8.cell? ⟨G, k * 2 + 1, none⟩ = some (.slice n.wa n.ws.length n.wc) := (N8.at _).trans HCU2.out; have f5 := N8.loose (k * 2 + 1); have OW := hide hown2; have GW := hide hgrow; have HAT := hide hat; clear hown2 hat)
          simp only [List.getElem_toArray, List.getElem_cons_zero, List.getElem_cons_succ, Act.put, List.setIfInBounds_toArray, List.set_cons_zero, List.set_cons_succ]
          refine hK.out _ _ (by exact ⟨(hHeld.2.2.1.kept hgrow (by intro e; obtain ⟨cs, b1, b2, b3⟩ := HTW.out _ e; omega)).at 0, (hHeld.2.2.2.1.kept hgrow (by intro e; obtain ⟨cs, b1, b2, b3⟩ := HTW.out _ e; omega)).six.1, hHeld.2.2.1.kept hgrow (by intro e; obtain ⟨cs, b1, b2, b3⟩ := HTW.out _ e; omega), hHeld.2.2.2.1.kept hgrow (by intro e; obtain ⟨cs, b1, b2, b3⟩ := HTW.out _ e; omega), hHeld.2.2.2.2.kept hgrow (by intro e; obtain ⟨cs, b1, b2, b3⟩ := HTW.out _ e; omega)⟩) (fun hHeld => ?_)
          clear hK K
          refine take_run 13 (some 56) (v := ?_) rfl rfl (by kernel_rfl) (by kernel_rfl) (by kernel_rfl) (fun _ _ _ h => h) (by rfl) ?_ hHeld ?_
          rotate_left
          · ((intro w hSw); (try dsimp only at hSw); go_simp <;> with_reducible rfl)
          simp only [Act.put, List.setIfInBounds_toArray, List.set_cons_zero, List.set_cons_succ]
          refine take_run 14 (some 57) (v := ?_) rfl rfl (by kernel_rfl) (by kernel_rfl) (by kernel_rfl) (fun _ _ _ h => h) (by rfl) ?_ hHeld ?_
          rotate_left
          · ((intro w hSw); (try dsimp only at hSw); go_simp <;> with_reducible rfl)
          simp only [Act.put, List.setIfInBounds_toArray, List.set_cons_zero, List.set_cons_succ]
          refine take_one 15 (by kernel_rfl) rfl (fun K hK => ?_)
          go_simp
          refine hK.out _ _ (by exact ⟨(hHeld.2.2.1.aside (by show w.heap.size ≠ G; omega) _).at 0, (hHeld.2.2.2.1.aside (by show w.heap.size + 1 ≠ G; omega) _).six.1, hHeld.2.2.1.aside (by show w.heap.size ≠ G; omega) _, hHeld.2.2.2.1.aside (by show w.heap.size + 1 ≠ G; omega) _, hHeld.2.2.2.2.aside (by show w.heap.size + 1 + 1 ≠ G; omega) _⟩) (fun hHeld => ?_)
          clear hK K
          refine wpAnyH_done (by kernel_rfl) ?_ _
          refine NoPanic.normal ?_
          obtain ⟨-, -, E3, E5, E6⟩ := hHeld
          have HE := HEW.out
          have GG := HG7.out.setWait (v' := v2) (g := g) (cap := cap) (w2 := w8) (w1 := w7.alloc (.cells (verC v2.k v2.t v2.u v2.a v2.ts.length v2.c v2.s v2.g) 51)) HK1.out (HB7.out.trans ((below_alloc1 w7 _).mono HB7.out.size)) ((HO2.out.on (below_alloc1 w7 _)).wide (by simp)) (by rw [HE.2.2]; exact OW.out) (by rw [HE.1, HE.2.1, HE.2.2]; exact GW.out) (by rw [HE.1, HE.2.1, HE.2.2]; rcases HAT.out with q | q; exact .inl q; exact .inr (by rw [q]; have e : W6.drew.heap.size = W6.heap.size := rfl; simp only [World.size_alloc]; omega))
          rw [HE.2.2, List.length_set, List.set_set] at GG
          have HGG := hide GG
          have HT9 := hide (((HT6.out.trans ((Turn.below (P := TouchC w base) (Below.refl _ _).drew).trans (.below (HB7.out.trans ((below_alloc1 w7 _).mono HB7.out.size))))).trans (.of GW.out (fun g' e => by obtain ⟨cs, b1, b2, b3⟩ := HTW.out _ e; exact ⟨b2, cs, .inl b1⟩))).set (p := ⟨G, k * 2 + 1, none⟩) (by obtain ⟨cs, b1, b2, _⟩ := HG.out.typed G rfl; exact ⟨b2, cs, .inr b1⟩) (.slice (some ⟨g, 0, none⟩) (n.ws.length + 1) cap))
          clear GG N7 N8 q1 q2 q4 q5 f5 B3' B5' B6' HE
          generalize w8.setCell ⟨G, k * 2 + 1, none⟩ (.slice (some ⟨g, 0, none⟩) (n.ws.length + 1) cap) = W9 at E3 E5 E6 HGG HT9 ⊢
          have e3 := E3.one.1
          have e6 := E6.one
          go_wp2
          refine bodyPost_ret (v := .agg #[.slice (some ⟨G, 0, none⟩) us.length xc]) (by simp [results, Tryz.results87, go_sem, e6]) rfl ?_
          refine ⟨_, rfl, ?_, HGG.out.asideT (p := ⟨w.heap.size + 1 + 1, 0, none⟩) E6 _, HT9.out.far (by simp only; omega) _⟩
          rw [HADD.out, HN1'.out]
          exact nl_set (nl_refl us) ⟨(ll_set (ll_refl n.ss) HLK.out kn).1, (ll_set (ll_refl n.ss) HLK.out kn).2, (ll_snoc (ll_refl n.ws) HL2.out).1, (ll_snoc (ll_refl n.ws) HL2.out).2⟩
        · skip
          go_simp
          refine hK.out _ _ (by exact ⟨(hHeld.2.2.1.more _).at 0, (hHeld.2.2.2.1.more _).six.1, hHeld.2.2.1.more _, hHeld.2.2.2.1.more _, hHeld.2.2.2.2.more _⟩) (fun hHeld => ?_)
          clear hK K
          refine take_one 8 (by kernel_rfl) rfl (fun K hK => ?_)
          go_simp
          refine hK.out _ _ (by exact hHeld) (fun hHeld => ?_)
          clear hK K
          refine take_one 12 (by kernel_rfl) rfl (fun K hK => ?_)
          (refine step_append_lies _ (by rfl) _ _ _ (by rfl) base 51 j0 _ 6 72 Tryz.underlying33 J0.out J1.out J2.out J3.out rfl (by omega) (.slice n.wa n.ws.length n.wc) n.ws.length (flat6 n.ws) (by rfl) (HR.out.alloc _) ⟨w7.heap.size, 0, none⟩ 1 1 (cells6 v2) (by rfl) (by rfl) (World.news_of_block (cs := verC v2.k v2.t v2.u v2.a v2.ts.length v2.c v2.s v2.g) (t := 51) (fr := (0, 0)) (heap_alloc_new w7 _)) (by simp [cells6, Value.oneCell']) (by omega) (by unfold maxLen; omega) (by omega) (by simp; omega) _ rfl ?_; intro g cap w8 hown2 hgrow hat hlt2; have N8 := (N7.more (.cells (verC v2.k v2.t v2.u v2.a v2.ts.length v2.c v2.s v2.g) 51)).kept hgrow (by intro e; obtain ⟨cs, b1, b2, b3⟩ := HTW.out _ e; exact absurd (blk_one b1 HCG.out.blk) (by decide)); have q5 : w8.cell? ⟨G, k * 2 + 1, none⟩ = some (.slice n.wa n.ws.length n.wc) := (N8.at _).trans HCU2.out; have f5 := N8.loose (k * 2 + 1); have OW := hide hown2; have GW := hide hgrow; have HAT := hide hat; clear hown2 hat)
          simp only [List.getElem_toArray, List.getElem_cons_zero, List.getElem_cons_succ, Act.put, List.setIfInBounds_toArray, List.set_cons_zero, List.set_cons_succ]
          refine hK.out _ _ (by exact ⟨(hHeld.2.2.1.kept hgrow (by intro e; obtain ⟨cs, b1, b2, b3⟩ := HTW.out _ e; omega)).at 0, (hHeld.2.2.2.1.kept hgrow (by intro e; obtain ⟨cs, b1, b2, b3⟩ := HTW.out _ e; omega)).six.1, hHeld.2.2.1.kept hgrow (by intro e; obtain ⟨cs, b1, b2, b3⟩ := HTW.out _ e; omega), hHeld.2.2.2.1.kept hgrow (by intro e; obtain ⟨cs, b1, b2, b3⟩ := HTW.out _ e; omega), hHeld.2.2.2.2.kept hgrow (by intro e; obtain ⟨cs, b1, b2, b3⟩ := HTW.out _ e; omega)⟩) (fun hHeld => ?_)
          clear hK K
          refine take_run 13 (some 56) (v := ?_) rfl rfl (by kernel_rfl) (by kernel_rfl) (by kernel_rfl) (fun _ _ _ h => h) (by rfl) ?_ hHeld ?_
          rotate_left
          · ((intro w hSw); (try dsimp only at hSw); go_simp <;> with_reducible rfl)
          simp only [Act.put, List.setIfInBounds_toArray, List.set_cons_zero, List.set_cons_succ]
          refine take_run 14 (some 57) (v := ?_) rfl rfl (by kernel_rfl) (by kernel_rfl) (by kernel_rfl) (fun _ _ _ h => h) (by rfl) ?_ hHeld ?_
          rotate_left
          · ((intro w hSw); (try dsimp only at hSw); go_simp <;> with_reducible rfl)
          simp only [Act.put, List.setIfInBounds_toArray, List.set_cons_zero, List.set_cons_succ]
          refine take_one 15 (by kernel_rfl) rfl (fun K hK => ?_)
          go_simp
          refine hK.out _ _ (by exact ⟨(hHeld.2.2.1.aside (by show w.heap.size ≠ G; omega) _).at 0, (hHeld.2.2.2.1.aside (by show w.heap.size + 1 ≠ G; omega) _).six.1, hHeld.2.2.1.aside (by show w.heap.size ≠ G; omega) _, hHeld.2.2.2.1.aside (by show w.heap.size + 1 ≠ G; omega) _, hHeld.2.2.2.2.aside (by show w.heap.size + 1 + 1 ≠ G; omega) _⟩) (fun hHeld => ?_)
          clear hK K
          refine wpAnyH_done (by kernel_rfl) ?_ _
          refine NoPanic.normal ?_
          obtain ⟨-, -, E3, E5, E6⟩ := hHeld
          have HE := HEW.out
          have GG := HG7.out.setWait (v' := v2) (g := g) (cap := cap) (w2 := w8) (w1 := w7.alloc (.cells (verC v2.k v2.t v2.u v2.a v2.ts.length v2.c v2.s v2.g) 51)) HK1.out (HB7.out.trans ((below_alloc1 w7 _).mono HB7.out.size)) ((HO2.out.on (below_alloc1 w7 _)).wide (by simp)) (by rw [HE.2.2]; exact OW.out) (by rw [HE.1, HE.2.1, HE.2.2]; exact GW.out) (by rw [HE.1, HE.2.1, HE.2.2]; rcases HAT.out with q | q; exact .inl q; exact .inr (by rw [q]; have e : W6.drew.heap.size = W6.heap.size := rfl; simp only [World.size_alloc]; omega))
          rw [HE.2.2, List.length_set, List.set_set] at GG
          have HGG := hide GG
          have HT9 := hide (((HT6.out.trans ((Turn.below (P := TouchC w base) (Below.refl _ _).drew).trans (.below (HB7.out.trans ((below_alloc1 w7 _).mono HB7.out.size))))).trans (.of GW.out (fun g' e => by obtain ⟨cs, b1, b2, b3⟩ := HTW.out _ e; exact ⟨b2, cs, .inl b1⟩))).set (p := ⟨G, k * 2 + 1, none⟩) (by obtain ⟨cs, b1, b2, _⟩ := HG.out.typed G rfl; exact ⟨b2, cs, .inr b1⟩) (.slice (some ⟨g, 0, none⟩) (n.ws.length + 1) cap))
          clear GG N7 N8 q1 q2 q4 q5 f5 B3' B5' B6' HE
          generalize w8.setCell ⟨G, k * 2 + 1, none⟩ (.slice (some ⟨g, 0, none⟩) (n.ws.length + 1) cap) = W9 at E3 E5 E6 HGG HT9 ⊢
          have e3 := E3.one.1
          have e6 := E6.one
          go_wp2
          refine bodyPost_ret (v := .agg #[.slice (some ⟨G, 0, none⟩) us.length xc]) (by simp [results, Tryz.results87, go_sem, e6]) rfl ?_
          refine ⟨_, rfl, ?_, HGG.out.asideT (p := ⟨w.heap.size + 1 + 1, 0, none⟩) E6 _, HT9.out.far (by simp only; omega) _⟩
          rw [HADD.out, HN1'.out]
          exact nl_set (nl_refl us) ⟨(ll_set (ll_refl n.ss) HLK.out kn).1, (ll_set (ll_refl n.ss) HLK.out kn).2, (ll_snoc (ll_refl n.ws) HL2.out).1, (ll_snoc (ll_refl n.ws) HL2.out).2⟩
end Go.Proofs.YtjnloillcgeodaaGreat
/- Contract of the program's apply where the version is not later: nothing changes. Condition: at most four nodes, the node valid. -/
namespace Go.Proofs.YtjnloillcgeodaaGreat
open Go.RowKit Go.Joins
attribute [local go_sem ↓] Go.wp_at_zero Go.wp_at_succ

/-- What apply leaves. -/
def AppliedC (w : World) (base G xc : Nat) (us : List Nd) (k : Nat) (v : V) (e : Ending) (w' : World) : Prop :=
  ∃ us' : List Nd, e = .returned (.tuple #[]) ∧ NL us' (addN us k v) ∧ GRow base w' (.slice (some ⟨G, 0, none⟩) us.length xc) us' ∧ Turn (TouchC w base) w w'
end Go.Proofs.YtjnloillcgeodaaGreat
/- A copy of a version put into a row: its causes are new. No condition. -/
namespace Go.Proofs.YtjnloillcgeodaaGreat
open Go.RowKit Go.Joins

end Go.Proofs.YtjnloillcgeodaaGreat
/- Contract of the program's apply where the version is later: it comes into the store and, unless the node is the last, waits there. Condition: at most four nodes, the node valid. -/
namespace Go.Proofs.YtjnloillcgeodaaGreat
open Go.RowKit Go.Joins
attribute [local go_sem ↓] Go.wp_at_zero Go.wp_at_succ

end Go.Proofs.YtjnloillcgeodaaGreat
/- Contract of the program's ChainPut. Condition: sizes that memory holds. -/
namespace Go.Proofs.YtjnloillcgeodaaGreat
open Go.RowKit Go.Joins
attribute [local go_sem ↓] Go.wp_at_zero Go.wp_at_succ

theorem touch_no {w : World} {base g : Nat} {T : TypeId} {cs : Array Value} (hb : Blk w g T cs) (h1 : T ≠ 51) (h2 : T ≠ 37) : ¬ TouchC w base g := by
  rintro ⟨_, cs', h | h⟩
  · exact h1 (blk_one hb h)
  · exact h2 (blk_one hb h)
end Go.Proofs.YtjnloillcgeodaaGreat
/- Contract of the model's ChainPut. Condition: sizes that memory holds. -/
namespace Go.Proofs.YtjnloillcgeodaaGreat
open Go.RowKit Go.Joins
attribute [local go_sem ↓] Go.wp_at_zero Go.wp_at_succ

theorem ResN.set {w : World} {B U : Nat} {A : Option Addr} {us : List Nd} (h : ResN w B U A us) {p : Addr} (hp : p.block < B ∨ U ≤ p.block) (u : Value) : ResN (w.setCell p u) B U A us :=
  h.turn (P := fun g => g = p.block) ((Turn.refl (fun g => g = p.block) w).set (p := p) rfl u) (fun g h1 h2 e => by omega)
theorem ResN.swap {w : World} {B U : Nat} {A : Option Addr} {us : List Nd} {o o' : Obj} (h : ResN (w.alloc o) B U A us) (hU : U ≤ w.heap.size) : ResN (w.alloc o') B U A us := by
  have ht : Turn (fun g => g = w.heap.size) (w.alloc o) (w.alloc o') := ⟨rfl, rfl, rfl, by simp, fun k hk hn => by
    have hk' : k < w.heap.size := by simp at hk; omega
    rw [Below.heap_alloc w o' k hk', Below.heap_alloc w o k hk']⟩
  exact h.turn ht (fun g h1 h2 e => by omega)
theorem NRow.low {w : World} {B B' U G : Nat} {ns : List Nd} {cur : Array Value} (h : NRow w B U G ns cur) (hb : B' ≤ B) : NRow w B' U G ns cur :=
  ⟨h.blk, Nat.le_trans hb h.lo, h.hi, h.size, h.at', fun i n hi => (h.store i n hi).low hb, fun i n hi => (h.wait i n hi).low hb, h.two, h.apart⟩
theorem cloned_at {W w' : World} {ns : List Nd} {e : Ending} (h : ClonedC W ns e w') (hok : chainB ns = true) : ∃ (G xc : Nat) (us : List Nd), e = .returned (.agg #[.slice (some ⟨G, 0, none⟩) us.length xc]) ∧ NL us ns ∧ us.length ≤ 4 ∧ (∀ (i : Nat) n, us[i]? = some n → nodeB n = true) ∧ 1 ≤ us.length ∧ GRow W.heap.size w' (.slice (some ⟨G, 0, none⟩) us.length xc) us ∧ Below W.heap.size W w' := by
  obtain ⟨x, us, rfl, hul, hgr, hb⟩ := h
  obtain ⟨xa, xc, rfl⟩ := hgr.form
  have hcu : chainB us = true := (chainB_like hul).trans hok
  obtain ⟨⟨h1, h4⟩, hB, -⟩ := chainB_parts hcu
  obtain ⟨_, hR⟩ := hgr.res
  rcases hR with h0 | ⟨G, cur, rfl, hR⟩
  · rw [h0] at h1; simp at h1
  exact ⟨G, xc, us, rfl, hul, h4, hB, h1, hgr, hb⟩
end Go.Proofs.YtjnloillcgeodaaGreat
/- A slice put behind one that is the call's own: it may be empty. No condition. -/
namespace Go.Proofs.YtjnloillcgeodaaGreat
open Go.RowKit Go.Joins
attribute [local go_sem ↓] Go.wp_at_zero Go.wp_at_succ

section
variable {P : Program} (w : World)
theorem run_append_more (t ty : TypeId) (base : Nat) (e : TypeId) (i : TypeInfo) (z : Value) (size bytes : Nat) (ht : P.underlying t = some (.slice e)) (hi : P.info? e = some i) (hz : i.zero = some z)
    (hsize : i.size = size) (hby : i.bytes = bytes) (hzs : z.cells.size = size) (hsz : 0 < size)
    (g0 n c0 : Nat) (xs : List Value) (hown : w.ownsRow base e size (.slice (some ⟨g0, 0, none⟩) n c0) n xs)
    (ax : Option Addr) (m c : Nat) (news : List Value) (hl : news.length = m * size) (hax : m ≠ 0 → ∃ ad, ax = some ad ∧ ∀ j u, news[j]? = some u → w.cell? (ad.add j) = some u) (h1 : ∀ u ∈ news, u.oneCell' = true)
    (h63 : n + m ≤ maxLen) (hbytes : (n + m) * bytes ≤ 140737488355328) (hbase : base ≤ w.heap.size) (H : Nat) (hH : w.heap.size = H) :
    ∃ g cap w', (Builtin.append_ #[t, t] ty #[.slice (some ⟨g0, 0, none⟩) n c0, .slice ax m c]).run P w = .ok (.slice (some ⟨g, 0, none⟩) (n + m) cap) w' ∧
      w'.ownsRow base e size (.slice (some ⟨g, 0, none⟩) (n + m) cap) (n + m) (xs ++ news) ∧ w.grownBy w' (some g0) ∧ (g = g0 ∨ g = H) := by
  by_cases h0 : m = 0
  · subst h0
    have hn : news = [] := List.length_eq_zero_iff.1 (by omega)
    subst hn
    have hc : n ≤ c0 := by
      rcases hown.2 with ⟨q, _⟩ | ⟨g, cap, cr, q, _, _, h3, _⟩
      · cases q
      · injection q with _ _ q
        omega
    refine ⟨g0, c0, w, ?_, by simpa using hown, ⟨rfl, rfl, rfl, Nat.le_refl _, fun _ _ _ => rfl⟩, .inl rfl⟩
    cases ax <;> simp [Builtin.append_, run_underlying ht, sizeOf, typeInfo, hi, Builtin.lenOf, Builtin.firstCells, storeCells, loadCells, loadCellsFrom, hc]
  · obtain ⟨ad, rfl, hnews⟩ := hax h0
    obtain ⟨g, cap, w', hr, h2, h3, h4, _⟩ := run_append_lies (P := P) w t ty base e i z size bytes ht hi hz hsize hby hzs hsz _ n xs hown ad m c news hl hnews h1 (by omega) h63 hbytes hbase H hH
    refine ⟨g, cap, w', hr, h2, h3, ?_⟩
    rcases h4 with h4 | h4
    · simp only [Value.ownBlock] at h4
      injection h4 with h4
      exact .inl h4.symm
    · exact .inr h4
theorem wp_append_more {o : Oper} {a : Act} {K : Act → World → Prop} {Q : Exit → Act → World → Prop} (s x : Operand) (t : TypeId)
    (ho : o.op = .call { callee := .builtin .append, args := #[s, x], argTypes := #[t, t] })
    (base : Nat) (e : TypeId) (i : TypeInfo) (z : Value) (size bytes : Nat) (ht : P.underlying t = some (.slice e)) (hi : P.info? e = some i) (hz : i.zero = some z)
    (hsize : i.size = size) (hby : i.bytes = bytes) (hzs : z.cells.size = size) (hsz : 0 < size)
    (g0 n c0 : Nat) (xs : List Value) (hs : a.eval s = .slice (some ⟨g0, 0, none⟩) n c0) (hown : w.ownsRow base e size (.slice (some ⟨g0, 0, none⟩) n c0) n xs)
    (ax : Option Addr) (m c : Nat) (news : List Value) (hx : a.eval x = .slice ax m c) (hl : news.length = m * size) (hax : m ≠ 0 → ∃ ad, ax = some ad ∧ ∀ j u, news[j]? = some u → w.cell? (ad.add j) = some u) (h1 : ∀ u ∈ news, u.oneCell' = true)
    (h63 : n + m ≤ maxLen) (hbytes : (n + m) * bytes ≤ 140737488355328) (hbase : base ≤ w.heap.size) (H : Nat) (hH : w.heap.size = H)
    (h : ∀ g cap w', w'.ownsRow base e size (.slice (some ⟨g, 0, none⟩) (n + m) cap) (n + m) (xs ++ news) → w.grownBy w' (some g0) → (g = g0 ∨ g = H) → K (a.put o.dst (.slice (some ⟨g, 0, none⟩) (n + m) cap)) w') : o.wp P a w K Q := by
  obtain ⟨g, cap, w', hr, h2, h3, h4⟩ := run_append_more (P := P) w t o.type base e i z size bytes ht hi hz hsize hby hzs hsz g0 n c0 xs hown ax m c news hl hax h1 h63 hbytes hbase H hH
  unfold Oper.wp execOp
  simp only [ho, resolve, invoke, builtin, Sem.run_bind, Sem.run_pure, Result.andThen_ok, List.map_toArray, List.map_cons, List.map_nil, hs, hx, hr]
  exact h g cap w' h2 h3 h4
theorem wpList_append_more {ops : Array Oper} {rest : List Oper} {o : Oper} {a : Act} {Q : Exit → Act → World → Prop} (hgd : o.guard = none) (s x : Operand) (t : TypeId)
    (ho : o.op = .call { callee := .builtin .append, args := #[s, x], argTypes := #[t, t] })
    (base : Nat) (e : TypeId) (i : TypeInfo) (z : Value) (size bytes : Nat) (ht : P.underlying t = some (.slice e)) (hi : P.info? e = some i) (hz : i.zero = some z)
    (hsize : i.size = size) (hby : i.bytes = bytes) (hzs : z.cells.size = size) (hsz : 0 < size)
    (g0 n c0 : Nat) (xs : List Value) (hs : a.eval s = .slice (some ⟨g0, 0, none⟩) n c0) (hown : w.ownsRow base e size (.slice (some ⟨g0, 0, none⟩) n c0) n xs)
    (ax : Option Addr) (m c : Nat) (news : List Value) (hx : a.eval x = .slice ax m c) (hl : news.length = m * size) (hax : m ≠ 0 → ∃ ad, ax = some ad ∧ ∀ j u, news[j]? = some u → w.cell? (ad.add j) = some u) (h1 : ∀ u ∈ news, u.oneCell' = true)
    (h63 : n + m ≤ maxLen) (hbytes : (n + m) * bytes ≤ 140737488355328) (hbase : base ≤ w.heap.size) (H : Nat) (hH : w.heap.size = H)
    (h : ∀ g cap w', w'.ownsRow base e size (.slice (some ⟨g, 0, none⟩) (n + m) cap) (n + m) (xs ++ news) → w.grownBy w' (some g0) → (g = g0 ∨ g = H) → wpList P ops Q rest (a.put o.dst (.slice (some ⟨g, 0, none⟩) (n + m) cap)) w') : wpList P ops Q (o :: rest) a w :=
  wpList_plain hgd fun _ hK => wp_append_more w s x t ho base e i z size bytes ht hi hz hsize hby hzs hsz g0 n c0 xs hs hown ax m c news hx hl hax h1 h63 hbytes hbase H hH fun g cap w' h2 h3 h4 => hK _ _ (h g cap w' h2 h3 h4)
theorem step_append_more {ops : Array Oper} {o : Oper} {a : Act} {K : Act → World → Prop} {Q : Exit → Act → World → Prop} {E : Prop} (hgd : o.guard = none) (s x : Operand) (t : TypeId)
    (ho : o.op = .call { callee := .builtin .append, args := #[s, x], argTypes := #[t, t] })
    (base : Nat) (e : TypeId) (i : TypeInfo) (z : Value) (size bytes : Nat) (ht : P.underlying t = some (.slice e)) (hi : P.info? e = some i) (hz : i.zero = some z)
    (hsize : i.size = size) (hby : i.bytes = bytes) (hzs : z.cells.size = size) (hsz : 0 < size)
    (g0 n c0 : Nat) (xs : List Value) (hs : a.eval s = .slice (some ⟨g0, 0, none⟩) n c0) (hown : w.ownsRow base e size (.slice (some ⟨g0, 0, none⟩) n c0) n xs)
    (ax : Option Addr) (m c : Nat) (news : List Value) (hx : a.eval x = .slice ax m c) (hl : news.length = m * size) (hax : m ≠ 0 → ∃ ad, ax = some ad ∧ ∀ j u, news[j]? = some u → w.cell? (ad.add j) = some u) (h1 : ∀ u ∈ news, u.oneCell' = true)
    (h63 : n + m ≤ maxLen) (hbytes : (n + m) * bytes ≤ 140737488355328) (hbase : base ≤ w.heap.size) (H : Nat) (hH : w.heap.size = H)
    (h : ∀ g cap w', w'.ownsRow base e size (.slice (some ⟨g, 0, none⟩) (n + m) cap) (n + m) (xs ++ news) → w.grownBy w' (some g0) → (g = g0 ∨ g = H) → K (a.put o.dst (.slice (some ⟨g, 0, none⟩) (n + m) cap)) w') :
    if Region.wanted o (yielded ops a.tmps) = true then Oper.wp P o a w K Q else E := by
  have hw : Region.wanted o (yielded ops a.tmps) = true := by simp [Region.wanted, hgd]
  rw [if_pos hw]
  exact wp_append_more w s x t ho base e i z size bytes ht hi hz hsize hby hzs hsz g0 n c0 xs hs hown ax m c news hx hl hax h1 h63 hbytes hbase H hH h
end
end Go.Proofs.YtjnloillcgeodaaGreat
