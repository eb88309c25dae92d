/- Contract of a node that comes, in the model: where what is new lies. Condition: sizes that memory holds. -/
import Derived.Test.YtnaggcdhimcilaaGreatJChainPass
import Derived.Test.YtnaggcdhimcilaaGreatJVerFind
import Derived.Test.YtnaggcdhimcilaaGreatJPlaceMark
import Derived.Test.YtnaggcdhimcilaaGreatJChainStable
namespace Go.Proofs.YtnaggcdhimcilaaGreat
open Go.RowKit Go.Joins
attribute [local go_sem ↓] Go.wp_at_zero Go.wp_at_succ

set_option maxRecDepth 100000 in
set_option maxHeartbeats 4000000 in
theorem l3JoinF_any (base p : Nat) (xa : Option Addr) (xc : Nat) (us : List Nd) (nd : Nd) (w : World) (hG : GRow base w (.slice xa us.length xc) us) (hp : us.length = p + 1) (hp4 : p + 1 ≤ 4) (hnd : us[p]? = some nd) (hm : nd.ss.length ≤ 1048576 ∧ Small nd.ss) :
    Calls Tryz.prog 48 #[.agg #[.slice xa us.length xc]] w fun e w' => ∃ (g cap : Nat) (v' : Nd), e = .returned (.agg #[.slice (some ⟨g, 0, none⟩) (us.length + 1) cap]) ∧ Nd.like v' (bare nd) ∧ GRow base w' (.slice (some ⟨g, 0, none⟩) (us.length + 1) cap) (us ++ [v']) ∧ Turn (fun g => xa = some ⟨g, 0, none⟩) w w' ∧ (xa = some ⟨g, 0, none⟩ ∨ w.heap.size ≤ g) ∧ (∀ y, FootO v' y → w.heap.size ≤ y) := by
  obtain ⟨i0, hi0, hz0, hz1, hz2⟩ := info_parts node_info
  have I0 := hide hi0
  have I1 := hide hz0
  have I2 := hide hz1
  have I3 := hide hz2
  clear hi0 hz0 hz1 hz2
  obtain ⟨_, hR⟩ := hG.res
  rcases hR with h0 | ⟨G, cur, rfl, hR⟩
  · rw [h0] at hp; simp at hp
  have S0 := (Inv.start w).box 32 #[.slice (some ⟨G, 0, none⟩) us.length xc]
  have V00 := S0.nth 0 rfl
  have V0 := V00.on (below_alloc1 _ (.cells #[.slice none 0 0] 32))
  have B0 := Blk.made (w.alloc (.cells #[.slice (some ⟨G, 0, none⟩) us.length xc] 32)) 32 #[.slice none 0 0]
  have BA := hide ((below_alloc1 w (.cells #[.slice (some ⟨G, 0, none⟩) us.length xc] 32)).trans ((below_alloc1 (w.alloc (.cells #[.slice (some ⟨G, 0, none⟩) us.length xc] 32)) (.cells #[.slice none 0 0] 32)).mono (by simp)))
  simp only [World.size_alloc] at B0
  have HC := hide hR.cg
  have HCR := HC.out.on BA.out
  have n0 : ((w.alloc (.cells #[.slice (some ⟨G, 0, none⟩) us.length xc] 32)).alloc (.cells #[.slice none 0 0] 32)).drew.cell? ⟨G, p * 2, none⟩ = some (.slice nd.sa nd.ss.length nd.sc) := (HCR.blk.at _).trans (HCR.at' p nd hnd).1
  have CS : Hid (∀ W, Below w.heap.size w W → Calls Tryz.prog 88 #[.agg #[.slice nd.sa nd.ss.length nd.sc]] W (CopiedStR W nd.ss)) := fun W hW => l2CopyStore_any nd.sa nd.sc nd.ss W hm.1 (fun v hv => (hm.2 v hv).1) ((HC.out.on hW).store p nd hnd)
  have zA : w.heap.size + 2 = ((w.alloc (.cells #[.slice (some ⟨G, 0, none⟩) us.length xc] 32)).alloc (.cells #[.slice none 0 0] 32)).heap.size := by simp
  have HZA := hide zA
  have HTY := hide hG.typed
  have C1 := hide ((hG.on BA.out).on (Below.refl _ _).drew)
  have V1 := V0.drew
  have q1 := V1.one.1
  have v0 := V0.one.1
  have hlo := hG.lo
  have hu4 : us.length ≤ 4 := by omega
  have e1 : (us.length : Int) - 1 = (p : Int) := by omega
  have j1 : (0 : Int) ≤ (p : Int) := by omega
  have kw : IntKind.i64.wrap (p : Int) = (p : Int) := by rw [IntKind.wrap_i64]; omega
  have j2 : (p : Int) < (us.length : Int) := by omega
  have T0 := hide (Turn.below (P := fun g => (some ⟨G, 0, none⟩ : Option Addr) = some ⟨g, 0, none⟩) BA.out)
  obtain ⟨sa, sc, ss, wa, wc, ws⟩ := nd
  simp only at n0 CS hm
  clear hG HCR hR hp zA V0 V00 S0 hnd
  go_enter Tryz.func48, Tryz.ntmps48
  go_wp2_with fail
  generalize (w.alloc (.cells #[.slice (some ⟨G, 0, none⟩) us.length xc] 32)).alloc (.cells #[.slice none 0 0] 32) = W0 at V1 q1 v0 C1 BA HZA B0 n0 T0 ⊢
  have zW : w.heap.size + 2 = W0.heap.size := HZA.out
  refine wp_region_noPanic ?_
  refine wp_region_held_drew (S := (fun w' => Blk w' (w.heap.size + 1) 32 #[.slice none 0 0] ∧ Hid (Turn (fun g => (some ⟨G, 0, none⟩ : Option Addr) = some ⟨g, 0, none⟩) w w'))) (by kernel_rfl) (by exact ⟨B0.drew, T0.out.trans (.below (Below.refl _ _).drew)⟩) (fun hHeld => ?_)
  refine take_run 0 (some 7) (v := ?_) rfl rfl (by kernel_rfl) (by kernel_rfl) (by kernel_rfl) (fun _ _ _ h => h) (by rfl) ?_ hHeld ?_
  rotate_left
  · ((intro w hSw); (try dsimp only at hSw); go_simp <;> with_reducible rfl)
  simp only [Act.put, List.setIfInBounds_toArray, List.set_cons_zero, List.set_cons_succ]
  refine take_run 2 (some 9) (v := ?_) rfl rfl (by kernel_rfl) (by kernel_rfl) (by kernel_rfl) (fun _ _ _ h => h) (by rfl) ?_ hHeld ?_
  rotate_left
  · ((intro w hSw); (try dsimp only at hSw); go_simp <;> with_reducible rfl)
  simp only [Act.put, List.setIfInBounds_toArray, List.set_cons_zero, List.set_cons_succ]
  refine take_run 4 (some 11) (v := ?_) rfl rfl (by kernel_rfl) (by kernel_rfl) (by kernel_rfl) (fun _ _ _ h => h) (by rfl) ?_ hHeld ?_
  rotate_left
  · ((intro w hSw); (try dsimp only at hSw); go_simp <;> with_reducible rfl)
  simp only [Act.put, List.setIfInBounds_toArray, List.set_cons_zero, List.set_cons_succ]
  refine take_run 5 (some 12) (v := ?_) rfl rfl (by kernel_rfl) (by kernel_rfl) (by kernel_rfl) (fun _ _ _ h => h) (by rfl) ?_ hHeld ?_
  rotate_left
  · ((intro w hSw); (try dsimp only at hSw); go_simp <;> with_reducible rfl)
  simp only [Act.put, List.setIfInBounds_toArray, List.set_cons_zero, List.set_cons_succ]
  refine wpAnyH_ready (rs := [1, 3]) (by kernel_rfl) (by simp) ?_
  refine AllReadyH.cons rfl (fun K hK => ?_) (AllReadyH.cons rfl (fun K hK => ?_) AllReadyH.nil)
  · skip
    go_simp
    refine hK.out _ _ (by exact hHeld) (fun hHeld => ?_)
    clear hK K
    refine take_one 3 (by kernel_rfl) rfl (fun K hK => ?_)
    go_simp
    refine hK.out _ _ (by exact hHeld) (fun hHeld => ?_)
    clear hK K
    refine take_run 6 (some 13) (v := ?_) rfl rfl (by kernel_rfl) (by kernel_rfl) (by kernel_rfl) (fun _ _ _ h => h) (by rfl) ?_ hHeld ?_
    rotate_left
    · ((intro w hSw); (try dsimp only at hSw); go_simp <;> with_reducible rfl)
    simp only [Act.put, List.setIfInBounds_toArray, List.set_cons_zero, List.set_cons_succ]
    refine take_run 7 (some 14) (v := ?_) rfl rfl (by kernel_rfl) (by kernel_rfl) (by kernel_rfl) (fun _ _ _ h => h) (by rfl) ?_ hHeld ?_
    rotate_left
    · ((intro w hSw); (try dsimp only at hSw); go_simp <;> with_reducible rfl)
    simp only [Act.put, List.setIfInBounds_toArray, List.set_cons_zero, List.set_cons_succ]
    refine take_one 8 (by kernel_rfl) rfl (fun K hK => ?_)
    go_simp
    refine hK.out _ _ (by exact hHeld) (fun hHeld => ?_)
    clear hK K
    refine take_one 9 (by kernel_rfl) rfl (fun K hK => ?_)
    go_simp
    ((with_reducible refine (CS.out _ (BA.out.trans ((Below.refl _ _).drew.mono BA.out.size))).mono ?_); rintro e w3 ⟨x1, us1, rfl, hul, hli, hcr, hb3⟩; obtain ⟨A1, cap1, rfl, hR1⟩ := hcr.resS; have HL1 : Hid (LL us1 ss) := ⟨hul, hli⟩; have HR1 := hide hR1; have C2 := hide (C1.out.on hb3); have V2 := V1.on hb3; have z3 : W0.heap.size ≤ w3.heap.size := (by have := hb3.size; simpa using this); have HB3 := hide hb3; have q2 := V2.one.1; have HR := hide C2.out.row; have q4 := (V2.more (.cells #[.slice A1 us1.length cap1, .slice none 0 0] 90)).one.1; clear hR1 hcr hul hli)
    try go_wp2_with fail
    refine hK.out _ _ (by exact ⟨hHeld.1.on HB3.out, hHeld.2.out.trans (.below HB3.out)⟩) (fun hHeld => ?_)
    clear hK K
    refine take_run 10 (some 17) (v := ?_) rfl rfl (by kernel_rfl) (by kernel_rfl) (by kernel_rfl) (fun _ _ _ h => h) (by rfl) ?_ hHeld ?_
    rotate_left
    · ((intro w hSw); (try dsimp only at hSw); go_simp <;> with_reducible rfl)
    simp only [Act.put, List.setIfInBounds_toArray, List.set_cons_zero, List.set_cons_succ]
    refine take_one 11 (by kernel_rfl) rfl (fun K hK => ?_)
    go_simp
    refine hK.out _ _ (by exact ⟨hHeld.1.more _, hHeld.2.out.trans (.below (below_alloc1 _ _))⟩) (fun hHeld => ?_)
    clear hK K
    refine take_one 12 (by kernel_rfl) rfl (fun K hK => ?_)
    (refine step_append_lies _ (by rfl) _ _ _ (by rfl) base 90 i0 _ 2 48 Tryz.underlying30 I0.out I1.out I2.out I3.out rfl (by omega) (.slice (some ⟨G, 0, none⟩) us.length xc) us.length (flatN us) (by rfl) (HR.out.alloc _) ⟨w3.heap.size, 0, none⟩ 1 1 (cellsN ⟨A1, cap1, us1, none, 0, []⟩) (by rfl) (by rfl) (World.news_of_block (cs := #[.slice A1 us1.length cap1, .slice none 0 0]) (t := 90) (fr := (0, 0)) (heap_alloc_new w3 _)) (by simp [cellsN, Value.oneCell']) (by omega) (by unfold maxLen; omega) (by omega) (by simp; omega) _ rfl ?_; intro g cap w5 hown2 hgrow hat hlt2; have V4 := (V2.more (.cells #[.slice A1 us1.length cap1, .slice none 0 0] 90)).kept hgrow (by intro e; have hq := HTY.out _ e; obtain ⟨_, _, h1, h2⟩ := hq; omega); have q5 := V4.one; have HAT := hide hat; have OW := hide hown2; have GW := hide hgrow; clear hown2)
    simp only [List.getElem_toArray, List.getElem_cons_zero, List.getElem_cons_succ, Act.put, List.setIfInBounds_toArray, List.set_cons_zero, List.set_cons_succ]
    refine hK.out _ _ (by exact ⟨hHeld.1.kept hgrow (by intro e; have hq := HTY.out _ e; obtain ⟨_, _, h1, h2⟩ := hq; omega), hHeld.2.out.trans (.of hgrow (fun g e => by injection e with e; subst e; rfl))⟩) (fun hHeld => ?_)
    clear hK K
    refine take_run 13 (some 20) (v := ?_) rfl rfl (by kernel_rfl) (by kernel_rfl) (by kernel_rfl) (fun _ _ _ h => h) (by rfl) ?_ hHeld ?_
    rotate_left
    · ((intro w hSw); (try dsimp only at hSw); go_simp <;> with_reducible rfl)
    simp only [Act.put, List.setIfInBounds_toArray, List.set_cons_zero, List.set_cons_succ]
    refine take_one 14 (by kernel_rfl) rfl (fun K hK => ?_)
    go_simp
    refine hK.out _ _ (by exact ⟨hHeld.1.aside (by simp) _, hHeld.2.out.far (by simp) _⟩) (fun hHeld => ?_)
    clear hK K
    refine wpAnyH_done (by kernel_rfl) ?_ _
    refine NoPanic.normal ?_
    have I9 := hHeld.1
    have T9 := hHeld.2
    have C9 := C1.out.push (w1 := w3.alloc (.cells #[.slice A1 us1.length cap1, .slice none 0 0] 90)) (v := ⟨A1, cap1, us1, none, 0, []⟩) (g := g) (cap := cap) (w2 := w5) (HB3.out.trans ((below_alloc1 w3 _).mono HB3.out.size)) ((HR1.out.on (below_alloc1 w3 _)).wide (by simp)) (.inl rfl) (fun g _ h2 => h2.elim (fun h2 => h2.1 rfl) (fun h2 => by simp [Value.ownBlock] at h2)) (CRow.start _ _ (by have := HB3.out.size; simp; omega)) OW.out GW.out
    have C10 := hide (C9.asideT (p := ⟨w.heap.size, 0, none⟩) V4 (.slice (some ⟨g, 0, none⟩) (us.length + 1) cap))
    have V9 := V4.put 0 (.slice (some ⟨g, 0, none⟩) (us.length + 1) cap)
    simp only [List.setIfInBounds_toArray, List.set_cons_zero] at V9
    have v9 := V9.one.1
    have q9 := I9.one
    clear hHeld V1 V2 V4 q1 q2 q4 q5 C9 C1 C2 V9 v0 n0
    generalize w5.setCell ⟨w.heap.size, 0, none⟩ (.slice (some ⟨g, 0, none⟩) (us.length + 1) cap) = W9 at I9 T9 C10 v9 q9 ⊢
    go_wp2
    refine bodyPost_ret (v := .agg #[.slice (some ⟨g, 0, none⟩) (us.length + 1) cap]) (by simp [results, Tryz.results48, go_sem, q9]) rfl ?_
    exact ⟨g, cap, ⟨A1, cap1, us1, none, 0, []⟩, rfl, ⟨HL1.out.1, HL1.out.2, rfl, like_refl _⟩, C10.out.asideT (p := ⟨w.heap.size + 1, 0, none⟩) I9 _, T9.out.far (by simp) _, (by rcases HAT.out with h | h; exact .inl (by simp [Value.ownBlock] at h; rw [h]); exact .inr (by rw [h]; simp; omega)), (fun y hy => by rcases hy with hy | hy | hy; exact Nat.le_trans (by simp; omega) (HR1.out.foot hy).1; exact absurd rfl hy.1; simp [Value.ownBlock] at hy)⟩
  · skip
    go_simp
    refine hK.out _ _ (by exact hHeld) (fun hHeld => ?_)
    clear hK K
    refine take_run 6 (some 13) (v := ?_) rfl rfl (by kernel_rfl) (by kernel_rfl) (by kernel_rfl) (fun _ _ _ h => h) (by rfl) ?_ hHeld ?_
    rotate_left
    · ((intro w hSw); (try dsimp only at hSw); go_simp <;> with_reducible rfl)
    simp only [Act.put, List.setIfInBounds_toArray, List.set_cons_zero, List.set_cons_succ]
    refine take_run 7 (some 14) (v := ?_) rfl rfl (by kernel_rfl) (by kernel_rfl) (by kernel_rfl) (fun _ _ _ h => h) (by rfl) ?_ hHeld ?_
    rotate_left
    · ((intro w hSw); (try dsimp only at hSw); go_simp <;> with_reducible rfl)
    simp only [Act.put, List.setIfInBounds_toArray, List.set_cons_zero, List.set_cons_succ]
    refine wpAnyH_ready (rs := [1, 8]) (by kernel_rfl) (by simp) ?_
    refine AllReadyH.cons rfl (fun K hK => ?_) (AllReadyH.cons rfl (fun K hK => ?_) AllReadyH.nil)
    · skip
      go_simp
      refine hK.out _ _ (by exact hHeld) (fun hHeld => ?_)
      clear hK K
      refine take_one 8 (by kernel_rfl) rfl (fun K hK => ?_)
      go_simp
      refine hK.out _ _ (by exact hHeld) (fun hHeld => ?_)
      clear hK K
      refine take_one 9 (by kernel_rfl) rfl (fun K hK => ?_)
      go_simp
      ((with_reducible refine (CS.out _ (BA.out.trans ((Below.refl _ _).drew.mono BA.out.size))).mono ?_); rintro e w3 ⟨x1, us1, rfl, hul, hli, hcr, hb3⟩; obtain ⟨A1, cap1, rfl, hR1⟩ := hcr.resS; have HL1 : Hid (LL us1 ss) := ⟨hul, hli⟩; have HR1 := hide hR1; have C2 := hide (C1.out.on hb3); have V2 := V1.on hb3; have z3 : W0.heap.size ≤ w3.heap.size := (by have := hb3.size; simpa using this); have HB3 := hide hb3; have q2 := V2.one.1; have HR := hide C2.out.row; have q4 := (V2.more (.cells #[.slice A1 us1.length cap1, .slice none 0 0] 90)).one.1; clear hR1 hcr hul hli)
      try go_wp2_with fail
      refine hK.out _ _ (by exact ⟨hHeld.1.on HB3.out, hHeld.2.out.trans (.below HB3.out)⟩) (fun hHeld => ?_)
      clear hK K
      refine take_run 10 (some 17) (v := ?_) rfl rfl (by kernel_rfl) (by kernel_rfl) (by kernel_rfl) (fun _ _ _ h => h) (by rfl) ?_ hHeld ?_
      rotate_left
      · ((intro w hSw); (try dsimp only at hSw); go_simp <;> with_reducible rfl)
      simp only [Act.put, List.setIfInBounds_toArray, List.set_cons_zero, List.set_cons_succ]
      refine take_one 11 (by kernel_rfl) rfl (fun K hK => ?_)
      go_simp
      refine hK.out _ _ (by exact ⟨hHeld.1.more _, hHeld.2.out.trans (.below (below_alloc1 _ _))⟩) (fun hHeld => ?_)
      clear hK K
      refine take_one 12 (by kernel_rfl) rfl (fun K hK => ?_)
      (refine step_append_lies _ (by rfl) _ _ _ (by rfl) base 90 i0 _ 2 48 Tryz.underlying30 I0.out I1.out I2.out I3.out rfl (by omega) (.slice (some ⟨G, 0, none⟩) us.length xc) us.length (flatN us) (by rfl) (HR.out.alloc _) ⟨w3.heap.size, 0, none⟩ 1 1 (cellsN ⟨A1, cap1, us1, none, 0, []⟩) (by rfl) (by rfl) (World.news_of_block (cs := #[.slice A1 us1.length cap1, .slice none 0 0]) (t := 90) (fr := (0, 0)) (heap_alloc_new w3 _)) (by simp [cellsN, Value.oneCell']) (by omega) (by unfold maxLen; omega) (by omega) (by simp; omega) _ rfl ?_; intro g cap w5 hown2 hgrow hat hlt2; have V4 := (V2.more (.cells #[.slice A1 us1.length cap1, .slice none 0 0] 90)).kept hgrow (by intro e; have hq := HTY.out _ e; obtain ⟨_, _, h1, h2⟩ := hq; omega); have q5 := V4.one; have HAT := hide hat; have OW := hide hown2; have GW := hide hgrow; clear hown2)
      simp only [List.getElem_toArray, List.getElem_cons_zero, List.getElem_cons_succ, Act.put, List.setIfInBounds_toArray, List.set_cons_zero, List.set_cons_succ]
      refine hK.out _ _ (by exact ⟨hHeld.1.kept hgrow (by intro e; have hq := HTY.out _ e; obtain ⟨_, _, h1, h2⟩ := hq; omega), hHeld.2.out.trans (.of hgrow (fun g e => by injection e with e; subst e; rfl))⟩) (fun hHeld => ?_)
      clear hK K
      refine take_run 13 (some 20) (v := ?_) rfl rfl (by kernel_rfl) (by kernel_rfl) (by kernel_rfl) (fun _ _ _ h => h) (by rfl) ?_ hHeld ?_
      rotate_left
      · ((intro w hSw); (try dsimp only at hSw); go_simp <;> with_reducible rfl)
      simp only [Act.put, List.setIfInBounds_toArray, List.set_cons_zero, List.set_cons_succ]
      refine take_one 14 (by kernel_rfl) rfl (fun K hK => ?_)
      go_simp
      refine hK.out _ _ (by exact ⟨hHeld.1.aside (by simp) _, hHeld.2.out.far (by simp) _⟩) (fun hHeld => ?_)
      clear hK K
      refine wpAnyH_done (by kernel_rfl) ?_ _
      refine NoPanic.normal ?_
      have I9 := hHeld.1
      have T9 := hHeld.2
      have C9 := C1.out.push (w1 := w3.alloc (.cells #[.slice A1 us1.length cap1, .slice none 0 0] 90)) (v := ⟨A1, cap1, us1, none, 0, []⟩) (g := g) (cap := cap) (w2 := w5) (HB3.out.trans ((below_alloc1 w3 _).mono HB3.out.size)) ((HR1.out.on (below_alloc1 w3 _)).wide (by simp)) (.inl rfl) (fun g _ h2 => h2.elim (fun h2 => h2.1 rfl) (fun h2 => by simp [Value.ownBlock] at h2)) (CRow.start _ _ (by have := HB3.out.size; simp; omega)) OW.out GW.out
      have C10 := hide (C9.asideT (p := ⟨w.heap.size, 0, none⟩) V4 (.slice (some ⟨g, 0, none⟩) (us.length + 1) cap))
      have V9 := V4.put 0 (.slice (some ⟨g, 0, none⟩) (us.length + 1) cap)
      simp only [List.setIfInBounds_toArray, List.set_cons_zero] at V9
      have v9 := V9.one.1
      have q9 := I9.one
      clear hHeld V1 V2 V4 q1 q2 q4 q5 C9 C1 C2 V9 v0 n0
      generalize w5.setCell ⟨w.heap.size, 0, none⟩ (.slice (some ⟨g, 0, none⟩) (us.length + 1) cap) = W9 at I9 T9 C10 v9 q9 ⊢
      go_wp2
      refine bodyPost_ret (v := .agg #[.slice (some ⟨g, 0, none⟩) (us.length + 1) cap]) (by simp [results, Tryz.results48, go_sem, q9]) rfl ?_
      exact ⟨g, cap, ⟨A1, cap1, us1, none, 0, []⟩, rfl, ⟨HL1.out.1, HL1.out.2, rfl, like_refl _⟩, C10.out.asideT (p := ⟨w.heap.size + 1, 0, none⟩) I9 _, T9.out.far (by simp) _, (by rcases HAT.out with h | h; exact .inl (by simp [Value.ownBlock] at h; rw [h]); exact .inr (by rw [h]; simp; omega)), (fun y hy => by rcases hy with hy | hy | hy; exact Nat.le_trans (by simp; omega) (HR1.out.foot hy).1; exact absurd rfl hy.1; simp [Value.ownBlock] at hy)⟩
    · skip
      go_simp
      refine hK.out _ _ (by exact hHeld) (fun hHeld => ?_)
      clear hK K
      refine wpAnyH_ready (rs := [1, 9]) (by kernel_rfl) (by simp) ?_
      refine AllReadyH.cons rfl (fun K hK => ?_) (AllReadyH.cons rfl (fun K hK => ?_) AllReadyH.nil)
      · skip
        go_simp
        refine hK.out _ _ (by exact hHeld) (fun hHeld => ?_)
        clear hK K
        refine take_one 9 (by kernel_rfl) rfl (fun K hK => ?_)
        go_simp
        ((with_reducible refine (CS.out _ (BA.out.trans ((Below.refl _ _).drew.mono BA.out.size))).mono ?_); rintro e w3 ⟨x1, us1, rfl, hul, hli, hcr, hb3⟩; obtain ⟨A1, cap1, rfl, hR1⟩ := hcr.resS; have HL1 : Hid (LL us1 ss) := ⟨hul, hli⟩; have HR1 := hide hR1; have C2 := hide (C1.out.on hb3); have V2 := V1.on hb3; have z3 : W0.heap.size ≤ w3.heap.size := (by have := hb3.size; simpa using this); have HB3 := hide hb3; have q2 := V2.one.1; have HR := hide C2.out.row; have q4 := (V2.more (.cells #[.slice A1 us1.length cap1, .slice none 0 0] 90)).one.1; clear hR1 hcr hul hli)
        try go_wp2_with fail
        refine hK.out _ _ (by exact ⟨hHeld.1.on HB3.out, hHeld.2.out.trans (.below HB3.out)⟩) (fun hHeld => ?_)
        clear hK K
        refine take_run 10 (some 17) (v := ?_) rfl rfl (by kernel_rfl) (by kernel_rfl) (by kernel_rfl) (fun _ _ _ h => h) (by rfl) ?_ hHeld ?_
        rotate_left
        · ((intro w hSw); (try dsimp only at hSw); go_simp <;> with_reducible rfl)
        simp only [Act.put, List.setIfInBounds_toArray, List.set_cons_zero, List.set_cons_succ]
        refine take_one 11 (by kernel_rfl) rfl (fun K hK => ?_)
        go_simp
        refine hK.out _ _ (by exact ⟨hHeld.1.more _, hHeld.2.out.trans (.below (below_alloc1 _ _))⟩) (fun hHeld => ?_)
        clear hK K
        refine take_one 12 (by kernel_rfl) rfl (fun K hK => ?_)
        (refine step_append_lies _ (by rfl) _ _ _ (by rfl) base 90 i0 _ 2 48 Tryz.underlying30 I0.out I1.out I2.out I3.out rfl (by omega) (.slice (some ⟨G, 0, none⟩) us.length xc) us.length (flatN us) (by rfl) (HR.out.alloc _) ⟨w3.heap.size, 0, none⟩ 1 1 (cellsN ⟨A1, cap1, us1, none, 0, []⟩) (by rfl) (by rfl) (World.news_of_block (cs := #[.slice A1 us1.length cap1, .slice none 0 0]) (t := 90) (fr := (0, 0)) (heap_alloc_new w3 _)) (by simp [cellsN, Value.oneCell']) (by omega) (by unfold maxLen; omega) (by omega) (by simp; omega) _ rfl ?_; intro g cap w5 hown2 hgrow hat hlt2; have V4 := (V2.more (.cells #[.slice A1 us1.length cap1, .slice none 0 0] 90)).kept hgrow (by intro e; have hq := HTY.out _ e; obtain ⟨_, _, h1, h2⟩ := hq; omega); have q5 := V4.one; have HAT := hide hat; have OW := hide hown2; have GW := hide hgrow; clear hown2)
        simp only [List.getElem_toArray, List.getElem_cons_zero, List.getElem_cons_succ, Act.put, List.setIfInBounds_toArray, List.set_cons_zero, List.set_cons_succ]
        refine hK.out _ _ (by exact ⟨hHeld.1.kept hgrow (by intro e; have hq := HTY.out _ e; obtain ⟨_, _, h1, h2⟩ := hq; omega), hHeld.2.out.trans (.of hgrow (fun g e => by injection e with e; subst e; rfl))⟩) (fun hHeld => ?_)
        clear hK K
        refine take_run 13 (some 20) (v := ?_) rfl rfl (by kernel_rfl) (by kernel_rfl) (by kernel_rfl) (fun _ _ _ h => h) (by rfl) ?_ hHeld ?_
        rotate_left
        · ((intro w hSw); (try dsimp only at hSw); go_simp <;> with_reducible rfl)
        simp only [Act.put, List.setIfInBounds_toArray, List.set_cons_zero, List.set_cons_succ]
        refine take_one 14 (by kernel_rfl) rfl (fun K hK => ?_)
        go_simp
        refine hK.out _ _ (by exact ⟨hHeld.1.aside (by simp) _, hHeld.2.out.far (by simp) _⟩) (fun hHeld => ?_)
        clear hK K
        refine wpAnyH_done (by kernel_rfl) ?_ _
        refine NoPanic.normal ?_
        have I9 := hHeld.1
        have T9 := hHeld.2
        have C9 := C1.out.push (w1 := w3.alloc (.cells #[.slice A1 us1.length cap1, .slice none 0 0] 90)) (v := ⟨A1, cap1, us1, none, 0, []⟩) (g := g) (cap := cap) (w2 := w5) (HB3.out.trans ((below_alloc1 w3 _).mono HB3.out.size)) ((HR1.out.on (below_alloc1 w3 _)).wide (by simp)) (.inl rfl) (fun g _ h2 => h2.elim (fun h2 => h2.1 rfl) (fun h2 => by simp [Value.ownBlock] at h2)) (CRow.start _ _ (by have := HB3.out.size; simp; omega)) OW.out GW.out
        have C10 := hide (C9.asideT (p := ⟨w.heap.size, 0, none⟩) V4 (.slice (some ⟨g, 0, none⟩) (us.length + 1) cap))
        have V9 := V4.put 0 (.slice (some ⟨g, 0, none⟩) (us.length + 1) cap)
        simp only [List.setIfInBounds_toArray, List.set_cons_zero] at V9
        have v9 := V9.one.1
        have q9 := I9.one
        clear hHeld V1 V2 V4 q1 q2 q4 q5 C9 C1 C2 V9 v0 n0
        generalize w5.setCell ⟨w.heap.size, 0, none⟩ (.slice (some ⟨g, 0, none⟩) (us.length + 1) cap) = W9 at I9 T9 C10 v9 q9 ⊢
        go_wp2
        refine bodyPost_ret (v := .agg #[.slice (some ⟨g, 0, none⟩) (us.length + 1) cap]) (by simp [results, Tryz.results48, go_sem, q9]) rfl ?_
        exact ⟨g, cap, ⟨A1, cap1, us1, none, 0, []⟩, rfl, ⟨HL1.out.1, HL1.out.2, rfl, like_refl _⟩, C10.out.asideT (p := ⟨w.heap.size + 1, 0, none⟩) I9 _, T9.out.far (by simp) _, (by rcases HAT.out with h | h; exact .inl (by simp [Value.ownBlock] at h; rw [h]); exact .inr (by rw [h]; simp; omega)), (fun y hy => by rcases hy with hy | hy | hy; exact Nat.le_trans (by simp; omega) (HR1.out.foot hy).1; exact absurd rfl hy.1; simp [Value.ownBlock] at hy)⟩
      · skip
        go_simp
        ((with_reducible refine (CS.out _ (BA.out.trans ((Below.refl _ _).drew.mono BA.out.size))).mono ?_); rintro e w3 ⟨x1, us1, rfl, hul, hli, hcr, hb3⟩; obtain ⟨A1, cap1, rfl, hR1⟩ := hcr.resS; have HL1 : Hid (LL us1 ss) := ⟨hul, hli⟩; have HR1 := hide hR1; have C2 := hide (C1.out.on hb3); have V2 := V1.on hb3; have z3 : W0.heap.size ≤ w3.heap.size := (by have := hb3.size; simpa using this); have HB3 := hide hb3; have q2 := V2.one.1; have HR := hide C2.out.row; have q4 := (V2.more (.cells #[.slice A1 us1.length cap1, .slice none 0 0] 90)).one.1; clear hR1 hcr hul hli)
        try go_wp2_with fail
        refine hK.out _ _ (by exact ⟨hHeld.1.on HB3.out, hHeld.2.out.trans (.below HB3.out)⟩) (fun hHeld => ?_)
        clear hK K
        refine take_run 10 (some 17) (v := ?_) rfl rfl (by kernel_rfl) (by kernel_rfl) (by kernel_rfl) (fun _ _ _ h => h) (by rfl) ?_ hHeld ?_
        rotate_left
        · ((intro w hSw); (try dsimp only at hSw); go_simp <;> with_reducible rfl)
        simp only [Act.put, List.setIfInBounds_toArray, List.set_cons_zero, List.set_cons_succ]
        refine wpAnyH_ready (rs := [1, 11]) (by kernel_rfl) (by simp) ?_
        refine AllReadyH.cons rfl (fun K hK => ?_) (AllReadyH.cons rfl (fun K hK => ?_) AllReadyH.nil)
        · skip
          go_simp
          refine hK.out _ _ (by exact hHeld) (fun hHeld => ?_)
          clear hK K
          refine take_one 11 (by kernel_rfl) rfl (fun K hK => ?_)
          go_simp
          refine hK.out _ _ (by exact ⟨hHeld.1.more _, hHeld.2.out.trans (.below (below_alloc1 _ _))⟩) (fun hHeld => ?_)
          clear hK K
          refine take_one 12 (by kernel_rfl) rfl (fun K hK => ?_)
          (refine step_append_lies _ (by rfl) _ _ _ (by rfl) base 90 i0 _ 2 48 Tryz.underlying30 I0.out I1.out I2.out I3.out rfl (by omega) (.slice (some ⟨G, 0, none⟩) us.length xc) us.length (flatN us) (by rfl) (HR.out.alloc _) ⟨w3.heap.size, 0, none⟩ 1 1 (cellsN ⟨A1, cap1, us1, none, 0, []⟩) (by rfl) (by rfl) (World.news_of_block (cs := #[.slice A1 us1.length cap1, .slice none 0 0]) (t := 90) (fr := (0, 0)) (heap_alloc_new w3 _)) (by simp [cellsN, Value.oneCell']) (by omega) (by unfold maxLen; omega) (by omega) (by simp; omega) _ rfl ?_; intro g cap w5 hown2 hgrow hat hlt2; have V4 := (V2.more (.cells #[.slice A1 us1.length cap1, .slice none 0 0] 90)).kept hgrow (by intro e; have hq := HTY.out _ e; obtain ⟨_, _, h1, h2⟩ := hq; omega); have q5 := V4.one; have HAT := hide hat; have OW := hide hown2; have GW := hide hgrow; clear hown2)
          simp only [List.getElem_toArray, List.getElem_cons_zero, List.getElem_cons_succ, Act.put, List.setIfInBounds_toArray, List.set_cons_zero, List.set_cons_succ]
          refine hK.out _ _ (by exact ⟨hHeld.1.kept hgrow (by intro e; have hq := HTY.out _ e; obtain ⟨_, _, h1, h2⟩ := hq; omega), hHeld.2.out.trans (.of hgrow (fun g e => by injection e with e; subst e; rfl))⟩) (fun hHeld => ?_)
          clear hK K
          refine take_run 13 (some 20) (v := ?_) rfl rfl (by kernel_rfl) (by kernel_rfl) (by kernel_rfl) (fun _ _ _ h => h) (by rfl) ?_ hHeld ?_
          rotate_left
          · ((intro w hSw); (try dsimp only at hSw); go_simp <;> with_reducible rfl)
          simp only [Act.put, List.setIfInBounds_toArray, List.set_cons_zero, List.set_cons_succ]
          refine take_one 14 (by kernel_rfl) rfl (fun K hK => ?_)
          go_simp
          refine hK.out _ _ (by exact ⟨hHeld.1.aside (by simp) _, hHeld.2.out.far (by simp) _⟩) (fun hHeld => ?_)
          clear hK K
          refine wpAnyH_done (by kernel_rfl) ?_ _
          refine NoPanic.normal ?_
          have I9 := hHeld.1
          have T9 := hHeld.2
          have C9 := C1.out.push (w1 := w3.alloc (.cells #[.slice A1 us1.length cap1, .slice none 0 0] 90)) (v := ⟨A1, cap1, us1, none, 0, []⟩) (g := g) (cap := cap) (w2 := w5) (HB3.out.trans ((below_alloc1 w3 _).mono HB3.out.size)) ((HR1.out.on (below_alloc1 w3 _)).wide (by simp)) (.inl rfl) (fun g _ h2 => h2.elim (fun h2 => h2.1 rfl) (fun h2 => by simp [Value.ownBlock] at h2)) (CRow.start _ _ (by have := HB3.out.size; simp; omega)) OW.out GW.out
          have C10 := hide (C9.asideT (p := ⟨w.heap.size, 0, none⟩) V4 (.slice (some ⟨g, 0, none⟩) (us.length + 1) cap))
          have V9 := V4.put 0 (.slice (some ⟨g, 0, none⟩) (us.length + 1) cap)
          simp only [List.setIfInBounds_toArray, List.set_cons_zero] at V9
          have v9 := V9.one.1
          have q9 := I9.one
          clear hHeld V1 V2 V4 q1 q2 q4 q5 C9 C1 C2 V9 v0 n0
          generalize w5.setCell ⟨w.heap.size, 0, none⟩ (.slice (some ⟨g, 0, none⟩) (us.length + 1) cap) = W9 at I9 T9 C10 v9 q9 ⊢
          go_wp2
          refine bodyPost_ret (v := .agg #[.slice (some ⟨g, 0, none⟩) (us.length + 1) cap]) (by simp [results, Tryz.results48, go_sem, q9]) rfl ?_
          exact ⟨g, cap, ⟨A1, cap1, us1, none, 0, []⟩, rfl, ⟨HL1.out.1, HL1.out.2, rfl, like_refl _⟩, C10.out.asideT (p := ⟨w.heap.size + 1, 0, none⟩) I9 _, T9.out.far (by simp) _, (by rcases HAT.out with h | h; exact .inl (by simp [Value.ownBlock] at h; rw [h]); exact .inr (by rw [h]; simp; omega)), (fun y hy => by rcases hy with hy | hy | hy; exact Nat.le_trans (by simp; omega) (HR1.out.foot hy).1; exact absurd rfl hy.1; simp [Value.ownBlock] at hy)⟩
        · skip
          go_simp
          refine hK.out _ _ (by exact ⟨hHeld.1.more _, hHeld.2.out.trans (.below (below_alloc1 _ _))⟩) (fun hHeld => ?_)
          clear hK K
          refine take_one 1 (by kernel_rfl) rfl (fun K hK => ?_)
          go_simp
          refine hK.out _ _ (by exact hHeld) (fun hHeld => ?_)
          clear hK K
          refine take_one 12 (by kernel_rfl) rfl (fun K hK => ?_)
          (refine step_append_lies _ (by rfl) _ _ _ (by rfl) base 90 i0 _ 2 48 Tryz.underlying30 I0.out I1.out I2.out I3.out rfl (by omega) (.slice (some ⟨G, 0, none⟩) us.length xc) us.length (flatN us) (by rfl) (HR.out.alloc _) ⟨w3.heap.size, 0, none⟩ 1 1 (cellsN ⟨A1, cap1, us1, none, 0, []⟩) (by rfl) (by rfl) (World.news_of_block (cs := #[.slice A1 us1.length cap1, .slice none 0 0]) (t := 90) (fr := (0, 0)) (heap_alloc_new w3 _)) (by simp [cellsN, Value.oneCell']) (by omega) (by unfold maxLen; omega) (by omega) (by simp; omega) _ rfl ?_; intro g cap w5 hown2 hgrow hat hlt2; have V4 := (V2.more (.cells #[.slice A1 us1.length cap1, .slice none 0 0] 90)).kept hgrow (by intro e; have hq := HTY.out _ e; obtain ⟨_, _, h1, h2⟩ := hq; omega); have q5 := V4.one; have HAT := hide hat; have OW := hide hown2; have GW := hide hgrow; clear hown2)
          simp only [List.getElem_toArray, List.getElem_cons_zero, List.getElem_cons_succ, Act.put, List.setIfInBounds_toArray, List.set_cons_zero, List.set_cons_succ]
          refine hK.out _ _ (by exact ⟨hHeld.1.kept hgrow (by intro e; have hq := HTY.out _ e; obtain ⟨_, _, h1, h2⟩ := hq; omega), hHeld.2.out.trans (.of hgrow (fun g e => by injection e with e; subst e; rfl))⟩) (fun hHeld => ?_)
          clear hK K
          refine take_run 13 (some 20) (v := ?_) rfl rfl (by kernel_rfl) (by kernel_rfl) (by kernel_rfl) (fun _ _ _ h => h) (by rfl) ?_ hHeld ?_
          rotate_left
          · ((intro w hSw); (try dsimp only at hSw); go_simp <;> with_reducible rfl)
          simp only [Act.put, List.setIfInBounds_toArray, List.set_cons_zero, List.set_cons_succ]
          refine take_one 14 (by kernel_rfl) rfl (fun K hK => ?_)
          go_simp
          refine hK.out _ _ (by exact ⟨hHeld.1.aside (by simp) _, hHeld.2.out.far (by simp) _⟩) (fun hHeld => ?_)
          clear hK K
          refine wpAnyH_done (by kernel_rfl) ?_ _
          refine NoPanic.normal ?_
          have I9 := hHeld.1
          have T9 := hHeld.2
          have C9 := C1.out.push (w1 := w3.alloc (.cells #[.slice A1 us1.length cap1, .slice none 0 0] 90)) (v := ⟨A1, cap1, us1, none, 0, []⟩) (g := g) (cap := cap) (w2 := w5) (HB3.out.trans ((below_alloc1 w3 _).mono HB3.out.size)) ((HR1.out.on (below_alloc1 w3 _)).wide (by simp)) (.inl rfl) (fun g _ h2 => h2.elim (fun h2 => h2.1 rfl) (fun h2 => by simp [Value.ownBlock] at h2)) (CRow.start _ _ (by have := HB3.out.size; simp; omega)) OW.out GW.out
          have C10 := hide (C9.asideT (p := ⟨w.heap.size, 0, none⟩) V4 (.slice (some ⟨g, 0, none⟩) (us.length + 1) cap))
          have V9 := V4.put 0 (.slice (some ⟨g, 0, none⟩) (us.length + 1) cap)
          simp only [List.setIfInBounds_toArray, List.set_cons_zero] at V9
          have v9 := V9.one.1
          have q9 := I9.one
          clear hHeld V1 V2 V4 q1 q2 q4 q5 C9 C1 C2 V9 v0 n0
          generalize w5.setCell ⟨w.heap.size, 0, none⟩ (.slice (some ⟨g, 0, none⟩) (us.length + 1) cap) = W9 at I9 T9 C10 v9 q9 ⊢
          go_wp2
          refine bodyPost_ret (v := .agg #[.slice (some ⟨g, 0, none⟩) (us.length + 1) cap]) (by simp [results, Tryz.results48, go_sem, q9]) rfl ?_
          exact ⟨g, cap, ⟨A1, cap1, us1, none, 0, []⟩, rfl, ⟨HL1.out.1, HL1.out.2, rfl, like_refl _⟩, C10.out.asideT (p := ⟨w.heap.size + 1, 0, none⟩) I9 _, T9.out.far (by simp) _, (by rcases HAT.out with h | h; exact .inl (by simp [Value.ownBlock] at h; rw [h]); exact .inr (by rw [h]; simp; omega)), (fun y hy => by rcases hy with hy | hy | hy; exact Nat.le_trans (by simp; omega) (HR1.out.foot hy).1; exact absurd rfl hy.1; simp [Value.ownBlock] at hy)⟩
end Go.Proofs.YtnaggcdhimcilaaGreat
/- Contracts of what the model asks of a place's logs and causes. Condition: sizes that memory holds. -/
namespace Go.Proofs.YtnaggcdhimcilaaGreat
open Go.RowKit Go.Joins
attribute [local go_sem ↓] Go.wp_at_zero Go.wp_at_succ

end Go.Proofs.YtnaggcdhimcilaaGreat
/- Contract of what the model asks of a place's logs. Condition: sizes that memory holds. -/
namespace Go.Proofs.YtnaggcdhimcilaaGreat
open Go.RowKit Go.Joins
attribute [local go_sem ↓] Go.wp_at_zero Go.wp_at_succ

theorem logB_all {us : List V} {p : Int} (h : ∀ i, i < us.length → entryB us p i = true) : logB us p = decide (us.length ≤ 60) := by
  by_cases h0 : us.length ≤ 60
  · rw [logB_ok h0 h, decide_eq_true h0]
  · rw [logB_long h0, decide_eq_false h0]
theorem hasB_take_no {us : List V} {k : Nat} {t u : Int} (h : ∀ (j : Nat) y, j < k → us[j]? = some y → eqB y.t y.u t u = false) : hasB (us.take k) t u = false := by
  unfold hasB
  rw [List.any_eq_false]
  intro v hv
  obtain ⟨j, hj⟩ := List.getElem?_of_mem hv
  rw [List.getElem?_take] at hj
  split at hj
  · rename_i hjk
    have := h j v hjk hj
    unfold eqB at this
    rw [this]
    decide
  · cases hj
theorem hasB_take_yes {us : List V} {j k : Nat} {y : V} {t u : Int} (hj : j < k) (hy : us[j]? = some y) (h : eqB y.t y.u t u = true) : hasB (us.take k) t u = true := by
  unfold hasB
  rw [List.any_eq_true]
  refine ⟨y, List.mem_of_getElem? (i := j) ?_, h⟩
  rw [List.getElem?_take, if_pos hj, hy]
set_option maxRecDepth 100000 in
set_option maxHeartbeats 4000000 in
theorem l4Log_any (a : Option Addr) (c : Nat) (us : List V) (p : Int) (w : World) (hn : us.length ≤ 1048576) (hm : Small us) (hv : Vg w w.heap.size a us) :
    Calls Tryz.prog 56 #[.slice a us.length c, .int .i64 p] w fun e w' => e = .returned (.bool (logB us p)) ∧ Below w.heap.size w w' := by
  have HM := hide hm
  have HF : Hid (∀ i, i < us.length → entryB us p i = false → logB us p = false) := fun i hi h => logB_bad hi h
  have HO : Hid ((∀ i, i < us.length → entryB us p i = true) → logB us p = decide (us.length ≤ 60)) := fun h => logB_all h
  have HTN : Hid (∀ (k : Nat) (t u : Int), (∀ (j : Nat) y, j < k → us[j]? = some y → eqB y.t y.u t u = false) → hasB (us.take k) t u = false) := fun k t u h => hasB_take_no h
  have HTY : Hid (∀ (j k : Nat) (y : V) (t u : Int), j < k → us[j]? = some y → eqB y.t y.u t u = true → hasB (us.take k) t u = true) := fun j k y t u hj hy h => hasB_take_yes hj hy h
  clear hm
  generalize hnn : us.length = n at *
  have HN := hide hnn
  clear hnn
  go_enter Tryz.func56, Tryz.ntmps56
  go_wp2
  go_loopw [5] (fun i wo => ∃ k : Nat, k ≤ n ∧ i = .int .i64 (k : Int) ∧ Hid (∀ i, i < k → entryB us p i = true) ∧ Below w.heap.size w wo) (fun i _ => n - (intOf i).toNat)
  case atStart => exact ⟨0, Nat.zero_le _, rfl, fun i hi => absurd hi (by omega), Below.refl _ _⟩
  case round =>
    rename World => wo
    obtain ⟨k, hk, rfl, hall, hL⟩ := hrel
    by_cases hlt : k < n
    · rcases hv with h0 | ⟨b, off, rfl, hb, hx⟩
      · have := HN.out; subst h0; simp at this; omega
      · have hkl : k < us.length := by have := HN.out; omega
        have HXX := hide hx
        obtain ⟨hS, hT⟩ := hx k _ (List.getElem?_eq_getElem hkl)
        have HY := hide (List.getElem?_eq_getElem hkl)
        generalize us[k] = v at hS hT HY
        have HB := hide (HM.out v (List.mem_of_getElem? HY.out))
        have HSX := hide (show ∀ W, Below w.heap.size w W → Six W b (off + k * 6) v from fun W hW => hS.keep hb fun _ hp => hW.cell hp)
        have Q1 := HSX.out wo hL
        have HT := hide (show ∀ W, Below w.heap.size w W → Tg W W.heap.size v.a v.ts from fun W hW => (hT.on hW).up hW.size)
        have HE1 : Hid (verV v = false → entryB us p k = false) := fun hv => by rw [entryB_at HY.out, hv]; rfl
        have HE2 : Hid (¬ v.u = p → entryB us p k = false) := fun hv => by rw [entryB_at HY.out, decide_eq_false hv, Bool.and_false]; rfl
        have HE3 : Hid (verV v = true → v.u = p → entryB us p k = !hasB (us.take k) v.t v.u) := fun hv hu => by rw [entryB_at HY.out, hv, decide_eq_true hu]; rfl
        have HFF := hide (HF.out k hlt)
        obtain ⟨vk, vt, vu, va, vc, vts, vs', vg⟩ := v
        simp only at Q1 HT HB HE1 HE2 HE3 HSX
        have HVE : Hid (verV ⟨vk, vt, vu, va, vc, vts, vs', vg⟩ = verB vk vt vu vts vs' vg) := rfl
        have CV : Hid (∀ W, Below w.heap.size w W → Calls Tryz.prog 93 #[.agg (verC vk vt vu va vts.length vc vs' vg)] W fun e w' => e = .returned (.bool (verB vk vt vu vts vs' vg)) ∧ Below W.heap.size W w') := fun W hW => l2Ok_any vk vt vu va vc vts vs' vg W HB.out.1 HB.out.2 (HT.out W hW)
        have i1 : (0 : Int) ≤ (k : Int) := by omega
        have i2 : (k : Int) < (n : Int) := by omega
        clear hS hT hx
        cases hq : verB vk vt vu vts vs' vg
        · have HX := hide (HFF.out (HE1.out (HVE.out.trans hq)))
          rw [hq] at CV
          clear hq HE1 HE2 HE3 HFF
          go_wp2_with fail
          with_reducible refine (CV.out _ hL).mono ?_
          rintro e w3 ⟨rfl, hb3⟩
          go_wp2
          go_ret
          exact ⟨ret_bool HX.out.symm, hL.trans (hb3.mono hL.size)⟩
        rw [hq] at CV
        by_cases hpu : vu = p
        rotate_left
        · have HX := hide (HFF.out (HE2.out hpu))
          have hne : (vu != p) = true := by simpa using hpu
          clear hq HE1 HE2 HE3 HFF hpu
          have HQ2 := hide HSX.out
          go_wp2_with fail
          with_reducible refine (CV.out _ hL).mono ?_
          rintro e w3 ⟨rfl, hb3⟩
          have hL3 := hL.trans (hb3.mono hL.size)
          have Q3 := HQ2.out w3 hL3
          go_wp2
          go_ret
          exact ⟨ret_bool HX.out.symm, hL3⟩
        have HE := hide (HE3.out (HVE.out.trans hq) hpu)
        have hne : (vu != p) = false := by simpa using hpu
        have HNO := hide (HTN.out k vt vu)
        have HYES : Hid (∀ (j : Nat) y, j < k → us[j]? = some y → eqB y.t y.u vt vu = true → hasB (us.take k) vt vu = true) := fun j y hj hy h => HTY.out j k y vt vu hj hy h
        clear hq HE1 HE2 HE3 hpu
        go_wp2_with fail
        with_reducible refine (CV.out _ hL).mono ?_
        rintro e w3 ⟨rfl, hb3⟩
        have hL3 := hL.trans (hb3.mono hL.size)
        have Q3 := HSX.out w3 hL3
        clear Q1 CV
        go_wp2
        clear Q3
        go_loopw [6] (fun i wi => ∃ q : Nat, q ≤ k ∧ i = .int .i64 (q : Int) ∧ Hid (∀ (j : Nat) y, j < q → us[j]? = some y → eqB y.t y.u vt vu = false) ∧ Below w.heap.size w wi) (fun i _ => k - (intOf i).toNat)
        case atStart => exact ⟨0, Nat.zero_le _, rfl, fun j y hj => absurd hj (by omega), hL3⟩
        case round =>
          obtain ⟨q, hq, rfl, hno, hLi⟩ := hrel
          by_cases hltq : q < k
          · have hql : q < us.length := by have := HN.out; omega
            obtain ⟨hS, -⟩ := HXX.out q _ (List.getElem?_eq_getElem hql)
            have HZ := hide (List.getElem?_eq_getElem hql)
            generalize us[q] = y at hS HZ
            have HSY := hide (show ∀ W, Below w.heap.size w W → Six W b (off + q * 6) y from fun W hW => hS.keep hb fun _ hp => hW.cell hp)
            have hte := tagEq_at y.t y.u vt vu
            obtain ⟨yk, yt, yu, ya, yc, yts, ys, yg⟩ := y
            simp only at hte HSY
            have j1 : (0 : Int) ≤ (q : Int) := by omega
            have j2 : (q : Int) < (k : Int) := by omega
            have j3 : (q : Int) < (n : Int) := by omega
            clear hS
            cases hpy : eqB yt yu vt vu
            · rw [hpy] at hte
              have HN1 : Hid (∀ (j : Nat) y, j < q + 1 → us[j]? = some y → eqB y.t y.u vt vu = false) := fun j x hj hx => by
                by_cases e : j = q
                · subst e
                  have h1 := HZ.out
                  rw [h1] at hx
                  injection hx with hx
                  subst hx
                  exact hpy
                · exact hno.out j x (by omega) hx
              clear hpy
              go_wp2_with fail
              refine wp_region_noPanic ?_
              refine wp_region_held_drew (S := (fun w' => Six w' b (off + k * 6) ⟨vk, vt, vu, va, vc, vts, vs', vg⟩ ∧ Six w' b (off + q * 6) ⟨yk, yt, yu, ya, yc, yts, ys, yg⟩ ∧ Below w.heap.size w w')) (by kernel_rfl) (by exact ⟨HSX.out _ hLi.drew, HSY.out _ hLi.drew, hLi.drew⟩) (fun hHeld => ?_)
              refine take_run 0 (some 34) (v := ?_) rfl rfl (by kernel_rfl) (by kernel_rfl) (by kernel_rfl) (fun _ _ _ h => h) (by rfl) ?_ hHeld ?_
              rotate_left
              · ((intro w hSw); (try dsimp only at hSw); go_simp <;> with_reducible rfl)
              simp only [Act.put, List.setIfInBounds_toArray, List.set_cons_zero, List.set_cons_succ]
              refine take_run 1 (some 35) (v := ?_) rfl rfl (by kernel_rfl) (by kernel_rfl) (by kernel_rfl) (fun _ _ _ h => h) (by rfl) ?_ hHeld ?_
              rotate_left
              · ((intro w hSw); (try dsimp only at hSw); go_simp <;> with_reducible rfl)
              simp only [Act.put, List.setIfInBounds_toArray, List.set_cons_zero, List.set_cons_succ]
              refine take_run 2 (some 36) (v := ?_) rfl rfl (by kernel_rfl) (by kernel_rfl) (by kernel_rfl) (fun _ _ _ h => h) (by rfl) ?_ hHeld ?_
              rotate_left
              · ((intro w hSw); (try dsimp only at hSw); go_simp <;> with_reducible rfl)
              simp only [Act.put, List.setIfInBounds_toArray, List.set_cons_zero, List.set_cons_succ]
              refine take_run 3 (some 37) (v := ?_) rfl rfl (by kernel_rfl) (by kernel_rfl) (by kernel_rfl) (fun _ _ _ h => h) (by rfl) ?_ hHeld ?_
              rotate_left
              · ((intro w hSw); (try dsimp only at hSw); go_simp <;> with_reducible rfl)
              simp only [Act.put, List.setIfInBounds_toArray, List.set_cons_zero, List.set_cons_succ]
              refine take_run 4 (some 38) (v := ?_) rfl rfl (by kernel_rfl) (by kernel_rfl) (by kernel_rfl) (fun _ _ _ h => h) (by rfl) ?_ hHeld ?_
              rotate_left
              · ((intro w hSw); (try dsimp only at hSw); go_simp <;> with_reducible rfl)
              simp only [Act.put, List.setIfInBounds_toArray, List.set_cons_zero, List.set_cons_succ]
              refine take_run 5 (some 39) (v := ?_) rfl rfl (by kernel_rfl) (by kernel_rfl) (by kernel_rfl) (fun _ _ _ h => h) (by rfl) ?_ hHeld ?_
              rotate_left
              · ((intro w hSw); (try dsimp only at hSw); go_simp <;> with_reducible rfl)
              simp only [Act.put, List.setIfInBounds_toArray, List.set_cons_zero, List.set_cons_succ]
              refine take_run 6 (some 40) (v := ?_) rfl rfl (by kernel_rfl) (by kernel_rfl) (by kernel_rfl) (fun _ _ _ h => h) (by rfl) ?_ hHeld ?_
              rotate_left
              · ((intro w hSw); (try dsimp only at hSw); go_simp <;> with_reducible rfl)
              simp only [Act.put, List.setIfInBounds_toArray, List.set_cons_zero, List.set_cons_succ]
              refine take_run 7 (some 41) (v := ?_) rfl rfl (by kernel_rfl) (by kernel_rfl) (by kernel_rfl) (fun _ _ _ h => h) (by rfl) ?_ hHeld ?_
              rotate_left
              · ((intro w hSw); (try dsimp only at hSw); go_simp <;> with_reducible rfl)
              simp only [Act.put, List.setIfInBounds_toArray, List.set_cons_zero, List.set_cons_succ]
              refine take_run 8 (some 42) (v := ?_) rfl rfl (by kernel_rfl) (by kernel_rfl) (by kernel_rfl) (fun _ _ _ h => h) (by rfl) ?_ hHeld ?_
              rotate_left
              · ((intro w hSw); (try dsimp only at hSw); go_simp <;> with_reducible rfl)
              simp only [Act.put, List.setIfInBounds_toArray, List.set_cons_zero, List.set_cons_succ]
              refine take_run 9 (some 43) (v := ?_) rfl rfl (by kernel_rfl) (by kernel_rfl) (by kernel_rfl) (fun _ _ _ h => h) (by rfl) ?_ hHeld ?_
              rotate_left
              · ((intro w hSw); (try dsimp only at hSw); go_simp <;> with_reducible rfl)
              simp only [Act.put, List.setIfInBounds_toArray, List.set_cons_zero, List.set_cons_succ]
              refine take_run 10 (some 44) (v := ?_) rfl rfl (by kernel_rfl) (by kernel_rfl) (by kernel_rfl) (fun _ _ _ h => h) (by rfl) ?_ hHeld ?_
              rotate_left
              · ((intro w hSw); (try dsimp only at hSw); go_simp <;> with_reducible rfl)
              simp only [Act.put, List.setIfInBounds_toArray, List.set_cons_zero, List.set_cons_succ]
              refine wpAnyH_done (by kernel_rfl) ?_ _
              refine NoPanic.normal ?_
              have hLj := hHeld.2.2
              clear hHeld
              go_wp2
              exact ⟨⟨q + 1, by omega, by go_num, HN1, hLj⟩, by simp [intOf]; omega⟩
            · have HX := hide (HFF.out (HE.out.trans (by rw [HYES.out q _ hltq HZ.out hpy]; rfl)))
              rw [hpy] at hte
              clear hpy
              go_wp2_with fail
              refine wp_region_noPanic ?_
              refine wp_region_held_drew (S := (fun w' => Six w' b (off + k * 6) ⟨vk, vt, vu, va, vc, vts, vs', vg⟩ ∧ Six w' b (off + q * 6) ⟨yk, yt, yu, ya, yc, yts, ys, yg⟩ ∧ Below w.heap.size w w')) (by kernel_rfl) (by exact ⟨HSX.out _ hLi.drew, HSY.out _ hLi.drew, hLi.drew⟩) (fun hHeld => ?_)
              refine take_run 0 (some 34) (v := ?_) rfl rfl (by kernel_rfl) (by kernel_rfl) (by kernel_rfl) (fun _ _ _ h => h) (by rfl) ?_ hHeld ?_
              rotate_left
              · ((intro w hSw); (try dsimp only at hSw); go_simp <;> with_reducible rfl)
              simp only [Act.put, List.setIfInBounds_toArray, List.set_cons_zero, List.set_cons_succ]
              refine take_run 1 (some 35) (v := ?_) rfl rfl (by kernel_rfl) (by kernel_rfl) (by kernel_rfl) (fun _ _ _ h => h) (by rfl) ?_ hHeld ?_
              rotate_left
              · ((intro w hSw); (try dsimp only at hSw); go_simp <;> with_reducible rfl)
              simp only [Act.put, List.setIfInBounds_toArray, List.set_cons_zero, List.set_cons_succ]
              refine take_run 2 (some 36) (v := ?_) rfl rfl (by kernel_rfl) (by kernel_rfl) (by kernel_rfl) (fun _ _ _ h => h) (by rfl) ?_ hHeld ?_
              rotate_left
              · ((intro w hSw); (try dsimp only at hSw); go_simp <;> with_reducible rfl)
              simp only [Act.put, List.setIfInBounds_toArray, List.set_cons_zero, List.set_cons_succ]
              refine take_run 3 (some 37) (v := ?_) rfl rfl (by kernel_rfl) (by kernel_rfl) (by kernel_rfl) (fun _ _ _ h => h) (by rfl) ?_ hHeld ?_
              rotate_left
              · ((intro w hSw); (try dsimp only at hSw); go_simp <;> with_reducible rfl)
              simp only [Act.put, List.setIfInBounds_toArray, List.set_cons_zero, List.set_cons_succ]
              refine take_run 4 (some 38) (v := ?_) rfl rfl (by kernel_rfl) (by kernel_rfl) (by kernel_rfl) (fun _ _ _ h => h) (by rfl) ?_ hHeld ?_
              rotate_left
              · ((intro w hSw); (try dsimp only at hSw); go_simp <;> with_reducible rfl)
              simp only [Act.put, List.setIfInBounds_toArray, List.set_cons_zero, List.set_cons_succ]
              refine take_run 5 (some 39) (v := ?_) rfl rfl (by kernel_rfl) (by kernel_rfl) (by kernel_rfl) (fun _ _ _ h => h) (by rfl) ?_ hHeld ?_
              rotate_left
              · ((intro w hSw); (try dsimp only at hSw); go_simp <;> with_reducible rfl)
              simp only [Act.put, List.setIfInBounds_toArray, List.set_cons_zero, List.set_cons_succ]
              refine take_run 6 (some 40) (v := ?_) rfl rfl (by kernel_rfl) (by kernel_rfl) (by kernel_rfl) (fun _ _ _ h => h) (by rfl) ?_ hHeld ?_
              rotate_left
              · ((intro w hSw); (try dsimp only at hSw); go_simp <;> with_reducible rfl)
              simp only [Act.put, List.setIfInBounds_toArray, List.set_cons_zero, List.set_cons_succ]
              refine take_run 7 (some 41) (v := ?_) rfl rfl (by kernel_rfl) (by kernel_rfl) (by kernel_rfl) (fun _ _ _ h => h) (by rfl) ?_ hHeld ?_
              rotate_left
              · ((intro w hSw); (try dsimp only at hSw); go_simp <;> with_reducible rfl)
              simp only [Act.put, List.setIfInBounds_toArray, List.set_cons_zero, List.set_cons_succ]
              refine take_run 8 (some 42) (v := ?_) rfl rfl (by kernel_rfl) (by kernel_rfl) (by kernel_rfl) (fun _ _ _ h => h) (by rfl) ?_ hHeld ?_
              rotate_left
              · ((intro w hSw); (try dsimp only at hSw); go_simp <;> with_reducible rfl)
              simp only [Act.put, List.setIfInBounds_toArray, List.set_cons_zero, List.set_cons_succ]
              refine take_run 9 (some 43) (v := ?_) rfl rfl (by kernel_rfl) (by kernel_rfl) (by kernel_rfl) (fun _ _ _ h => h) (by rfl) ?_ hHeld ?_
              rotate_left
              · ((intro w hSw); (try dsimp only at hSw); go_simp <;> with_reducible rfl)
              simp only [Act.put, List.setIfInBounds_toArray, List.set_cons_zero, List.set_cons_succ]
              refine take_run 10 (some 44) (v := ?_) rfl rfl (by kernel_rfl) (by kernel_rfl) (by kernel_rfl) (fun _ _ _ h => h) (by rfl) ?_ hHeld ?_
              rotate_left
              · ((intro w hSw); (try dsimp only at hSw); go_simp <;> with_reducible rfl)
              simp only [Act.put, List.setIfInBounds_toArray, List.set_cons_zero, List.set_cons_succ]
              refine wpAnyH_done (by kernel_rfl) ?_ _
              refine NoPanic.normal ?_
              have hLj := hHeld.2.2
              clear hHeld
              go_wp2
              go_ret
              exact ⟨ret_bool HX.out.symm, hLj⟩
          · have hqk : q = k := by omega
            subst hqk
            clear hltq
            have HA : Hid (∀ i, i < q + 1 → entryB us p i = true) := fun i hi => by
              by_cases e : i = q
              · rw [e, HE.out, HNO.out (fun j y hj hy => hno.out j y hj hy)]; rfl
              · exact hall.out i (by omega)
            go_wp2
            exact ⟨⟨q + 1, by omega, by go_num, HA, hLi⟩, by simp [intOf]; omega⟩
    · have hkn : k = n := by omega
      subst hkn
      clear hlt
      have HX := hide (HO.out (fun i hi => hall.out i hi))
      by_cases h60 : k ≤ 60
      · have HXX := hide (HX.out.trans (decide_eq_true h60))
        have h6 : (k : Int) ≤ 60 := by omega
        go_wp2
        go_ret
        exact ⟨ret_bool HXX.out.symm, hL⟩
      · have HXX := hide (HX.out.trans (decide_eq_false h60))
        have h6 : ¬ (k : Int) ≤ 60 := by omega
        go_wp2
        go_ret
        exact ⟨ret_bool HXX.out.symm, hL⟩
end Go.Proofs.YtnaggcdhimcilaaGreat
