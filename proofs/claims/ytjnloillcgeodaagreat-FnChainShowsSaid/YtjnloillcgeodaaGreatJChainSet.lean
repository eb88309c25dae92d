/- Contract of the model's ChainJoin. Condition: sizes that memory holds. -/
import Derived.Test.YtjnloillcgeodaaGreatJChainJoin2
namespace Go.Proofs.YtjnloillcgeodaaGreat
open Go.RowKit Go.Joins
attribute [local go_sem ↓] Go.wp_at_zero Go.wp_at_succ

set_option maxRecDepth 100000 in
set_option maxHeartbeats 4000000 in
theorem l3JoinT_any (base p : Nat) (xa : Option Addr) (xc : Nat) (us : List Nd) (nd : Nd) (w : World) (hG : GRow base w (.slice xa us.length xc) us) (hp : us.length = p + 1) (hp4 : p + 1 ≤ 4) (hnd : us[p]? = some nd) (hm : nd.ss.length ≤ 1048576 ∧ Small nd.ss) :
    Calls Tryz.prog 48 #[.agg #[.slice xa us.length xc]] w fun e w' => ∃ (g cap : Nat) (v' : Nd), e = .returned (.agg #[.slice (some ⟨g, 0, none⟩) (us.length + 1) cap]) ∧ Nd.like v' (bare nd) ∧ GRow base w' (.slice (some ⟨g, 0, none⟩) (us.length + 1) cap) (us ++ [v']) ∧ Turn (fun g => xa = some ⟨g, 0, none⟩) w w' := by
  obtain ⟨i0, hi0, hz0, hz1, hz2⟩ := info_parts node_info
  have I0 := hide hi0
  have I1 := hide hz0
  have I2 := hide hz1
  have I3 := hide hz2
  clear hi0 hz0 hz1 hz2
  obtain ⟨_, hR⟩ := hG.res
  rcases hR with h0 | ⟨G, cur, rfl, hR⟩
  · rw [h0] at hp; simp at hp
  have S0 := (Inv.start w).box 25 #[.slice (some ⟨G, 0, none⟩) us.length xc]
  have V00 := S0.nth 0 rfl
  have V0 := V00.on (below_alloc1 _ (.cells #[.slice none 0 0] 25))
  have B0 := Blk.made (w.alloc (.cells #[.slice (some ⟨G, 0, none⟩) us.length xc] 25)) 25 #[.slice none 0 0]
  have BA := hide ((below_alloc1 w (.cells #[.slice (some ⟨G, 0, none⟩) us.length xc] 25)).trans ((below_alloc1 (w.alloc (.cells #[.slice (some ⟨G, 0, none⟩) us.length xc] 25)) (.cells #[.slice none 0 0] 25)).mono (by simp)))
  simp only [World.size_alloc] at B0
  have HC := hide hR.cg
  have HCR := HC.out.on BA.out
  have n0 : ((w.alloc (.cells #[.slice (some ⟨G, 0, none⟩) us.length xc] 25)).alloc (.cells #[.slice none 0 0] 25)).drew.cell? ⟨G, p * 2, none⟩ = some (.slice nd.sa nd.ss.length nd.sc) := (HCR.blk.at _).trans (HCR.at' p nd hnd).1
  have CS : Hid (∀ W, Below w.heap.size w W → Calls Tryz.prog 67 #[.agg #[.slice nd.sa nd.ss.length nd.sc]] W (CopiedStR W nd.ss)) := fun W hW => l2CopyStore_any nd.sa nd.sc nd.ss W hm.1 (fun v hv => (hm.2 v hv).1) ((HC.out.on hW).store p nd hnd)
  have zA : w.heap.size + 2 = ((w.alloc (.cells #[.slice (some ⟨G, 0, none⟩) us.length xc] 25)).alloc (.cells #[.slice none 0 0] 25)).heap.size := by simp
  have HZA := hide zA
  have HTY := hide hG.typed
  have C1 := hide ((hG.on BA.out).on (Below.refl _ _).drew)
  have V1 := V0.drew
  have q1 := V1.one.1
  have v0 := V0.one.1
  have hlo := hG.lo
  have hu4 : us.length ≤ 4 := by omega
  have e1 : (us.length : Int) - 1 = (p : Int) := by omega
  have j1 : (0 : Int) ≤ (p : Int) := by omega
  have kw : IntKind.i64.wrap (p : Int) = (p : Int) := by rw [IntKind.wrap_i64]; omega
  have j2 : (p : Int) < (us.length : Int) := by omega
  have T0 := hide (Turn.below (P := fun g => (some ⟨G, 0, none⟩ : Option Addr) = some ⟨g, 0, none⟩) BA.out)
  obtain ⟨sa, sc, ss, wa, wc, ws⟩ := nd
  simp only at n0 CS hm
  clear hG HCR hR hp zA V0 V00 S0 hnd
  go_enter Tryz.func48, Tryz.ntmps48
  go_wp2_with fail
  generalize (w.alloc (.cells #[.slice (some ⟨G, 0, none⟩) us.length xc] 25)).alloc (.cells #[.slice none 0 0] 25) = W0 at V1 q1 v0 C1 BA HZA B0 n0 T0 ⊢
  have zW : w.heap.size + 2 = W0.heap.size := HZA.out
  refine wp_region_noPanic ?_
  refine wp_region_held_drew (S := (fun w' => Blk w' (w.heap.size + 1) 25 #[.slice none 0 0] ∧ Hid (Turn (fun g => (some ⟨G, 0, none⟩ : Option Addr) = some ⟨g, 0, none⟩) w w'))) (by kernel_rfl) (by exact ⟨B0.drew, T0.out.trans (.below (Below.refl _ _).drew)⟩) (fun hHeld => ?_)
  refine take_run 0 (some 7) (v := ?_) rfl rfl (by kernel_rfl) (by kernel_rfl) (by kernel_rfl) (fun _ _ _ h => h) (by rfl) ?_ hHeld ?_
  rotate_left
  · ((intro w hSw); (try dsimp only at hSw); go_simp <;> with_reducible rfl)
  simp only [Act.put, List.setIfInBounds_toArray, List.set_cons_zero, List.set_cons_succ]
  refine take_run 2 (some 9) (v := ?_) rfl rfl (by kernel_rfl) (by kernel_rfl) (by kernel_rfl) (fun _ _ _ h => h) (by rfl) ?_ hHeld ?_
  rotate_left
  · ((intro w hSw); (try dsimp only at hSw); go_simp <;> with_reducible rfl)
  simp only [Act.put, List.setIfInBounds_toArray, List.set_cons_zero, List.set_cons_succ]
  refine take_run 4 (some 11) (v := ?_) rfl rfl (by kernel_rfl) (by kernel_rfl) (by kernel_rfl) (fun _ _ _ h => h) (by rfl) ?_ hHeld ?_
  rotate_left
  · ((intro w hSw); (try dsimp only at hSw); go_simp <;> with_reducible rfl)
  simp only [Act.put, List.setIfInBounds_toArray, List.set_cons_zero, List.set_cons_succ]
  refine take_run 5 (some 12) (v := ?_) rfl rfl (by kernel_rfl) (by kernel_rfl) (by kernel_rfl) (fun _ _ _ h => h) (by rfl) ?_ hHeld ?_
  rotate_left
  · ((intro w hSw); (try dsimp only at hSw); go_simp <;> with_reducible rfl)
  simp only [Act.put, List.setIfInBounds_toArray, List.set_cons_zero, List.set_cons_succ]
  refine wpAnyH_ready (rs := [1, 3]) (by kernel_rfl) (by simp) ?_
  refine AllReadyH.cons rfl (fun K hK => ?_) (AllReadyH.cons rfl (fun K hK => ?_) AllReadyH.nil)
  · skip
    go_simp
    refine hK.out _ _ (by exact hHeld) (fun hHeld => ?_)
    clear hK K
    refine take_one 3 (by kernel_rfl) rfl (fun K hK => ?_)
    go_simp
    refine hK.out _ _ (by exact hHeld) (fun hHeld => ?_)
    clear hK K
    refine take_run 6 (some 13) (v := ?_) rfl rfl (by kernel_rfl) (by kernel_rfl) (by kernel_rfl) (fun _ _ _ h => h) (by rfl) ?_ hHeld ?_
    rotate_left
    · ((intro w hSw); (try dsimp only at hSw); go_simp <;> with_reducible rfl)
    simp only [Act.put, List.setIfInBounds_toArray, List.set_cons_zero, List.set_cons_succ]
    refine take_run 7 (some 14) (v := ?_) rfl rfl (by kernel_rfl) (by kernel_rfl) (by kernel_rfl) (fun _ _ _ h => h) (by rfl) ?_ hHeld ?_
    rotate_left
    · ((intro w hSw); (try dsimp only at hSw); go_simp <;> with_reducible rfl)
    simp only [Act.put, List.setIfInBounds_toArray, List.set_cons_zero, List.set_cons_succ]
    refine take_one 8 (by kernel_rfl) rfl (fun K hK => ?_)
    go_simp
    refine hK.out _ _ (by exact hHeld) (fun hHeld => ?_)
    clear hK K
    refine take_one 9 (by kernel_rfl) rfl (fun K hK => ?_)
    go_simp
    ((with_reducible refine (CS.out _ (BA.out.trans ((Below.refl _ _).drew.mono BA.out.size))).mono ?_); rintro e w3 ⟨x1, us1, rfl, hul, hli, hcr, hb3⟩; obtain ⟨A1, cap1, rfl, hR1⟩ := hcr.resS; have HL1 : Hid (LL us1 ss) := ⟨hul, hli⟩; have HR1 := hide hR1; have C2 := hide (C1.out.on hb3); have V2 := V1.on hb3; have z3 : W0.heap.size ≤ w3.heap.size := (by have := hb3.size; simpa using this); have HB3 := hide hb3; have q2 := V2.one.1; have HR := hide C2.out.row; have q4 := (V2.more (.cells #[.slice A1 us1.length cap1, .slice none 0 0] 37)).one.1; clear hR1 hcr hul hli)
    try go_wp2_with fail
    refine hK.out _ _ (by exact ⟨hHeld.1.on HB3.out, hHeld.2.out.trans (.below HB3.out)⟩) (fun hHeld => ?_)
    clear hK K
    refine take_run 10 (some 17) (v := ?_) rfl rfl (by kernel_rfl) (by kernel_rfl) (by kernel_rfl) (fun _ _ _ h => h) (by rfl) ?_ hHeld ?_
    rotate_left
    · ((intro w hSw); (try dsimp only at hSw); go_simp <;> with_reducible rfl)
    simp only [Act.put, List.setIfInBounds_toArray, List.set_cons_zero, List.set_cons_succ]
    refine take_one 11 (by kernel_rfl) rfl (fun K hK => ?_)
    go_simp
    refine hK.out _ _ (by exact ⟨hHeld.1.more _, hHeld.2.out.trans (.below (below_alloc1 _ _))⟩) (fun hHeld => ?_)
    clear hK K
    refine take_one 12 (by kernel_rfl) rfl (fun K hK => ?_)
    (refine step_append_lies _ (by rfl) _ _ _ (by rfl) base 37 i0 _ 2 48 Tryz.underlying23 I0.out I1.out I2.out I3.out rfl (by omega) (.slice (some ⟨G, 0, none⟩) us.length xc) us.length (flatN us) (by rfl) (HR.out.alloc _) ⟨w3.heap.size, 0, none⟩ 1 1 (cellsN ⟨A1, cap1, us1, none, 0, []⟩) (by rfl) (by rfl) (World.news_of_block (cs := #[.slice A1 us1.length cap1, .slice none 0 0]) (t := 37) (fr := (0, 0)) (heap_alloc_new w3 _)) (by simp [cellsN, Value.oneCell']) (by omega) (by unfold maxLen; omega) (by omega) (by simp; omega) _ rfl ?_; intro g cap w5 hown2 hgrow hat hlt2; have V4 := (V2.more (.cells #[.slice A1 us1.length cap1, .slice none 0 0] 37)).kept hgrow (by intro e; have hq := HTY.out _ e; obtain ⟨_, _, h1, h2⟩ := hq; omega); have q5 := V4.one; have OW := hide hown2; have GW := hide hgrow; clear hown2)
    simp only [List.getElem_toArray, List.getElem_cons_zero, List.getElem_cons_succ, Act.put, List.setIfInBounds_toArray, List.set_cons_zero, List.set_cons_succ]
    refine hK.out _ _ (by exact ⟨hHeld.1.kept hgrow (by intro e; have hq := HTY.out _ e; obtain ⟨_, _, h1, h2⟩ := hq; omega), hHeld.2.out.trans (.of hgrow (fun g e => by injection e with e; subst e; rfl))⟩) (fun hHeld => ?_)
    clear hK K
    refine take_run 13 (some 20) (v := ?_) rfl rfl (by kernel_rfl) (by kernel_rfl) (by kernel_rfl) (fun _ _ _ h => h) (by rfl) ?_ hHeld ?_
    rotate_left
    · ((intro w hSw); (try dsimp only at hSw); go_simp <;> with_reducible rfl)
    simp only [Act.put, List.setIfInBounds_toArray, List.set_cons_zero, List.set_cons_succ]
    refine take_one 14 (by kernel_rfl) rfl (fun K hK => ?_)
    go_simp
    refine hK.out _ _ (by exact ⟨hHeld.1.aside (by simp) _, hHeld.2.out.far (by simp) _⟩) (fun hHeld => ?_)
    clear hK K
    refine wpAnyH_done (by kernel_rfl) ?_ _
    refine NoPanic.normal ?_
    have I9 := hHeld.1
    have T9 := hHeld.2
    have C9 := C1.out.push (w1 := w3.alloc (.cells #[.slice A1 us1.length cap1, .slice none 0 0] 37)) (v := ⟨A1, cap1, us1, none, 0, []⟩) (g := g) (cap := cap) (w2 := w5) (HB3.out.trans ((below_alloc1 w3 _).mono HB3.out.size)) ((HR1.out.on (below_alloc1 w3 _)).wide (by simp)) (.inl rfl) (fun g _ h2 => h2.elim (fun h2 => h2.1 rfl) (fun h2 => by simp [Value.ownBlock] at h2)) (CRow.start _ _ (by have := HB3.out.size; simp; omega)) OW.out GW.out
    have C10 := hide (C9.asideT (p := ⟨w.heap.size, 0, none⟩) V4 (.slice (some ⟨g, 0, none⟩) (us.length + 1) cap))
    have V9 := V4.put 0 (.slice (some ⟨g, 0, none⟩) (us.length + 1) cap)
    simp only [List.setIfInBounds_toArray, List.set_cons_zero] at V9
    have v9 := V9.one.1
    have q9 := I9.one
    clear hHeld V1 V2 V4 q1 q2 q4 q5 C9 C1 C2 V9 v0 n0
    generalize w5.setCell ⟨w.heap.size, 0, none⟩ (.slice (some ⟨g, 0, none⟩) (us.length + 1) cap) = W9 at I9 T9 C10 v9 q9 ⊢
    go_wp2
    refine bodyPost_ret (v := .agg #[.slice (some ⟨g, 0, none⟩) (us.length + 1) cap]) (by simp [results, Tryz.results48, go_sem, q9]) rfl ?_
    exact ⟨g, cap, ⟨A1, cap1, us1, none, 0, []⟩, rfl, ⟨HL1.out.1, HL1.out.2, rfl, like_refl _⟩, C10.out.asideT (p := ⟨w.heap.size + 1, 0, none⟩) I9 _, T9.out.far (by simp) _⟩
  · skip
    go_simp
    refine hK.out _ _ (by exact hHeld) (fun hHeld => ?_)
    clear hK K
    refine take_run 6 (some 13) (v := ?_) rfl rfl (by kernel_rfl) (by kernel_rfl) (by kernel_rfl) (fun _ _ _ h => h) (by rfl) ?_ hHeld ?_
    rotate_left
    · ((intro w hSw); (try dsimp only at hSw); go_simp <;> with_reducible rfl)
    simp only [Act.put, List.setIfInBounds_toArray, List.set_cons_zero, List.set_cons_succ]
    refine take_run 7 (some 14) (v := ?_) rfl rfl (by kernel_rfl) (by kernel_rfl) (by kernel_rfl) (fun _ _ _ h => h) (by rfl) ?_ hHeld ?_
    rotate_left
    · ((intro w hSw); (try dsimp only at hSw); go_simp <;> with_reducible rfl)
    simp only [Act.put, List.setIfInBounds_toArray, List.set_cons_zero, List.set_cons_succ]
    refine wpAnyH_ready (rs := [1, 8]) (by kernel_rfl) (by simp) ?_
    refine AllReadyH.cons rfl (fun K hK => ?_) (AllReadyH.cons rfl (fun K hK => ?_) AllReadyH.nil)
    · skip
      go_simp
      refine hK.out _ _ (by exact hHeld) (fun hHeld => ?_)
      clear hK K
      refine take_one 8 (by kernel_rfl) rfl (fun K hK => ?_)
      go_simp
      refine hK.out _ _ (by exact hHeld) (fun hHeld => ?_)
      clear hK K
      refine take_one 9 (by kernel_rfl) rfl (fun K hK => ?_)
      go_simp
      ((with_reducible refine (CS.out _ (BA.out.trans ((Below.refl _ _).drew.mono BA.out.size))).mono ?_); rintro e w3 ⟨x1, us1, rfl, hul, hli, hcr, hb3⟩; obtain ⟨A1, cap1, rfl, hR1⟩ := hcr.resS; have HL1 : Hid (LL us1 ss) := ⟨hul, hli⟩; have HR1 := hide hR1; have C2 := hide (C1.out.on hb3); have V2 := V1.on hb3; have z3 : W0.heap.size ≤ w3.heap.size := (by have := hb3.size; simpa using this); have HB3 := hide hb3; have q2 := V2.one.1; have HR := hide C2.out.row; have q4 := (V2.more (.cells #[.slice A1 us1.length cap1, .slice none 0 0] 37)).one.1; clear hR1 hcr hul hli)
      try go_wp2_with fail
      refine hK.out _ _ (by exact ⟨hHeld.1.on HB3.out, hHeld.2.out.trans (.below HB3.out)⟩) (fun hHeld => ?_)
      clear hK K
      refine take_run 10 (some 17) (v := ?_) rfl rfl (by kernel_rfl) (by kernel_rfl) (by kernel_rfl) (fun _ _ _ h => h) (by rfl) ?_ hHeld ?_
      rotate_left
      · ((intro w hSw); (try dsimp only at hSw); go_simp <;> with_reducible rfl)
      simp only [Act.put, List.setIfInBounds_toArray, List.set_cons_zero, List.set_cons_succ]
      refine take_one 11 (by kernel_rfl) rfl (fun K hK => ?_)
      go_simp
      refine hK.out _ _ (by exact ⟨hHeld.1.more _, hHeld.2.out.trans (.below (below_alloc1 _ _))⟩) (fun hHeld => ?_)
      clear hK K
      refine take_one 12 (by kernel_rfl) rfl (fun K hK => ?_)
      (refine step_append_lies _ (by rfl) _ _ _ (by rfl) base 37 i0 _ 2 48 Tryz.underlying23 I0.out I1.out I2.out I3.out rfl (by omega) (.slice (some ⟨G, 0, none⟩) us.length xc) us.length (flatN us) (by rfl) (HR.out.alloc _) ⟨w3.heap.size, 0, none⟩ 1 1 (cellsN ⟨A1, cap1, us1, none, 0, []⟩) (by rfl) (by rfl) (World.news_of_block (cs := #[.slice A1 us1.length cap1, .slice none 0 0]) (t := 37) (fr := (0, 0)) (heap_alloc_new w3 _)) (by simp [cellsN, Value.oneCell']) (by omega) (by unfold maxLen; omega) (by omega) (by simp; omega) _ rfl ?_; intro g cap w5 hown2 hgrow hat hlt2; have V4 := (V2.more (.cells #[.slice A1 us1.length cap1, .slice none 0 0] 37)).kept hgrow (by intro e; have hq := HTY.out _ e; obtain ⟨_, _, h1, h2⟩ := hq; omega); have q5 := V4.one; have OW := hide hown2; have GW := hide hgrow; clear hown2)
      simp only [List.getElem_toArray, List.getElem_cons_zero, List.getElem_cons_succ, Act.put, List.setIfInBounds_toArray, List.set_cons_zero, List.set_cons_succ]
      refine hK.out _ _ (by exact ⟨hHeld.1.kept hgrow (by intro e; have hq := HTY.out _ e; obtain ⟨_, _, h1, h2⟩ := hq; omega), hHeld.2.out.trans (.of hgrow (fun g e => by injection e with e; subst e; rfl))⟩) (fun hHeld => ?_)
      clear hK K
      refine take_run 13 (some 20) (v := ?_) rfl rfl (by kernel_rfl) (by kernel_rfl) (by kernel_rfl) (fun _ _ _ h => h) (by rfl) ?_ hHeld ?_
      rotate_left
      · ((intro w hSw); (try dsimp only at hSw); go_simp <;> with_reducible rfl)
      simp only [Act.put, List.setIfInBounds_toArray, List.set_cons_zero, List.set_cons_succ]
      refine take_one 14 (by kernel_rfl) rfl (fun K hK => ?_)
      go_simp
      refine hK.out _ _ (by exact ⟨hHeld.1.aside (by simp) _, hHeld.2.out.far (by simp) _⟩) (fun hHeld => ?_)
      clear hK K
      refine wpAnyH_done (by kernel_rfl) ?_ _
      refine NoPanic.normal ?_
      have I9 := hHeld.1
      have T9 := hHeld.2
      have C9 := C1.out.push (w1 := w3.alloc (.cells #[.slice A1 us1.length cap1, .slice none 0 0] 37)) (v := ⟨A1, cap1, us1, none, 0, []⟩) (g := g) (cap := cap) (w2 := w5) (HB3.out.trans ((below_alloc1 w3 _).mono HB3.out.size)) ((HR1.out.on (below_alloc1 w3 _)).wide (by simp)) (.inl rfl) (fun g _ h2 => h2.elim (fun h2 => h2.1 rfl) (fun h2 => by simp [Value.ownBlock] at h2)) (CRow.start _ _ (by have := HB3.out.size; simp; omega)) OW.out GW.out
      have C10 := hide (C9.asideT (p := ⟨w.heap.size, 0, none⟩) V4 (.slice (some ⟨g, 0, none⟩) (us.length + 1) cap))
      have V9 := V4.put 0 (.slice (some ⟨g, 0, none⟩) (us.length + 1) cap)
      simp only [List.setIfInBounds_toArray, List.set_cons_zero] at V9
      have v9 := V9.one.1
      have q9 := I9.one
      clear hHeld V1 V2 V4 q1 q2 q4 q5 C9 C1 C2 V9 v0 n0
      generalize w5.setCell ⟨w.heap.size, 0, none⟩ (.slice (some ⟨g, 0, none⟩) (us.length + 1) cap) = W9 at I9 T9 C10 v9 q9 ⊢
      go_wp2
      refine bodyPost_ret (v := .agg #[.slice (some ⟨g, 0, none⟩) (us.length + 1) cap]) (by simp [results, Tryz.results48, go_sem, q9]) rfl ?_
      exact ⟨g, cap, ⟨A1, cap1, us1, none, 0, []⟩, rfl, ⟨HL1.out.1, HL1.out.2, rfl, like_refl _⟩, C10.out.asideT (p := ⟨w.heap.size + 1, 0, none⟩) I9 _, T9.out.far (by simp) _⟩
    · skip
      go_simp
      refine hK.out _ _ (by exact hHeld) (fun hHeld => ?_)
      clear hK K
      refine wpAnyH_ready (rs := [1, 9]) (by kernel_rfl) (by simp) ?_
      refine AllReadyH.cons rfl (fun K hK => ?_) (AllReadyH.cons rfl (fun K hK => ?_) AllReadyH.nil)
      · skip
        go_simp
        refine hK.out _ _ (by exact hHeld) (fun hHeld => ?_)
        clear hK K
        refine take_one 9 (by kernel_rfl) rfl (fun K hK => ?_)
        go_simp
        ((with_reducible refine (CS.out _ (BA.out.trans ((Below.refl _ _).drew.mono BA.out.size))).mono ?_); rintro e w3 ⟨x1, us1, rfl, hul, hli, hcr, hb3⟩; obtain ⟨A1, cap1, rfl, hR1⟩ := hcr.resS; have HL1 : Hid (LL us1 ss) := ⟨hul, hli⟩; have HR1 := hide hR1; have C2 := hide (C1.out.on hb3); have V2 := V1.on hb3; have z3 : W0.heap.size ≤ w3.heap.size := (by have := hb3.size; simpa using this); have HB3 := hide hb3; have q2 := V2.one.1; have HR := hide C2.out.row; have q4 := (V2.more (.cells #[.slice A1 us1.length cap1, .slice none 0 0] 37)).one.1; clear hR1 hcr hul hli)
        try go_wp2_with fail
        refine hK.out _ _ (by exact ⟨hHeld.1.on HB3.out, hHeld.2.out.trans (.below HB3.out)⟩) (fun hHeld => ?_)
        clear hK K
        refine take_run 10 (some 17) (v := ?_) rfl rfl (by kernel_rfl) (by kernel_rfl) (by kernel_rfl) (fun _ _ _ h => h) (by rfl) ?_ hHeld ?_
        rotate_left
        · ((intro w hSw); (try dsimp only at hSw); go_simp <;> with_reducible rfl)
        simp only [Act.put, List.setIfInBounds_toArray, List.set_cons_zero, List.set_cons_succ]
        refine take_one 11 (by kernel_rfl) rfl (fun K hK => ?_)
        go_simp
        refine hK.out _ _ (by exact ⟨hHeld.1.more _, hHeld.2.out.trans (.below (below_alloc1 _ _))⟩) (fun hHeld => ?_)
        clear hK K
        refine take_one 12 (by kernel_rfl) rfl (fun K hK => ?_)
        (refine step_append_lies _ (by rfl) _ _ _ (by rfl) base 37 i0 _ 2 48 Tryz.underlying23 I0.out I1.out I2.out I3.out rfl (by omega) (.slice (some ⟨G, 0, none⟩) us.length xc) us.length (flatN us) (by rfl) (HR.out.alloc _) ⟨w3.heap.size, 0, none⟩ 1 1 (cellsN ⟨A1, cap1, us1, none, 0, []⟩) (by rfl) (by rfl) (World.news_of_block (cs := #[.slice A1 us1.length cap1, .slice none 0 0]) (t := 37) (fr := (0, 0)) (heap_alloc_new w3 _)) (by simp [cellsN, Value.oneCell']) (by omega) (by unfold maxLen; omega) (by omega) (by simp; omega) _ rfl ?_; intro g cap w5 hown2 hgrow hat hlt2; have V4 := (V2.more (.cells #[.slice A1 us1.length cap1, .slice none 0 0] 37)).kept hgrow (by intro e; have hq := HTY.out _ e; obtain ⟨_, _, h1, h2⟩ := hq; omega); have q5 := V4.one; have OW := hide hown2; have GW := hide hgrow; clear hown2)
        simp only [List.getElem_toArray, List.getElem_cons_zero, List.getElem_cons_succ, Act.put, List.setIfInBounds_toArray, List.set_cons_zero, List.set_cons_succ]
        refine hK.out _ _ (by exact ⟨hHeld.1.kept hgrow (by intro e; have hq := HTY.out _ e; obtain ⟨_, _, h1, h2⟩ := hq; omega), hHeld.2.out.trans (.of hgrow (fun g e => by injection e with e; subst e; rfl))⟩) (fun hHeld => ?_)
        clear hK K
        refine take_run 13 (some 20) (v := ?_) rfl rfl (by kernel_rfl) (by kernel_rfl) (by kernel_rfl) (fun _ _ _ h => h) (by rfl) ?_ hHeld ?_
        rotate_left
        · ((intro w hSw); (try dsimp only at hSw); go_simp <;> with_reducible rfl)
        simp only [Act.put, List.setIfInBounds_toArray, List.set_cons_zero, List.set_cons_succ]
        refine take_one 14 (by kernel_rfl) rfl (fun K hK => ?_)
        go_simp
        refine hK.out _ _ (by exact ⟨hHeld.1.aside (by simp) _, hHeld.2.out.far (by simp) _⟩) (fun hHeld => ?_)
        clear hK K
        refine wpAnyH_done (by kernel_rfl) ?_ _
        refine NoPanic.normal ?_
        have I9 := hHeld.1
        have T9 := hHeld.2
        have C9 := C1.out.push (w1 := w3.alloc (.cells #[.slice A1 us1.length cap1, .slice none 0 0] 37)) (v := ⟨A1, cap1, us1, none, 0, []⟩) (g := g) (cap := cap) (w2 := w5) (HB3.out.trans ((below_alloc1 w3 _).mono HB3.out.size)) ((HR1.out.on (below_alloc1 w3 _)).wide (by simp)) (.inl rfl) (fun g _ h2 => h2.elim (fun h2 => h2.1 rfl) (fun h2 => by simp [Value.ownBlock] at h2)) (CRow.start _ _ (by have := HB3.out.size; simp; omega)) OW.out GW.out
        have C10 := hide (C9.asideT (p := ⟨w.heap.size, 0, none⟩) V4 (.slice (some ⟨g, 0, none⟩) (us.length + 1) cap))
        have V9 := V4.put 0 (.slice (some ⟨g, 0, none⟩) (us.length + 1) cap)
        simp only [List.setIfInBounds_toArray, List.set_cons_zero] at V9
        have v9 := V9.one.1
        have q9 := I9.one
        clear hHeld V1 V2 V4 q1 q2 q4 q5 C9 C1 C2 V9 v0 n0
        generalize w5.setCell ⟨w.heap.size, 0, none⟩ (.slice (some ⟨g, 0, none⟩) (us.length + 1) cap) = W9 at I9 T9 C10 v9 q9 ⊢
        go_wp2
        refine bodyPost_ret (v := .agg #[.slice (some ⟨g, 0, none⟩) (us.length + 1) cap]) (by simp [results, Tryz.results48, go_sem, q9]) rfl ?_
        exact ⟨g, cap, ⟨A1, cap1, us1, none, 0, []⟩, rfl, ⟨HL1.out.1, HL1.out.2, rfl, like_refl _⟩, C10.out.asideT (p := ⟨w.heap.size + 1, 0, none⟩) I9 _, T9.out.far (by simp) _⟩
      · skip
        go_simp
        ((with_reducible refine (CS.out _ (BA.out.trans ((Below.refl _ _).drew.mono BA.out.size))).mono ?_); rintro e w3 ⟨x1, us1, rfl, hul, hli, hcr, hb3⟩; obtain ⟨A1, cap1, rfl, hR1⟩ := hcr.resS; have HL1 : Hid (LL us1 ss) := ⟨hul, hli⟩; have HR1 := hide hR1; have C2 := hide (C1.out.on hb3); have V2 := V1.on hb3; have z3 : W0.heap.size ≤ w3.heap.size := (by have := hb3.size; simpa using this); have HB3 := hide hb3; have q2 := V2.one.1; have HR := hide C2.out.row; have q4 := (V2.more (.cells #[.slice A1 us1.length cap1, .slice none 0 0] 37)).one.1; clear hR1 hcr hul hli)
        try go_wp2_with fail
        refine hK.out _ _ (by exact ⟨hHeld.1.on HB3.out, hHeld.2.out.trans (.below HB3.out)⟩) (fun hHeld => ?_)
        clear hK K
        refine take_run 10 (some 17) (v := ?_) rfl rfl (by kernel_rfl) (by kernel_rfl) (by kernel_rfl) (fun _ _ _ h => h) (by rfl) ?_ hHeld ?_
        rotate_left
        · ((intro w hSw); (try dsimp only at hSw); go_simp <;> with_reducible rfl)
        simp only [Act.put, List.setIfInBounds_toArray, List.set_cons_zero, List.set_cons_succ]
        refine wpAnyH_ready (rs := [1, 11]) (by kernel_rfl) (by simp) ?_
        refine AllReadyH.cons rfl (fun K hK => ?_) (AllReadyH.cons rfl (fun K hK => ?_) AllReadyH.nil)
        · skip
          go_simp
          refine hK.out _ _ (by exact hHeld) (fun hHeld => ?_)
          clear hK K
          refine take_one 11 (by kernel_rfl) rfl (fun K hK => ?_)
          go_simp
          refine hK.out _ _ (by exact ⟨hHeld.1.more _, hHeld.2.out.trans (.below (below_alloc1 _ _))⟩) (fun hHeld => ?_)
          clear hK K
          refine take_one 12 (by kernel_rfl) rfl (fun K hK => ?_)
          (refine step_append_lies _ (by rfl) _ _ _ (by rfl) base 37 i0 _ 2 48 Tryz.underlying23 I0.out I1.out I2.out I3.out rfl (by omega) (.slice (some ⟨G, 0, none⟩) us.length xc) us.length (flatN us) (by rfl) (HR.out.alloc _) ⟨w3.heap.size, 0, none⟩ 1 1 (cellsN ⟨A1, cap1, us1, none, 0, []⟩) (by rfl) (by rfl) (World.news_of_block (cs := #[.slice A1 us1.length cap1, .slice none 0 0]) (t := 37) (fr := (0, 0)) (heap_alloc_new w3 _)) (by simp [cellsN, Value.oneCell']) (by omega) (by unfold maxLen; omega) (by omega) (by simp; omega) _ rfl ?_; intro g cap w5 hown2 hgrow hat hlt2; have V4 := (V2.more (.cells #[.slice A1 us1.length cap1, .slice none 0 0] 37)).kept hgrow (by intro e; have hq := HTY.out _ e; obtain ⟨_, _, h1, h2⟩ := hq; omega); have q5 := V4.one; have OW := hide hown2; have GW := hide hgrow; clear hown2)
          simp only [List.getElem_toArray, List.getElem_cons_zero, List.getElem_cons_succ, Act.put, List.setIfInBounds_toArray, List.set_cons_zero, List.set_cons_succ]
          refine hK.out _ _ (by exact ⟨hHeld.1.kept hgrow (by intro e; have hq := HTY.out _ e; obtain ⟨_, _, h1, h2⟩ := hq; omega), hHeld.2.out.trans (.of hgrow (fun g e => by injection e with e; subst e; rfl))⟩) (fun hHeld => ?_)
          clear hK K
          refine take_run 13 (some 20) (v := ?_) rfl rfl (by kernel_rfl) (by kernel_rfl) (by kernel_rfl) (fun _ _ _ h => h) (by rfl) ?_ hHeld ?_
          rotate_left
          · ((intro w hSw); (try dsimp only at hSw); go_simp <;> with_reducible rfl)
          simp only [Act.put, List.setIfInBounds_toArray, List.set_cons_zero, List.set_cons_succ]
          refine take_one 14 (by kernel_rfl) rfl (fun K hK => ?_)
          go_simp
          refine hK.out _ _ (by exact ⟨hHeld.1.aside (by simp) _, hHeld.2.out.far (by simp) _⟩) (fun hHeld => ?_)
          clear hK K
          refine wpAnyH_done (by kernel_rfl) ?_ _
          refine NoPanic.normal ?_
          have I9 := hHeld.1
          have T9 := hHeld.2
          have C9 := C1.out.push (w1 := w3.alloc (.cells #[.slice A1 us1.length cap1, .slice none 0 0] 37)) (v := ⟨A1, cap1, us1, none, 0, []⟩) (g := g) (cap := cap) (w2 := w5) (HB3.out.trans ((below_alloc1 w3 _).mono HB3.out.size)) ((HR1.out.on (below_alloc1 w3 _)).wide (by simp)) (.inl rfl) (fun g _ h2 => h2.elim (fun h2 => h2.1 rfl) (fun h2 => by simp [Value.ownBlock] at h2)) (CRow.start _ _ (by have := HB3.out.size; simp; omega)) OW.out GW.out
          have C10 := hide (C9.asideT (p := ⟨w.heap.size, 0, none⟩) V4 (.slice (some ⟨g, 0, none⟩) (us.length + 1) cap))
          have V9 := V4.put 0 (.slice (some ⟨g, 0, none⟩) (us.length + 1) cap)
          simp only [List.setIfInBounds_toArray, List.set_cons_zero] at V9
          have v9 := V9.one.1
          have q9 := I9.one
          clear hHeld V1 V2 V4 q1 q2 q4 q5 C9 C1 C2 V9 v0 n0
          generalize w5.setCell ⟨w.heap.size, 0, none⟩ (.slice (some ⟨g, 0, none⟩) (us.length + 1) cap) = W9 at I9 T9 C10 v9 q9 ⊢
          go_wp2
          refine bodyPost_ret (v := .agg #[.slice (some ⟨g, 0, none⟩) (us.length + 1) cap]) (by simp [results, Tryz.results48, go_sem, q9]) rfl ?_
          exact ⟨g, cap, ⟨A1, cap1, us1, none, 0, []⟩, rfl, ⟨HL1.out.1, HL1.out.2, rfl, like_refl _⟩, C10.out.asideT (p := ⟨w.heap.size + 1, 0, none⟩) I9 _, T9.out.far (by simp) _⟩
        · skip
          go_simp
          refine hK.out _ _ (by exact ⟨hHeld.1.more _, hHeld.2.out.trans (.below (below_alloc1 _ _))⟩) (fun hHeld => ?_)
          clear hK K
          refine take_one 1 (by kernel_rfl) rfl (fun K hK => ?_)
          go_simp
          refine hK.out _ _ (by exact hHeld) (fun hHeld => ?_)
          clear hK K
          refine take_one 12 (by kernel_rfl) rfl (fun K hK => ?_)
          (refine step_append_lies _ (by rfl) _ _ _ (by rfl) base 37 i0 _ 2 48 Tryz.underlying23 I0.out I1.out I2.out I3.out rfl (by omega) (.slice (some ⟨G, 0, none⟩) us.length xc) us.length (flatN us) (by rfl) (HR.out.alloc _) ⟨w3.heap.size, 0, none⟩ 1 1 (cellsN ⟨A1, cap1, us1, none, 0, []⟩) (by rfl) (by rfl) (World.news_of_block (cs := #[.slice A1 us1.length cap1, .slice none 0 0]) (t := 37) (fr := (0, 0)) (heap_alloc_new w3 _)) (by simp [cellsN, Value.oneCell']) (by omega) (by unfold maxLen; omega) (by omega) (by simp; omega) _ rfl ?_; intro g cap w5 hown2 hgrow hat hlt2; have V4 := (V2.more (.cells #[.slice A1 us1.length cap1, .slice none 0 0] 37)).kept hgrow (by intro e; have hq := HTY.out _ e; obtain ⟨_, _, h1, h2⟩ := hq; omega); have q5 := V4.one; have OW := hide hown2; have GW := hide hgrow; clear hown2)
          simp only [List.getElem_toArray, List.getElem_cons_zero, List.getElem_cons_succ, Act.put, List.setIfInBounds_toArray, List.set_cons_zero, List.set_cons_succ]
          refine hK.out _ _ (by exact ⟨hHeld.1.kept hgrow (by intro e; have hq := HTY.out _ e; obtain ⟨_, _, h1, h2⟩ := hq; omega), hHeld.2.out.trans (.of hgrow (fun g e => by injection e with e; subst e; rfl))⟩) (fun hHeld => ?_)
          clear hK K
          refine take_run 13 (some 20) (v := ?_) rfl rfl (by kernel_rfl) (by kernel_rfl) (by kernel_rfl) (fun _ _ _ h => h) (by rfl) ?_ hHeld ?_
          rotate_left
          · ((intro w hSw); (try dsimp only at hSw); go_simp <;> with_reducible rfl)
          simp only [Act.put, List.setIfInBounds_toArray, List.set_cons_zero, List.set_cons_succ]
          refine take_one 14 (by kernel_rfl) rfl (fun K hK => ?_)
          go_simp
          refine hK.out _ _ (by exact ⟨hHeld.1.aside (by simp) _, hHeld.2.out.far (by simp) _⟩) (fun hHeld => ?_)
          clear hK K
          refine wpAnyH_done (by kernel_rfl) ?_ _
          refine NoPanic.normal ?_
          have I9 := hHeld.1
          have T9 := hHeld.2
          have C9 := C1.out.push (w1 := w3.alloc (.cells #[.slice A1 us1.length cap1, .slice none 0 0] 37)) (v := ⟨A1, cap1, us1, none, 0, []⟩) (g := g) (cap := cap) (w2 := w5) (HB3.out.trans ((below_alloc1 w3 _).mono HB3.out.size)) ((HR1.out.on (below_alloc1 w3 _)).wide (by simp)) (.inl rfl) (fun g _ h2 => h2.elim (fun h2 => h2.1 rfl) (fun h2 => by simp [Value.ownBlock] at h2)) (CRow.start _ _ (by have := HB3.out.size; simp; omega)) OW.out GW.out
          have C10 := hide (C9.asideT (p := ⟨w.heap.size, 0, none⟩) V4 (.slice (some ⟨g, 0, none⟩) (us.length + 1) cap))
          have V9 := V4.put 0 (.slice (some ⟨g, 0, none⟩) (us.length + 1) cap)
          simp only [List.setIfInBounds_toArray, List.set_cons_zero] at V9
          have v9 := V9.one.1
          have q9 := I9.one
          clear hHeld V1 V2 V4 q1 q2 q4 q5 C9 C1 C2 V9 v0 n0
          generalize w5.setCell ⟨w.heap.size, 0, none⟩ (.slice (some ⟨g, 0, none⟩) (us.length + 1) cap) = W9 at I9 T9 C10 v9 q9 ⊢
          go_wp2
          refine bodyPost_ret (v := .agg #[.slice (some ⟨g, 0, none⟩) (us.length + 1) cap]) (by simp [results, Tryz.results48, go_sem, q9]) rfl ?_
          exact ⟨g, cap, ⟨A1, cap1, us1, none, 0, []⟩, rfl, ⟨HL1.out.1, HL1.out.2, rfl, like_refl _⟩, C10.out.asideT (p := ⟨w.heap.size + 1, 0, none⟩) I9 _, T9.out.far (by simp) _⟩
end Go.Proofs.YtjnloillcgeodaaGreat
/- Chains of valid nodes that a call answers: few marks; compared, marked, and the marks found again. -/
namespace Go.Proofs.YtjnloillcgeodaaGreat
open Go.RowKit Go.Joins

/-- At most four nodes, each valid by itself. -/
def FineN (rs : List Nd) : Prop := rs.length ≤ 4 ∧ ∀ (i : Nat) n, rs[i]? = some n → nodeB n = true
theorem FineN.like {us rs : List Nd} (h : NL us rs) (hr : FineN rs) : FineN us := ⟨by rw [h.1]; exact hr.1, fun i n hi => by
  obtain ⟨m, hm, hl⟩ := nl_at h hi
  rw [nodeB_like hl]
  exact hr.2 i m hm⟩
theorem node_ts {n : Nd} (h : nodeB n = true) : (n.ss.length = 4 ∧ ∀ v ∈ n.ss, v.ts.length ≤ 4) ∧ n.ws.length ≤ 6 ∧ ∀ v ∈ n.ws, v.ts.length ≤ 4 := by
  obtain ⟨h1, h2, h3⟩ := nodeB_parts h
  exact ⟨⟨storeB_four h1, (few_store h1).2⟩, h2, fun v hv => Nat.le_of_eq (pastB_len4 (verB_parts (h3 v hv)).2.2.2)⟩
theorem FineN.small {rs : List Nd} (h : FineN rs) : SmallN rs := fun n hn => by
  obtain ⟨i, hi⟩ := List.getElem?_of_mem hn
  obtain ⟨⟨h1, h2⟩, h3, h4⟩ := node_ts (h.2 i n hi)
  exact ⟨by omega, by omega, fun v hv => by have := h2 v hv; omega, fun v hv => by have := h4 v hv; omega⟩
theorem wtN_fine {n : Nd} (h : nodeB n = true) : wtN n ≤ 130 := by
  obtain ⟨⟨h1, h2⟩, h3, h4⟩ := node_ts h
  have := few_wts n.ss h2
  have := few_wts n.ws h4
  unfold wtN
  omega
theorem wtNs_fine : ∀ (rs : List Nd), (∀ n ∈ rs, nodeB n = true) → wtNs rs ≤ 130 * (rs.length : Int)
  | [], _ => by simp [wtNs]
  | n :: r, h => by
    have h1 := wtNs_fine r (fun x hx => h x (List.mem_cons_of_mem _ hx))
    have h2 := wtN_fine (h n (List.mem_cons_self ..))
    unfold wtNs at *
    simp at *
    omega
theorem FineN.wt {rs : List Nd} (h : FineN rs) : wtNs rs ≤ 520 := by
  have := wtNs_fine rs (fun n hn => by obtain ⟨i, hi⟩ := List.getElem?_of_mem hn; exact h.2 i n hi)
  have := h.1
  omega
end Go.Proofs.YtjnloillcgeodaaGreat
/- A version comes to a node: said plainly; and one node of a row of nodes changed in memory. No condition. -/
namespace Go.Proofs.YtjnloillcgeodaaGreat
open Go.RowKit Go.Joins

/-- A node to which a version comes, if that is later: it waits to be passed on, unless the node is the last one. -/
def addNd (n : Nd) (last : Bool) (v : V) : Nd := match stepL n.ss v with | some ss' => ⟨n.sa, n.sc, ss', n.wa, n.wc, if last = true then n.ws else n.ws ++ [v]⟩ | none => n
def addN (ns : List Nd) (k : Nat) (v : V) : List Nd := match ns[k]? with | some n => ns.set k (addNd n (decide (k + 1 = ns.length)) v) | none => ns
theorem ll_snoc {us vs : List V} {v u : V} (h : LL us vs) (hl : V.like v u) : LL (us ++ [v]) (vs ++ [u]) := by
  refine ⟨by simp [h.1], fun i x y hx hy => ?_⟩
  rcases snoc_get rfl i x hx with ⟨e1, rfl⟩ | ⟨e1, hq⟩ <;> rcases snoc_get rfl i y hy with ⟨e2, rfl⟩ | ⟨e2, hq'⟩
  · exact hl
  · have := h.1; omega
  · have := h.1; omega
  · exact h.2 i x y hq hq'
theorem addNd_like {n m : Nd} {v u : V} (h : Nd.like n m) (hv : V.like v u) (b : Bool) : Nd.like (addNd n b v) (addNd m b u) := by
  unfold addNd
  rcases stepL_like (us := n.ss) (us' := m.ss) ⟨h.1, h.2.1⟩ hv with ⟨q1, q2⟩ | ⟨x, x', q1, q2, q3⟩
  · rw [q1, q2]
    exact h
  · rw [q1, q2]
    cases b
    · exact ⟨q3.1, q3.2, (ll_snoc (us := n.ws) (vs := m.ws) ⟨h.2.2.1, h.2.2.2⟩ hv).1, (ll_snoc (us := n.ws) (vs := m.ws) ⟨h.2.2.1, h.2.2.2⟩ hv).2⟩
    · exact ⟨q3.1, q3.2, h.2.2.1, h.2.2.2⟩
theorem nl_set {us ns : List Nd} {k : Nat} {n m : Nd} (h : NL us ns) (hl : Nd.like n m) : NL (us.set k n) (ns.set k m) := by
  refine ⟨by rw [List.length_set, List.length_set]; exact h.1, fun i x y hx hy => ?_⟩
  by_cases e : i = k
  · subst e
    have h1 : i < us.length := by have := (List.getElem?_eq_some_iff.1 hx).1; rw [List.length_set] at this; exact this
    have h2 : i < ns.length := by have := h.1; omega
    rw [List.getElem?_set_self h1] at hx
    rw [List.getElem?_set_self h2] at hy
    injection hx with hx
    injection hy with hy
    rw [← hx, ← hy]
    exact hl
  · rw [List.getElem?_set_ne (Ne.symm e)] at hx hy
    exact h.2 i x y hx hy
theorem addN_like {us ns : List Nd} {v u : V} (h : NL us ns) (hv : V.like v u) (k : Nat) : NL (addN us k v) (addN ns k u) := by
  unfold addN
  cases hx : us[k]? with
  | none => rw [nl_none h hx]; exact h
  | some n =>
    obtain ⟨m, hm, hl⟩ := nl_at h hx
    rw [hm, h.1]
    exact nl_set h (addNd_like hl hv _)
theorem CRow.tagFoot {base : Nat} {w : World} {A : Option Addr} {m c : Nat} {us : List V} (h : CRow base w (.slice A m c) us) {i : Nat} {v : V} (hi : us[i]? = some v) (hne : v.ts ≠ []) {g : Nat} (hg : v.a = some ⟨g, 0, none⟩) : FootS A us g := by
  have h0 : us ≠ [] := fun e => by rw [e] at hi; simp at hi
  rcases h.row.2 with ⟨_, e⟩ | ⟨G, cap, cr, e, _⟩
  · exact absurd (List.length_eq_zero_iff.1 e) h0
  · injection e with e _ _
    exact ⟨h0, G, e, .inr ⟨i, v, hi, hne, hg⟩⟩
/-- One node of a row of nodes is changed; what turns is its own, or the row's. -/
theorem GRow.set {P : Nat → Prop} {base : Nat} {wr w' : World} {x : Value} {us : List Nd} {k : Nat} {n n' : Nd} (h : GRow base wr x us) (hk : us[k]? = some n) (ht : Turn P wr w') (hrow : w'.ownsRow base 37 2 x us.length (flatN (us.set k n')))
    (hs : ResS w' base w'.heap.size n'.sa n'.ss) (hc : CRow base w' (.slice n'.wa n'.ws.length n'.wc) n'.ws) (h2 : ∀ g, FootS n'.sa n'.ss g → ¬ FootW n' g)
    (hP : ∀ g, P g → FootO n g ∨ x.ownBlock = some g) (hf : ∀ g, FootO n' g → FootO n g ∨ wr.heap.size ≤ g) : GRow base w' x (us.set k n') := by
  have hkl := (List.getElem?_eq_some_iff.1 hk).1
  have key : ∀ (i : Nat) y, (us.set k n')[i]? = some y → (i = k ∧ y = n') ∨ (i ≠ k ∧ us[i]? = some y) := by
    intro i y hy
    by_cases e : i = k
    · subst e
      rw [List.getElem?_set_self hkl] at hy
      injection hy with hy
      exact .inl ⟨rfl, hy.symm⟩
    · rw [List.getElem?_set_ne (fun e' => e e'.symm)] at hy
      exact .inr ⟨e, hy⟩
  have hno : ∀ (i : Nat) y, i ≠ k → us[i]? = some y → ∀ g, FootO y g → P g → x.ownBlock = some g := fun i y hne hy g hg hp => by
    rcases hP g hp with q | q
    · exact absurd q (h.apart i k y n hne hy hk g hg)
    · exact q
  have hkR : ∀ {B U : Nat} {A : Option Addr} {l : List V} {g : Nat}, ResS wr B U A l → FootS A l g → ¬ x.ownBlock = some g := fun hr hf e => by
    obtain ⟨cs, h1, _⟩ := h.typed _ e
    obtain ⟨T, cs', h3, h4, _⟩ := hr.typed hf
    exact h4 (blk_one h3 h1)
  refine ⟨by rw [List.length_set]; exact hrow, fun i y hy => ?_, fun i y hy => ?_, fun i y hy => ?_, fun i j y y' hne hy hy' => ?_, Nat.le_trans h.lo ht.size, fun i y hy => ?_⟩
  · rcases key i y hy with ⟨_, rfl⟩ | ⟨e, hq⟩
    · exact hs
    · exact ((h.store i y hq).turnF ht (fun g hg hp => hkR (h.store i y hq) hg (hno i y e hq g (.inl hg) hp))).wide ht.size
  · rcases key i y hy with ⟨_, rfl⟩ | ⟨e, hq⟩
    · obtain ⟨A, cap, e, hR⟩ := hc.resS
      injection e with e _ _
      rw [e]
      exact hR
    · exact ((h.wait i y hq).turnF ht (fun g hg hp => hkR (h.wait i y hq) hg (hno i y e hq g (.inr (.inl hg)) hp))).wide ht.size
  · rcases key i y hy with ⟨_, rfl⟩ | ⟨e, hq⟩
    · exact h2
    · exact h.two i y hq
  · intro g h3 h4
    rcases key i y hy with ⟨e1, rfl⟩ | ⟨e1, hq⟩ <;> rcases key j y' hy' with ⟨e2, rfl⟩ | ⟨e2, hq'⟩
    · omega
    · rcases hf g h3 with q | q
      · exact h.apart k j n y' (fun e => e2 e.symm) hk hq' g q h4
      · have := h.foot hq' h4; omega
    · rcases hf g h4 with q | q
      · exact h.apart k i n y (fun e => e1 e.symm) hk hq g q h3
      · have := h.foot hq h3; omega
    · exact h.apart i j y y' hne hq hq' g h3 h4
  · rcases key i y hy with ⟨_, rfl⟩ | ⟨e, hq⟩
    · exact hc
    · refine (h.own i y hq).turned ht (fun g hg hp => ?_) (fun l v hl g hg _ hne hp => ?_)
      · have e1 := hno i y e hq g (.inr (.inr hg)) hp
        obtain ⟨cs, b1, _⟩ := h.typed g e1
        obtain ⟨cs', b2, _⟩ := (h.own i y hq).typed g hg
        exact node_ne_ver (blk_one b1 b2)
      · have hft := (h.own i y hq).tagFoot hl hne hg
        exact hkR (h.wait i y hq) hft (hno i y e hq g (.inr (.inl hft)) hp)
end Go.Proofs.YtjnloillcgeodaaGreat
/- What ChainPut answers, said plainly; contracts of whether there is room, in the program and in the model. -/
namespace Go.Proofs.YtjnloillcgeodaaGreat
open Go.RowKit Go.Joins
attribute [local go_sem ↓] Go.wp_at_zero Go.wp_at_succ

/-- Whether there is room for one more at the head. -/
def roomB (ns : List Nd) : Bool := match ns[0]? with | some n => decide (n.ws.length < 6) | none => false
/-- What ChainPut answers. -/
def putN (ns : List Nd) (v : V) : List Nd := if chainB ns = true ∧ verV v = true then (if roomB ns = true then addN ns 0 v else ns) else []
def putK (ns : List Nd) (v : V) : Bool := chainB ns && verV v && roomB ns
set_option maxHeartbeats 1000000 in
theorem l3Room_any (G c nl : Nat) (ns : List Nd) (cur : Array Value) (n : Nd) (w : World) (hC : Cg w G ns cur) (hn : ns[0]? = some n) (hl : 0 < nl) :
    Calls Tryz.prog 86 #[.agg #[.slice (some ⟨G, 0, none⟩) nl c]] w fun e w' => e = .returned (.bool (decide (n.ws.length < 6))) ∧ Below w.heap.size w w' := by
  have L0 := below_alloc1 w (.cells #[.slice (some ⟨G, 0, none⟩) nl c] 25)
  have HC := hC.on L0
  have n1 := (HC.blk.at (0 * 2 + 1)).trans (HC.at' 0 n hn).2
  simp only [Nat.zero_mul, Nat.zero_add] at n1
  have i2 : (0 : Int) < (nl : Int) := by omega
  clear hC HC
  by_cases h6 : n.ws.length < 6
  · have z6 : (n.ws.length : Int) < 6 := by omega
    rw [decide_eq_true h6]
    clear h6
    go_enter Tryz.func86, Tryz.ntmps86
    go_wp2
    go_ret
    exact ⟨rfl, L0⟩
  · have z6 : ¬ ((n.ws.length : Int) < 6) := by omega
    rw [decide_eq_false h6]
    clear h6
    go_enter Tryz.func86, Tryz.ntmps86
    go_wp2
    go_ret
    exact ⟨rfl, L0⟩
end Go.Proofs.YtjnloillcgeodaaGreat
/- One node of a row of nodes: a version put into its store, a version more that waits. No condition. -/
namespace Go.Proofs.YtjnloillcgeodaaGreat
open Go.RowKit Go.Joins

/-- A store of what stands there already. -/
theorem below_same {w : World} {g i : Nat} {T : TypeId} {cs : Array Value} {u : Value} (hb : Blk w g T cs) (hc : cs[i]? = some u) : Below w.heap.size w (w.setCell ⟨g, i, none⟩ u) := by
  have h1 := hb.put i u
  have e : cs.setIfInBounds i u = cs := by
    apply Array.ext_getElem?
    intro j
    rw [Array.getElem?_setIfInBounds]
    split
    · rename_i e
      subst e
      rw [hc]
      have hl := (Array.getElem?_eq_some_iff.1 hc).1
      simp [hl]
    · rfl
  rw [e] at h1
  refine ⟨rfl, rfl, rfl, by simp [World.setCell], fun k hk => ?_⟩
  by_cases ek : k = g
  · subst ek
    exact Eq.trans h1 (Eq.symm hb)
  · exact Below.heap_setCell w _ u k ek
theorem flatN_set : ∀ {us : List Nd} {k : Nat} {n n' : Nd}, us[k]? = some n → cellsN n' = cellsN n → flatN (us.set k n') = flatN us
  | [], k, n, n', h, _ => by simp at h
  | x :: r, 0, n, n', h, hc => by
    simp at h
    subst h
    simp [flatN, hc]
  | x :: r, k + 1, n, n', h, hc => by
    have := flatN_set (us := r) (k := k) (n := n) (n' := n') (by simpa using h) hc
    simp only [flatN, List.set_cons_succ, List.flatMap_cons] at *
    rw [this]
/-- A version put into the store of a node. -/
theorem GRow.setStore {base : Nat} {wr w' : World} {x : Value} {Gs k kn : Nat} {us : List Nd} {n : Nd} {v' : V} {cur' : Array Value} (h : GRow base wr x us) (hk : us[k]? = some n) (hsa : n.sa = some ⟨Gs, 0, none⟩) (hne : n.ss ≠ [])
    (hv : Own1 w' wr.heap.size w'.heap.size v') (hO : ORow w' base w'.heap.size Gs (n.ss.set kn v') cur') (ht : Turn (fun g => g = Gs) wr w') : GRow base w' x (us.set k ⟨n.sa, n.sc, n.ss.set kn v', n.wa, n.wc, n.ws⟩) := by
  have hGs : FootS n.sa n.ss Gs := ⟨hne, Gs, hsa, .inl rfl⟩
  have hfoot : ∀ g, FootS n.sa (n.ss.set kn v') g → FootS n.sa n.ss g ∨ wr.heap.size ≤ g := fun g hg => by
    obtain ⟨_, G', e, hf⟩ := hg
    rw [hsa] at e
    injection e with e
    injection e with e
    subst e
    rcases hf with rfl | ⟨i, y, hi, hn, ha⟩
    · exact .inl hGs
    · by_cases e : i = kn
      · subst e
        have hl := (List.getElem?_eq_some_iff.1 hi).1
        rw [List.length_set] at hl
        rw [List.getElem?_set_self hl] at hi
        injection hi with hi
        subst hi
        rcases hv with q | ⟨g', _, e1, q1, _⟩
        · exact absurd q hn
        · rw [ha] at e1
          injection e1 with e1
          injection e1 with e1
          exact .inr (by omega)
      · rw [List.getElem?_set_ne (fun e' => e e'.symm)] at hi
        exact .inl ⟨hne, Gs, hsa, .inr ⟨i, y, hi, hn, ha⟩⟩
  refine h.set hk ht ?_ (.inr ⟨Gs, cur', hsa, hO⟩) ?_ (fun g h1 h2 => ?_) (fun g e => .inl (.inl (e ▸ hGs))) (fun g hg => ?_)
  · rw [flatN_set hk (by simp [cellsN])]
    refine ⟨h.row.1, ?_⟩
    rcases h.row.2 with q | ⟨g, cap, cr, h1, h2, h3, h4⟩
    · exact .inl q
    · refine .inr ⟨g, cap, cr, h1, h2, Blk.turned (show Blk wr g 37 cr from h3) ht (fun e => ?_), h4⟩
      obtain ⟨T, cs, b1, b2, _⟩ := (h.store k n hk).typed hGs
      subst e
      exact b2 (blk_one b1 (show Blk wr g 37 cr from h3))
  · exact (h.own k n hk).turned ht (fun g hg e => h.two k n hk Gs hGs (e ▸ .inr hg)) (fun i y hi g hg _ hn e => h.two k n hk Gs hGs (e ▸ .inl ((h.own k n hk).tagFoot hi hn hg)))
  · rcases hfoot g h1 with q | q
    · exact h.two k n hk g q h2
    · have := h.foot hk (g := g) (.inr h2)
      omega
  · rcases hg with hg | hg
    · rcases hfoot g hg with q | q
      · exact .inl (.inl q)
      · exact .inr q
    · exact .inl (.inr hg)
theorem flatN_set2 : ∀ {us : List Nd} {k : Nat} {n n' : Nd} {u : Value}, us[k]? = some n → cellsN n' = (cellsN n).set 1 u → flatN (us.set k n') = (flatN us).set (k * 2 + 1) u
  | [], k, n, n', u, h, _ => by simp at h
  | x :: r, 0, n, n', u, h, hc => by
    simp at h
    subst h
    simp only [flatN, List.set_cons_zero, List.flatMap_cons, hc, Nat.zero_mul, Nat.zero_add]
    rw [List.set_append_left _ _ (by simp [cellsN])]
  | x :: r, k + 1, n, n', u, h, hc => by
    have ih := flatN_set2 (us := r) (k := k) (n := n) (n' := n') (u := u) (by simpa using h) hc
    have e : flatN (x :: r) = cellsN x ++ flatN r := by simp [flatN]
    have e' : flatN ((x :: r).set (k + 1) n') = cellsN x ++ flatN (r.set k n') := by simp [flatN]
    have l2 : (cellsN x).length = 2 := rfl
    rw [e, e', ih, List.set_append_right _ _ (by omega), l2]
    congr 2
    omega
/-- One version more waits at a node. -/
theorem GRow.setWait {base : Nat} {wr w1 w2 : World} {G xc k g cap : Nat} {us : List Nd} {n : Nd} {v' : V} (h : GRow base wr (.slice (some ⟨G, 0, none⟩) us.length xc) us) (hk : us[k]? = some n) (hb : Below wr.heap.size wr w1) (hv : Own1 w1 wr.heap.size w1.heap.size v')
    (hown : w2.ownsRow base 51 6 (.slice (some ⟨g, 0, none⟩) (n.ws.length + 1) cap) (n.ws.length + 1) (flat6 n.ws ++ cells6 v')) (hg : w1.grownBy w2 (Value.slice n.wa n.ws.length n.wc).ownBlock) (hat : (Value.slice n.wa n.ws.length n.wc).ownBlock = some g ∨ wr.heap.size ≤ g) :
    GRow base (w2.setCell ⟨G, k * 2 + 1, none⟩ (.slice (some ⟨g, 0, none⟩) (n.ws.length + 1) cap)) (.slice (some ⟨G, 0, none⟩) us.length xc) (us.set k ⟨n.sa, n.sc, n.ss, some ⟨g, 0, none⟩, cap, n.ws ++ [v']⟩) := by
  have hC2 := (h.own k n hk).push hb (Nat.le_refl _) hv hown hg
  have hT1 : Turn (fun y => (Value.slice n.wa n.ws.length n.wc).ownBlock = some y ∨ y = G) wr w2 := (Turn.below hb).trans (Turn.of hg (fun y e => .inl e))
  have hT := hT1.set (p := ⟨G, k * 2 + 1, none⟩) (.inr rfl) (.slice (some ⟨g, 0, none⟩) (n.ws.length + 1) cap)
  have hGo : ∀ y, (Value.slice n.wa n.ws.length n.wc).ownBlock = some y → y ≠ G := fun y e e' => by
    subst e'
    obtain ⟨cs, b1, _⟩ := (h.own k n hk).typed y e
    obtain ⟨cs', b2, _⟩ := h.typed y rfl
    exact node_ne_ver (blk_one b2 b1)
  have hfw : ∀ y, FootW ⟨n.sa, n.sc, n.ss, some ⟨g, 0, none⟩, cap, n.ws ++ [v']⟩ y → FootW n y ∨ wr.heap.size ≤ y := fun y hy => by
    have hgg : FootW n g ∨ wr.heap.size ≤ g := hat.elim (fun q => .inl (.inr q)) .inr
    rcases hy with ⟨_, G', e, hf⟩ | e
    · injection e with e
      injection e with e
      subst e
      rcases hf with rfl | ⟨i, z, hi, hn, ha⟩
      · exact hgg
      · rcases snoc_get rfl i z hi with ⟨_, rfl⟩ | ⟨_, hq⟩
        · rcases hv with q | ⟨g', _, e1, q1, _⟩
          · exact absurd q hn
          · rw [ha] at e1
            injection e1 with e1
            injection e1 with e1
            exact .inr (by omega)
        · exact .inl (.inl ((h.own k n hk).tagFoot hq hn ha))
    · simp only [Value.ownBlock] at e
      injection e with e
      subst e
      exact hgg
  refine h.set hk hT ?_ ?_ ?_ (fun y h1 h2 => ?_) (fun y e => ?_) (fun y hy => ?_)
  · rw [flatN_set2 hk (u := .slice (some ⟨g, 0, none⟩) (n.ws.length + 1) cap) (by simp [cellsN])]
    refine ⟨by rw [List.length_set]; exact h.row.1, ?_⟩
    rcases h.row.2 with ⟨q, _⟩ | ⟨G', cap', cr, h1, h2, h3, h4, h5, h6, h7⟩
    · cases q
    · injection h1 with h1 _ h1'
      injection h1 with h1
      injection h1 with h1
      subst h1 h1'
      have B2 : Blk w2 G 37 cr := ((show Blk wr G 37 cr from h3).on hb).kept hg (fun e => hGo G e rfl)
      refine .inr ⟨G, xc, _, rfl, h2, B2.put (k * 2 + 1) _, h4, h5, by simpa using h6, ?_⟩
      rw [Array.toList_setIfInBounds, List.take_set, h7]
  · exact ((h.store k n hk).turnF hT (fun y hf hp => by
      rcases hp with hp | hp
      · exact h.two k n hk y hf (.inr hp)
      · obtain ⟨T, cs, b1, b2, _⟩ := (h.store k n hk).typed hf
        obtain ⟨cs', b3, _⟩ := h.typed G rfl
        subst hp
        exact b2 (blk_one b1 b3))).wide hT.size
  · have e1 : (n.ws ++ [v']).length = n.ws.length + 1 := by simp
    simp only [e1]
    exact hC2.turnedT (P := fun y => y = G) ((Turn.refl (fun y => y = G) w2).set (p := ⟨G, k * 2 + 1, none⟩) rfl _) (fun y e => by
      obtain ⟨cs', b3, _⟩ := h.typed G rfl
      subst e
      exact ⟨_, cs', (b3.on hb).kept hg (fun e => hGo y e rfl), node_ne_ver, node_ne_tag⟩)
  · rcases hfw y h2 with q | q
    · exact h.two k n hk y h1 q
    · have := h.foot hk (g := y) (.inl h1)
      omega
  · rcases e with e | e
    · exact .inl (.inr (.inr e))
    · exact .inr (by rw [e]; rfl)
  · rcases hy with hy | hy
    · exact .inl (.inl hy)
    · rcases hfw y hy with q | q
      · exact .inl (.inr q)
      · exact .inr q
end Go.Proofs.YtjnloillcgeodaaGreat
