/- Contracts of PlaceNew, in the program and in the model. No condition. -/
import Derived.Test.YtpkoidbenojkmaaPlaces
namespace Go.Proofs.Ytpkoidbenojkmaa
open Go.RowKit Go.Joins
attribute [local go_sem ↓] Go.wp_at_zero Go.wp_at_succ

/-- A place may have this number, and so many nodes. -/
def okP (me n : Int) : Prop := (0 ≤ me ∧ me ≤ 2) ∧ 1 ≤ n ∧ n ≤ 4
instance (me n : Int) : Decidable (okP me n) := by unfold okP; infer_instance
def plN (me n : Int) : Nat := if okP me n then n.toNat else 0
def plMe (me n : Int) : Int := if okP me n then me else 0
def plG (me n : Int) : Nat := if okP me n then 3 else 0
/-- What PlaceNew leaves. -/
def NewP (w : World) (me n : Int) (e : Ending) (w' : World) : Prop :=
  ∃ (A : Option Addr) (cap : Nat) (gs : List Nat) (ga : Option Addr), e = .returned (.agg (plC (plMe me n) A (plN me n) cap ga (plG me n))) ∧ gs.length = plN me n ∧ ResP w' w.heap.size w'.heap.size A (gs.map nd0) ga (plG me n) ∧ Below w.heap.size w w'
theorem newP_none {w w' : World} {me n : Int} (h : ¬ okP me n) (hb : Below w.heap.size w w') : NewP w me n (.returned (.agg (plC 0 none 0 0 none 0))) w' :=
  ⟨none, 0, [], none, by unfold plMe plN plG; simp only [if_neg h], by unfold plN; rw [if_neg h]; rfl, ⟨w.heap.size, w'.heap.size, Nat.le_refl _, Nat.le_refl _, .inl rfl, .inl (by unfold plG; rw [if_neg h])⟩, hb⟩
theorem blk_aside6 {w : World} {g b : Nat} {T : TypeId} {cs : Array Value} (h : Blk w g T cs) (hg : g ≠ b) (x0 x1 x2 x3 x4 x5 : Value) :
    Blk ((((((w.setCell ⟨b, 0, none⟩ x0).setCell ⟨b, 1, none⟩ x1).setCell ⟨b, 2, none⟩ x2).setCell ⟨b, 3, none⟩ x3).setCell ⟨b, 4, none⟩ x4).setCell ⟨b, 5, none⟩ x5) g T cs :=
  (((((h.aside (p := ⟨b, 0, none⟩) hg _).aside (p := ⟨b, 1, none⟩) hg _).aside (p := ⟨b, 2, none⟩) hg _).aside (p := ⟨b, 3, none⟩) hg _).aside (p := ⟨b, 4, none⟩) hg _).aside (p := ⟨b, 5, none⟩) hg _
theorem turn_set6 (w : World) (b : Nat) (x0 x1 x2 x3 x4 x5 : Value) :
    Turn (fun g => g = b) w ((((((w.setCell ⟨b, 0, none⟩ x0).setCell ⟨b, 1, none⟩ x1).setCell ⟨b, 2, none⟩ x2).setCell ⟨b, 3, none⟩ x3).setCell ⟨b, 4, none⟩ x4).setCell ⟨b, 5, none⟩ x5) :=
  ((((((Turn.refl (fun g => g = b) w).set (p := ⟨b, 0, none⟩) rfl _).set (p := ⟨b, 1, none⟩) rfl _).set (p := ⟨b, 2, none⟩) rfl _).set (p := ⟨b, 3, none⟩) rfl _).set (p := ⟨b, 4, none⟩) rfl _).set (p := ⟨b, 5, none⟩) rfl _
theorem size_set6 (w : World) (b : Nat) (x0 x1 x2 x3 x4 x5 : Value) :
    ((((((w.setCell ⟨b, 0, none⟩ x0).setCell ⟨b, 1, none⟩ x1).setCell ⟨b, 2, none⟩ x2).setCell ⟨b, 3, none⟩ x3).setCell ⟨b, 4, none⟩ x4).setCell ⟨b, 5, none⟩ x5).heap.size = w.heap.size := by simp [World.setCell]
theorem NewP.drew {w w' : World} {me n : Int} {e : Ending} (h : NewP w me n e w') : NewP w me n e w'.drew := by
  obtain ⟨A, cap, gs, ga, h1, h2, h3, h4⟩ := h
  exact ⟨A, cap, gs, ga, h1, h2, h3.on (Below.refl _ _).drew, h4.drew⟩
theorem ResC.on2 {w w' : World} {B U : Nat} {A : Option Addr} {gs : List Nat} (h : ResC w B U A gs) (hb : Below w.heap.size w w') : ResC w' B U A gs := by
  rcases h with h | ⟨G, cur, h1, h2⟩
  · exact .inl h
  · exact .inr ⟨G, cur, h1, h2.on hb⟩
/-- A place is put into its block behind the making of its parts. -/
theorem newP_some {w w1 : World} {me n : Int} {A : Option Addr} {cap g B U : Nat} {gs : List Nat} (h : okP me n) (hl : gs.length = n.toNat) (hR : ResC w1 B U A gs) (hB : w.heap.size < B) (hU : U ≤ w1.heap.size)
    (hg : Blk w1 g 25 nil3) (hg0 : w.heap.size < g) (hg1 : g < B ∨ U ≤ g) (hb : Below w.heap.size w w1) (x0 x1 x2 x3 x4 x5 : Value) :
    NewP w me n (.returned (.agg (plC me A n.toNat cap (some ⟨g, 0, none⟩) 3))) ((((((w1.setCell ⟨w.heap.size, 0, none⟩ x0).setCell ⟨w.heap.size, 1, none⟩ x1).setCell ⟨w.heap.size, 2, none⟩ x2).setCell ⟨w.heap.size, 3, none⟩ x3).setCell ⟨w.heap.size, 4, none⟩ x4).setCell ⟨w.heap.size, 5, none⟩ x5) := by
  have z := size_set6 w1 w.heap.size x0 x1 x2 x3 x4 x5
  refine ⟨A, cap, gs, some ⟨g, 0, none⟩, by unfold plMe plN plG; simp only [if_pos h], by unfold plN; rw [if_pos h]; exact hl, ?_, below_set6 hb (Nat.le_refl _) _ _ _ _ _ _⟩
  rw [z]
  refine ⟨B, U, by omega, hU, hR.n.turn (turn_set6 w1 w.heap.size x0 x1 x2 x3 x4 x5) (fun q a b => by omega), .inr ⟨by unfold plG; rw [if_pos h], g, rfl, blk_aside6 hg (by omega) _ _ _ _ _ _, by omega, hg.inside, hg1⟩⟩

set_option maxRecDepth 100000 in
set_option maxHeartbeats 4000000 in
theorem implPlaceNew_any (me n : Int) (w : World) : Calls Try.prog 6 #[.int .i64 me, .int .i64 n] w (NewP w me n) := by
  have hmk : ∀ W : World, (Instr.makeSlice 26 (.int .i64 3) (.int .i64 3)).run Try.prog W = .ok (.slice (some ⟨W.heap.size, 0, none⟩) 3 3) (W.alloc (.cells nil3 25)) := fun _ => by kernel_rfl
  have S0 := (Inv.start w).box 28 (plC 0 none 0 0 none 0)
  have V0 := Blk.made w 28 (plC 0 none 0 0 none 0)
  simp only [World.size_alloc] at S0
  go_enter Try.func6, Try.ntmps6
  go_wp2_with fail
  refine (implChainNew_any n _).mono ?_
  rintro e w1 ⟨A, cap, gs, rfl, hl, hR, hb⟩
  simp only [World.size_alloc] at hR
  have S1 := S0.on hb
  have V1 := (V0.on hb).more (.cells #[.slice A (chN n) cap] 24)
  have q1 := V1.six
  have z1 := hb.size
  simp only [World.size_alloc] at z1
  have HB := hide (S1.below.trans ((below_alloc1 w1 (.cells #[.slice A (chN n) cap] 24)).mono S1.base))
  have C1 := Blk.made w1 24 #[.slice A (chN n) cap]
  have HR := hide hR
  have HL := hide hl
  clear hR hl hb S0 V0 S1
  generalize hmm : chN n = m at *
  have HMM := hide hmm
  clear hmm
  by_cases h1 : me < 0
  · have HN : Hid (¬ okP me n) := by unfold Hid okP; omega
    go_wp2
    refine bodyPost_ret (v := .agg (plC 0 none 0 0 none 0)) (by simp [results, Try.results6, go_sem, q1]) rfl ?_
    exact newP_none HN.out (below_set6 HB.out (Nat.le_refl _) _ _ _ _ _ _)
  · by_cases h2 : me ≥ 3
    · have HN : Hid (¬ okP me n) := by unfold Hid okP; omega
      go_wp2
      refine bodyPost_ret (v := .agg (plC 0 none 0 0 none 0)) (by simp [results, Try.results6, go_sem, q1]) rfl ?_
      exact newP_none HN.out (below_set6 HB.out (Nat.le_refl _) _ _ _ _ _ _)
    · by_cases h3 : 1 ≤ n ∧ n ≤ 4
      rotate_left
      · have HN : Hid (¬ okP me n) := by unfold Hid okP; omega
        obtain rfl : m = 0 := by rw [← HMM.out]; unfold chN; rw [if_neg h3]
        go_wp2
        refine bodyPost_ret (v := .agg (plC 0 none 0 0 none 0)) (by simp [results, Try.results6, go_sem, q1]) rfl ?_
        exact newP_none HN.out (below_set6 HB.out (Nat.le_refl _) _ _ _ _ _ _)
      · have HN : Hid (okP me n) := by unfold Hid okP; omega
        have HM : Hid (m = n.toNat) := by rw [← HMM.out]; unfold chN Hid; rw [if_pos h3]
        have hmp : 1 ≤ m := by have := HM.out; omega
        have hne : ((m : Int) == 0) = false := by simp; omega
        have h22 : ¬ (3 ≤ me) := by omega
        have hne2 : m ≠ 0 := by omega
        go_wp2_with fail
        refine wp_region_noPanic ?_
        refine wp_region_held_drew (S := (fun w' => w'.cell? ⟨w1.heap.size, 0, none⟩ = some (.slice A m cap) ∧ Blk w' w1.heap.size 24 #[.slice A m cap] ∧ Below w.heap.size w w')) (by kernel_rfl) (by exact ⟨C1.one.1, C1.drew, HB.out.drew⟩) (fun hHeld => ?_)
        refine take_run 0 (some 21) (v := ?_) rfl rfl (by kernel_rfl) (by kernel_rfl) (by kernel_rfl) (fun _ _ _ h => h) (by rfl) ?_ hHeld ?_
        rotate_left
        · ((intro w hSw); (try dsimp only at hSw); go_simp <;> with_reducible rfl)
        simp only [Act.put, List.setIfInBounds_toArray, List.set_cons_zero, List.set_cons_succ]
        refine take_run 1 (some 22) (v := ?_) rfl rfl (by kernel_rfl) (by kernel_rfl) (by kernel_rfl) (fun _ _ _ h => h) (by rfl) ?_ hHeld ?_
        rotate_left
        · ((intro w hSw); (try dsimp only at hSw); go_simp <;> with_reducible rfl)
        simp only [Act.put, List.setIfInBounds_toArray, List.set_cons_zero, List.set_cons_succ]
        refine take_one 2 (by kernel_rfl) rfl (fun K hK => ?_)
        go_simp
        (have V2 := (V1.more (.cells nil3 25)).drew; have q2 := V2.six; have q3 := (V1.more (.cells nil3 25)).six; have C2 := hide (C1.more (.cells nil3 25)); have B2 := hide (HB.out.trans ((below_alloc1 _ (.cells nil3 25)).mono HB.out.size)))
        try go_wp2_with fail
        refine hK.out _ _ (by exact ⟨(hHeld.2.1.more _).one.1, hHeld.2.1.more _, hHeld.2.2.trans ((below_alloc1 _ _).mono hHeld.2.2.size)⟩) (fun hHeld => ?_)
        clear hK K
        refine take_run 3 (some 24) (v := ?_) rfl rfl (by kernel_rfl) (by kernel_rfl) (by kernel_rfl) (fun _ _ _ h => h) (by rfl) ?_ hHeld ?_
        rotate_left
        · ((intro w hSw); (try dsimp only at hSw); go_simp <;> with_reducible rfl)
        simp only [Act.put, List.setIfInBounds_toArray, List.set_cons_zero, List.set_cons_succ]
        refine take_one 4 (by kernel_rfl) rfl (fun K hK => ?_)
        go_simp
        refine hK.out _ _ (by exact ⟨((blk_aside6 C2.out (by omega) _ _ _ _ _ _).drew).one.1, (blk_aside6 C2.out (by omega) _ _ _ _ _ _).drew, (below_set6 B2.out (Nat.le_refl _) _ _ _ _ _ _).drew⟩) (fun hHeld => ?_)
        clear hK K
        refine wpAnyH_done (by kernel_rfl) ?_ _
        refine NoPanic.normal ?_
        clear hHeld
        go_wp2
        refine bodyPost_ret (v := .agg (plC me A m cap (some ⟨w1.heap.size + 1, 0, none⟩) 3)) (by simp [results, Try.results6, go_sem, q3]) rfl ?_
        have F := newP_some (cap := cap) (w := w) (me := me) HN.out (HL.out.trans HM.out) (HR.out.on2 ((below_alloc1 w1 (.cells #[.slice A m cap] 24)).trans ((below_alloc1 _ (.cells nil3 25)).mono (by simp)))) (by omega) (by simp; omega) (Blk.made (w1.alloc (.cells #[.slice A m cap] 24)) 25 nil3) (by simp; omega) (.inr (by simp)) B2.out (.int .i64 me) (.int .i64 0) (.slice A m cap) (.slice none 0 0) (.slice (some ⟨w1.heap.size + 1, 0, none⟩) 3 3) (.bool false)
        rw [← HM.out] at F
        simp only [World.size_alloc] at F
        exact F.drew
set_option maxRecDepth 100000 in
set_option maxHeartbeats 4000000 in
theorem l4New_any (me n : Int) (w : World) (h : okP me n) : Calls Try.prog 16 #[.int .i64 me, .int .i64 n] w (NewP w me n) := by
  have hmk : ∀ W : World, (Instr.makeSlice 26 (.int .i64 3) (.int .i64 3)).run Try.prog W = .ok (.slice (some ⟨W.heap.size, 0, none⟩) 3 3) (W.alloc (.cells nil3 25)) := fun _ => by kernel_rfl
  have HN := hide h
  have V0 := Blk.made w 28 (plC 0 none 0 0 none 0)
  have V1 := hide V0.drew
  have V2 := hide (V0.more (.cells nil3 25)).drew
  have G2 := hide (Blk.made (w.alloc (.cells (plC 0 none 0 0 none 0) 28)) 25 nil3).drew
  simp only [World.size_alloc] at G2
  have HM : Hid (chN n = n.toNat) := by unfold chN Hid; rw [if_pos (by unfold okP at h; omega)]
  clear h
  generalize hmm : chN n = m at *
  have HMM := hide hmm
  clear hmm
  go_enter Try.func16, Try.ntmps16
  go_wp2_with fail
  refine wp_region_noPanic ?_
  refine wp_region_held_drew (S := (fun w' => Below w.heap.size w w')) (by kernel_rfl) (by exact (below_alloc1 _ _).drew) (fun hHeld => ?_)
  refine take_run 0 (some 5) (v := ?_) rfl rfl (by kernel_rfl) (by kernel_rfl) (by kernel_rfl) (fun _ _ _ h => h) (by rfl) ?_ hHeld ?_
  rotate_left
  · ((intro w hSw); (try dsimp only at hSw); go_simp <;> with_reducible rfl)
  simp only [Act.put, List.setIfInBounds_toArray, List.set_cons_zero, List.set_cons_succ]
  refine take_run 1 (some 6) (v := ?_) rfl rfl (by kernel_rfl) (by kernel_rfl) (by kernel_rfl) (fun _ _ _ h => h) (by rfl) ?_ hHeld ?_
  rotate_left
  · ((intro w hSw); (try dsimp only at hSw); go_simp <;> with_reducible rfl)
  simp only [Act.put, List.setIfInBounds_toArray, List.set_cons_zero, List.set_cons_succ]
  refine wpAnyH_ready (rs := [2, 3]) (by kernel_rfl) (by simp) ?_
  refine AllReadyH.cons rfl (fun K hK => ?_) (AllReadyH.cons rfl (fun K hK => ?_) AllReadyH.nil)
  · skip
    go_simp
    (refine (specChainNew_any n _).mono ?_; rintro e w1 ⟨A, cap, gs, rfl, hl, hR, hb⟩; rw [HMM.out] at hl ⊢; have z1 : w.heap.size + 1 ≤ w1.heap.size := (by have := hb.size; simp at this; omega); (first | (have VC := hide (V1.out.on hb); have RC := hide (show ResC w1 (w.heap.size + 1) w1.heap.size A gs by simpa using hR)) | (have VC := hide (V2.out.on hb); have GC := hide (G2.out.on hb); have RC := hide (show ResC w1 (w.heap.size + 1 + 1) w1.heap.size A gs by simpa using hR))); have q2 := VC.out.six; have HL := hide hl; have HB := hide hb; clear hR hl hb)
    try go_wp2_with fail
    refine hK.out _ _ (by exact hHeld.trans (HB.out.mono hHeld.size)) (fun hHeld => ?_)
    clear hK K
    refine take_one 3 (by kernel_rfl) rfl (fun K hK => ?_)
    go_simp
    (try have q3 := (VC.out.more (.cells nil3 25)).six)
    try go_wp2_with fail
    refine hK.out _ _ (by exact hHeld.trans ((below_alloc1 _ _).mono hHeld.size)) (fun hHeld => ?_)
    clear hK K
    refine take_run 4 (some 9) (v := ?_) rfl rfl (by kernel_rfl) (by kernel_rfl) (by kernel_rfl) (fun _ _ _ h => h) (by rfl) ?_ hHeld ?_
    rotate_left
    · ((intro w hSw); (try dsimp only at hSw); go_simp <;> with_reducible rfl)
    simp only [Act.put, List.setIfInBounds_toArray, List.set_cons_zero, List.set_cons_succ]
    refine take_one 5 (by kernel_rfl) rfl (fun K hK => ?_)
    go_simp
    (have B9 := hide hHeld)
    try go_wp2_with fail
    refine hK.out _ _ (by exact below_set6 B9.out (Nat.le_refl _) _ _ _ _ _ _) (fun hHeld => ?_)
    clear hK K
    refine wpAnyH_done (by kernel_rfl) ?_ _
    refine NoPanic.normal ?_
    clear hHeld
    go_wp2
    first | (refine bodyPost_ret (v := .agg (plC me A m cap (some ⟨w1.heap.size, 0, none⟩) 3)) (by simp [results, Try.results16, go_sem, q3]) rfl ?_; have F := newP_some (cap := cap) (w := w) (me := me) HN.out (HL.out.trans HM.out) (RC.out.on2 (below_alloc1 w1 (.cells nil3 25))) (by omega) (by simp) (Blk.made w1 25 nil3) (by omega) (.inr (by omega)) B9.out (.int .i64 me) (.int .i64 0) (.slice A m cap) (.slice none 0 0) (.slice (some ⟨w1.heap.size, 0, none⟩) 3 3) (.bool false); rw [← HM.out] at F; exact F) | (refine bodyPost_ret (v := .agg (plC me A m cap (some ⟨w.heap.size + 1, 0, none⟩) 3)) (by simp [results, Try.results16, go_sem, q2]) rfl ?_; have F := newP_some (cap := cap) (w := w) (me := me) HN.out (HL.out.trans HM.out) RC.out (by omega) (by omega) GC.out (by omega) (.inl (by omega)) B9.out (.int .i64 me) (.int .i64 0) (.slice A m cap) (.slice none 0 0) (.slice (some ⟨w.heap.size + 1, 0, none⟩) 3 3) (.bool false); rw [← HM.out] at F; exact F)
  · skip
    go_simp
    (try have q3 := (VC.out.more (.cells nil3 25)).six)
    try go_wp2_with fail
    refine hK.out _ _ (by exact hHeld.trans ((below_alloc1 _ _).mono hHeld.size)) (fun hHeld => ?_)
    clear hK K
    refine take_one 2 (by kernel_rfl) rfl (fun K hK => ?_)
    go_simp
    (refine (specChainNew_any n _).mono ?_; rintro e w1 ⟨A, cap, gs, rfl, hl, hR, hb⟩; rw [HMM.out] at hl ⊢; have z1 : w.heap.size + 1 ≤ w1.heap.size := (by have := hb.size; simp at this; omega); (first | (have VC := hide (V1.out.on hb); have RC := hide (show ResC w1 (w.heap.size + 1) w1.heap.size A gs by simpa using hR)) | (have VC := hide (V2.out.on hb); have GC := hide (G2.out.on hb); have RC := hide (show ResC w1 (w.heap.size + 1 + 1) w1.heap.size A gs by simpa using hR))); have q2 := VC.out.six; have HL := hide hl; have HB := hide hb; clear hR hl hb)
    try go_wp2_with fail
    refine hK.out _ _ (by exact hHeld.trans (HB.out.mono hHeld.size)) (fun hHeld => ?_)
    clear hK K
    refine take_run 4 (some 9) (v := ?_) rfl rfl (by kernel_rfl) (by kernel_rfl) (by kernel_rfl) (fun _ _ _ h => h) (by rfl) ?_ hHeld ?_
    rotate_left
    · ((intro w hSw); (try dsimp only at hSw); go_simp <;> with_reducible rfl)
    simp only [Act.put, List.setIfInBounds_toArray, List.set_cons_zero, List.set_cons_succ]
    refine take_one 5 (by kernel_rfl) rfl (fun K hK => ?_)
    go_simp
    (have B9 := hide hHeld)
    try go_wp2_with fail
    refine hK.out _ _ (by exact below_set6 B9.out (Nat.le_refl _) _ _ _ _ _ _) (fun hHeld => ?_)
    clear hK K
    refine wpAnyH_done (by kernel_rfl) ?_ _
    refine NoPanic.normal ?_
    clear hHeld
    go_wp2
    first | (refine bodyPost_ret (v := .agg (plC me A m cap (some ⟨w1.heap.size, 0, none⟩) 3)) (by simp [results, Try.results16, go_sem, q3]) rfl ?_; have F := newP_some (cap := cap) (w := w) (me := me) HN.out (HL.out.trans HM.out) (RC.out.on2 (below_alloc1 w1 (.cells nil3 25))) (by omega) (by simp) (Blk.made w1 25 nil3) (by omega) (.inr (by omega)) B9.out (.int .i64 me) (.int .i64 0) (.slice A m cap) (.slice none 0 0) (.slice (some ⟨w1.heap.size, 0, none⟩) 3 3) (.bool false); rw [← HM.out] at F; exact F) | (refine bodyPost_ret (v := .agg (plC me A m cap (some ⟨w.heap.size + 1, 0, none⟩) 3)) (by simp [results, Try.results16, go_sem, q2]) rfl ?_; have F := newP_some (cap := cap) (w := w) (me := me) HN.out (HL.out.trans HM.out) RC.out (by omega) (by omega) GC.out (by omega) (.inl (by omega)) B9.out (.int .i64 me) (.int .i64 0) (.slice A m cap) (.slice none 0 0) (.slice (some ⟨w.heap.size + 1, 0, none⟩) 3 3) (.bool false); rw [← HM.out] at F; exact F)
set_option maxHeartbeats 4000000 in
theorem specPlaceNew_any (me n : Int) (w : World) : Calls Try.prog 5 #[.int .i64 me, .int .i64 n] w (NewP w me n) := by
  have S0 := (Inv.start w).box 28 (plC 0 none 0 0 none 0)
  simp only [World.size_alloc] at S0
  have q0 := (S0.nth 0 rfl).six
  by_cases h1 : 0 ≤ me ∧ me ≤ 2
  rotate_left
  · have HN : Hid (¬ okP me n) := by unfold Hid okP; omega
    have HD := hide (decide_eq_false h1)
    go_enter Try.func5, Try.ntmps5
    go_wp2_with fail
    refine (l1In_any me 0 2 _).mono ?_
    rw [HD.out]
    rintro e w1 ⟨rfl, rfl⟩
    go_wp2
    refine bodyPost_ret (v := .agg (plC 0 none 0 0 none 0)) (by simp [results, Try.results5, go_sem]) rfl ?_
    exact newP_none HN.out S0.below
  · by_cases h2 : 1 ≤ n ∧ n ≤ 4
    rotate_left
    · have HN : Hid (¬ okP me n) := by unfold Hid okP; omega
      have HD := hide (decide_eq_true h1)
      have HE := hide (decide_eq_false h2)
      go_enter Try.func5, Try.ntmps5
      go_wp2_with fail
      refine (l1In_any me 0 2 _).mono ?_
      rw [HD.out]
      rintro e w1 ⟨rfl, rfl⟩
      go_wp2_with fail
      refine (l1In_any n 1 4 _).mono ?_
      rw [HE.out]
      rintro e w1 ⟨rfl, rfl⟩
      go_wp2
      refine bodyPost_ret (v := .agg (plC 0 none 0 0 none 0)) (by simp [results, Try.results5, go_sem]) rfl ?_
      exact newP_none HN.out S0.below
    · have HN : Hid (okP me n) := by unfold Hid okP; omega
      have HD := hide (decide_eq_true h1)
      have HE := hide (decide_eq_true h2)
      go_enter Try.func5, Try.ntmps5
      go_wp2_with fail
      refine (l1In_any me 0 2 _).mono ?_
      rw [HD.out]
      rintro e w1 ⟨rfl, rfl⟩
      go_wp2_with fail
      refine (l1In_any n 1 4 _).mono ?_
      rw [HE.out]
      rintro e w1 ⟨rfl, rfl⟩
      go_wp2_with fail
      refine (l4New_any me n _ HN.out).mono ?_
      rintro e w2 ⟨A, cap, gs, ga, rfl, hl, hR, hb⟩
      have S2 := S0.on hb
      have q2 := (S2.nth 0 rfl).six
      have z2 := hb.size
      simp only [World.size_alloc] at hR z2
      have HL := hide hl
      have HR := hide hR
      clear hl hR hb q0 S0
      go_wp2
      refine bodyPost_ret (v := .agg (plC (plMe me n) A (plN me n) cap ga (plG me n))) (by simp [results, Try.results5, go_sem, q2]) rfl ?_
      refine ⟨A, cap, gs, ga, rfl, HL.out, ?_, below_set6 S2.below (Nat.le_refl _) _ _ _ _ _ _⟩
      rw [size_set6]
      exact (HR.out.turn (turn_set6 w2 w.heap.size _ _ _ _ _ _) (fun g a b => by omega)).wide (by omega) (Nat.le_refl _)
end Go.Proofs.Ytpkoidbenojkmaa
