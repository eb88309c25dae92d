/- Contracts of the program's account of a history: what a record does to the views and the writes. Condition: a valid record. -/
import Derived.Test.YtjljaobmeaocjaaHistMaps
import Derived.Test.YtjljaobmeaocjaaFold
import Derived.Test.YtjljaobmeaocjaaGuardImpl
namespace Go.Proofs.Ytjljaobmeaocjaa
open Go.RowKit Go.Joins
attribute [local go_sem ↓] Go.wp_at_zero Go.wp_at_succ

theorem four_len {l : List (Int × Int)} (h : l.length = 4) : ∃ x0 x1 x2 x3 : Int × Int, l = [x0, x1, x2, x3] := by
  match l, h with
  | [x0, x1, x2, x3], _ => exact ⟨x0, x1, x2, x3, rfl⟩
/-- What adding a record leaves: whether it fits; the account behind it; only the two maps may have turned. -/
def Added (w : World) (b1 b2 N : Nat) (st : St) (d : D) (e : Ending) (w' : World) : Prop :=
  ∃ row : Option Nat, e = .returned (.bool (stepH st d).isSome) ∧ VM w' b1 (N + 1) ((stepH st d).getD st) ∧ WM w' b2 (N + 1) ((stepH st d).getD st) ∧ w.grownBy w' row ∧ ∀ g, row = some g → g = b1 ∨ g = b2
theorem added_none {w w' : World} {b1 b2 N : Nat} {st : St} {d : D} (hs : stepH st d = none) (hV : VM w b1 N st) (hW : WM w b2 N st) (hb : Below w.heap.size w w') : Added w b1 b2 N st d (.returned (.bool false)) w' :=
  ⟨none, by rw [hs]; rfl, by rw [hs]; exact (hV.on hb).mono (by omega), by rw [hs]; exact (hW.on hb).mono (by omega), grown_none hb, by simp⟩
theorem late_lt {v : T4} {t : Int} (ht : 0 < t) : lateB v t = true ↔ lastT v < t := by
  rw [lastT_lt]
  unfold lateB
  rw [List.all_eq_true]
  simp only [decide_eq_true_eq]
  exact ⟨fun h => ⟨ht, h⟩, fun h => h.2⟩
theorem wrCells_eq (d : D) (p0 p1 p2 p3 : Int × Int) : wrCells (d, [p0, p1, p2, p3]) = #[.int .i64 d.1, .int .i64 d.2.2.1, .int .i64 p0.1, .int .i64 p0.2, .int .i64 p1.1, .int .i64 p1.2, .int .i64 p2.1, .int .i64 p2.2, .int .i64 p3.1, .int .i64 p3.2] := by simp [wrCells, cells4]
theorem Blk.ten {w : World} {g : Nat} {T : TypeId} {a b c d e f h i j k : Value} (hb : Blk w g T #[a, b, c, d, e, f, h, i, j, k]) :
    w.cell? ⟨g, 0, none⟩ = some a ∧ w.cell? ⟨g, 1, none⟩ = some b ∧ w.cell? ⟨g, 2, none⟩ = some c ∧ w.cell? ⟨g, 3, none⟩ = some d ∧ w.cell? ⟨g, 4, none⟩ = some e ∧ w.cell? ⟨g, 5, none⟩ = some f ∧ w.cell? ⟨g, 6, none⟩ = some h ∧ w.cell? ⟨g, 7, none⟩ = some i ∧ w.cell? ⟨g, 8, none⟩ = some j ∧ w.cell? ⟨g, 9, none⟩ = some k :=
  ⟨hb.at 0, hb.at 1, hb.at 2, hb.at 3, hb.at 4, hb.at 5, hb.at 6, hb.at 7, hb.at 8, hb.at 9⟩
theorem step_write_again {st : St} {s y t u : Int} {x : D × T4} (h : wrote st t u = some x) : stepH st (s, 1, y, t, u) = none := by
  unfold stepH
  simp [h]
theorem step_write_early {st : St} {s y t u : Int} (h : wrote st t u = none) (hl : lateB (viewOf st s) t = false) : stepH st (s, 1, y, t, u) = none := by
  unfold stepH
  simp [h, hl]
theorem step_write {st : St} {s y t u : Int} (h : wrote st t u = none) (hl : lateB (viewOf st s) t = true) : stepH st (s, 1, y, t, u) = some (st.1, st.2 ++ [((s, 1, y, t, u), viewOf st s)]) := by
  unfold stepH
  simp [h, hl]

set_option maxRecDepth 100000 in
set_option maxHeartbeats 4000000 in
theorem addWrite_any (b1 b2 N : Nat) (st : St) (s y t u : Int) (w : World) (hok : StOk st) (hv : doneB (s, 1, y, t, u) = true) (hb : b1 ≠ b2) (hN : N < 1000) (hV : VM w b1 N st) (hW : WM w b2 N st) :
    Calls Try.prog 109 #[.agg #[.map (some b1), .map (some b2)], .agg (doneC s 1 y t u)] w (Added w b1 b2 N st (s, 1, y, t, u)) := by
  obtain ⟨x0, x1, x2, x3, hx4⟩ := four_len (viewOf_len hok s)
  have hi := doneB_i hv
  have ht : 0 < t := by omega
  have hto := hi.2.2.2.2.2.2.1
  have HB := hide hb
  have S0 := (((Inv.start w).box 70 #[.map (some b1), .map (some b2)]).box 53 (doneC s 1 y t u)).box 77 #[.int .i64 x0.1, .int .i64 x0.2, .int .i64 x1.1, .int .i64 x1.2, .int .i64 x2.1, .int .i64 x2.2, .int .i64 x3.1, .int .i64 x3.2]
  simp only [World.size_alloc] at S0
  have look1 := (hV.on (((Inv.start w).box 70 #[.map (some b1), .map (some b2)]).box 53 (doneC s 1 y t u)).below).look (s := s) hi.1 hi.2.1
  rw [hx4, cells4_eq] at look1
  have HX4 := hide hx4
  have HV := hide hV
  have HW := hide hW
  cases hwr : wrote st t u with
  | some x =>
    have look2 := (hW.on S0.below).found hto hwr
    obtain ⟨⟨q0, q1, q2, q3, q4⟩, p⟩ := x
    obtain ⟨p0, p1, p2, p3, hp⟩ := four_len (wrote_len hok hwr)
    simp only at hp
    subst hp
    rw [wrCells_eq] at look2
    have HS := hide (step_write_again (s := s) (y := y) hwr)
    have S1 := S0.top.box 82 #[.int .i64 q0, .int .i64 q2, .int .i64 p0.1, .int .i64 p0.2, .int .i64 p1.1, .int .i64 p1.2, .int .i64 p2.1, .int .i64 p2.2, .int .i64 p3.1, .int .i64 p3.2]
    simp only [World.size_alloc] at S1
    clear hx4 hV hW hwr hv hi hto hok hb
    go_enter Try.func109, Try.ntmps109
    go_wp2_with fail
    clear look1 look2
    generalize (((w.alloc (.cells #[.map (some b1), .map (some b2)] 70)).alloc (.cells (doneC s 1 y t u) 53)).alloc (.cells #[.int .i64 x0.1, .int .i64 x0.2, .int .i64 x1.1, .int .i64 x1.2, .int .i64 x2.1, .int .i64 x2.2, .int .i64 x3.1, .int .i64 x3.2] 77)).alloc (.cells #[.int .i64 q0, .int .i64 q2, .int .i64 p0.1, .int .i64 p0.2, .int .i64 p1.1, .int .i64 p1.2, .int .i64 p2.1, .int .i64 p2.2, .int .i64 p3.1, .int .i64 p3.2] 82) = W at S1 ⊢
    refine wp_region_noPanic ?_
    refine wp_region_held_drew (S := (fun w' => Below w.heap.size w w')) (by kernel_rfl) (by exact S1.below.drew) (fun hHeld => ?_)
    refine take_run 0 (some 21) (v := ?_) rfl rfl (by kernel_rfl) (by kernel_rfl) (by kernel_rfl) (fun _ _ _ h => h) (by rfl) ?_ hHeld ?_
    rotate_left
    · ((intro w hSw); (try dsimp only at hSw); go_simp <;> with_reducible rfl)
    simp only [Act.put, List.setIfInBounds_toArray, List.set_cons_zero, List.set_cons_succ]
    refine take_run 1 (some 22) (v := ?_) rfl rfl (by kernel_rfl) (by kernel_rfl) (by kernel_rfl) (fun _ _ _ h => h) (by rfl) ?_ hHeld ?_
    rotate_left
    · ((intro w hSw); (try dsimp only at hSw); go_simp <;> with_reducible rfl)
    simp only [Act.put, List.setIfInBounds_toArray, List.set_cons_zero, List.set_cons_succ]
    refine take_skip 2 (some 23) rfl rfl (by kernel_rfl) (by kernel_rfl) (by kernel_rfl) (fun _ _ _ h => h) (by rfl) hHeld ?_
    simp only [Act.put, List.setIfInBounds_toArray, List.set_cons_zero, List.set_cons_succ]
    refine take_skip 3 (some 24) rfl rfl (by kernel_rfl) (by kernel_rfl) (by kernel_rfl) (fun _ _ _ h => h) (by rfl) hHeld ?_
    simp only [Act.put, List.setIfInBounds_toArray, List.set_cons_zero, List.set_cons_succ]
    refine take_skip 4 (some 25) rfl rfl (by kernel_rfl) (by kernel_rfl) (by kernel_rfl) (fun _ _ _ h => h) (by rfl) hHeld ?_
    simp only [Act.put, List.setIfInBounds_toArray, List.set_cons_zero, List.set_cons_succ]
    refine take_skip 5 (some 26) rfl rfl (by kernel_rfl) (by kernel_rfl) (by kernel_rfl) (fun _ _ _ h => h) (by rfl) hHeld ?_
    simp only [Act.put, List.setIfInBounds_toArray, List.set_cons_zero, List.set_cons_succ]
    refine take_skip 6 (some 27) rfl rfl (by kernel_rfl) (by kernel_rfl) (by kernel_rfl) (fun _ _ _ h => h) (by rfl) hHeld ?_
    simp only [Act.put, List.setIfInBounds_toArray, List.set_cons_zero, List.set_cons_succ]
    refine take_skip 7 (some 28) rfl rfl (by kernel_rfl) (by kernel_rfl) (by kernel_rfl) (fun _ _ _ h => h) (by rfl) hHeld ?_
    simp only [Act.put, List.setIfInBounds_toArray, List.set_cons_zero, List.set_cons_succ]
    refine take_skip 8 (some 29) rfl rfl (by kernel_rfl) (by kernel_rfl) (by kernel_rfl) (fun _ _ _ h => h) (by rfl) hHeld ?_
    simp only [Act.put, List.setIfInBounds_toArray, List.set_cons_zero, List.set_cons_succ]
    refine take_run 9 (some 30) (v := ?_) rfl rfl (by kernel_rfl) (by kernel_rfl) (by kernel_rfl) (fun _ _ _ h => h) (by rfl) ?_ hHeld ?_
    rotate_left
    · ((intro w hSw); (try dsimp only at hSw); go_simp <;> with_reducible rfl)
    simp only [Act.put, List.setIfInBounds_toArray, List.set_cons_zero, List.set_cons_succ]
    refine wpAnyH_done (by kernel_rfl) ?_ _
    refine NoPanic.normal ?_
    clear S0 S1
    go_wp2
    go_ret
    exact added_none HS.out HV.out HW.out hHeld
  | none =>
    have look2 := (hW.on S0.below).missing hto hwr
    have S1 := S0.top.box 82 zero10
    simp only [World.size_alloc] at S1
    have HWR := hide hwr
    have HTO := hide hto
    clear hV hW hwr hv hto hb
    cases hl : lateB (viewOf st s) t
    · have HS := hide (step_write_early (y := y) HWR.out hl)
      have hd : decide (t ≤ lastT [x0, x1, x2, x3]) = true := by
        apply decide_eq_true
        apply Classical.byContradiction
        intro h
        rw [hx4] at hl
        rw [(late_lt ht).2 (by omega)] at hl
        cases hl
      have HD := hide hd
      clear hl hx4 hok hd hi
      go_enter Try.func109, Try.ntmps109
      go_wp2_with fail
      clear look1 look2
      generalize (((w.alloc (.cells #[.map (some b1), .map (some b2)] 70)).alloc (.cells (doneC s 1 y t u) 53)).alloc (.cells #[.int .i64 x0.1, .int .i64 x0.2, .int .i64 x1.1, .int .i64 x1.2, .int .i64 x2.1, .int .i64 x2.2, .int .i64 x3.1, .int .i64 x3.2] 77)).alloc (.cells zero10 82) = W at S1 ⊢
      refine wp_region_noPanic ?_
      refine wp_region_held_drew (S := (fun w' => w'.cell? ⟨w.heap.size + 1, 3, none⟩ = some (.int .i64 t) ∧ Inv w (w.heap.size + 1 + 1 + 1 + 1) [(w.heap.size + 1 + 1 + 1, 82, zero10), (w.heap.size + 1 + 1, 77, #[.int .i64 x0.1, .int .i64 x0.2, .int .i64 x1.1, .int .i64 x1.2, .int .i64 x2.1, .int .i64 x2.2, .int .i64 x3.1, .int .i64 x3.2]), (w.heap.size + 1, 53, doneC s 1 y t u), (w.heap.size, 70, #[.map (some b1), .map (some b2)])] w')) (by kernel_rfl) (by exact ⟨(S1.drew.nth 2 rfl).at 3, S1.drew⟩) (fun hHeld => ?_)
      refine take_run 0 (some 21) (v := ?_) rfl rfl (by kernel_rfl) (by kernel_rfl) (by kernel_rfl) (fun _ _ _ h => h) (by rfl) ?_ hHeld ?_
      rotate_left
      · ((intro w hSw); (try dsimp only at hSw); go_simp <;> with_reducible rfl)
      simp only [Act.put, List.setIfInBounds_toArray, List.set_cons_zero, List.set_cons_succ]
      refine take_run 1 (some 22) (v := ?_) rfl rfl (by kernel_rfl) (by kernel_rfl) (by kernel_rfl) (fun _ _ _ h => h) (by rfl) ?_ hHeld ?_
      rotate_left
      · ((intro w hSw); (try dsimp only at hSw); go_simp <;> with_reducible rfl)
      simp only [Act.put, List.setIfInBounds_toArray, List.set_cons_zero, List.set_cons_succ]
      refine take_run 2 (some 23) (v := ?_) rfl rfl (by kernel_rfl) (by kernel_rfl) (by kernel_rfl) (fun _ _ _ h => h) (by rfl) ?_ hHeld ?_
      rotate_left
      · ((intro w hSw); (try dsimp only at hSw); go_simp <;> with_reducible rfl)
      simp only [Act.put, List.setIfInBounds_toArray, List.set_cons_zero, List.set_cons_succ]
      refine take_run 3 (some 24) (v := ?_) rfl rfl (by kernel_rfl) (by kernel_rfl) (by kernel_rfl) (fun _ _ _ h => h) (by rfl) ?_ hHeld ?_
      rotate_left
      · ((intro w hSw); (try dsimp only at hSw); go_simp <;> with_reducible rfl)
      simp only [Act.put, List.setIfInBounds_toArray, List.set_cons_zero, List.set_cons_succ]
      refine take_run 4 (some 25) (v := ?_) rfl rfl (by kernel_rfl) (by kernel_rfl) (by kernel_rfl) (fun _ _ _ h => h) (by rfl) ?_ hHeld ?_
      rotate_left
      · ((intro w hSw); (try dsimp only at hSw); go_simp <;> with_reducible rfl)
      simp only [Act.put, List.setIfInBounds_toArray, List.set_cons_zero, List.set_cons_succ]
      refine take_run 5 (some 26) (v := ?_) rfl rfl (by kernel_rfl) (by kernel_rfl) (by kernel_rfl) (fun _ _ _ h => h) (by rfl) ?_ hHeld ?_
      rotate_left
      · ((intro w hSw); (try dsimp only at hSw); go_simp <;> with_reducible rfl)
      simp only [Act.put, List.setIfInBounds_toArray, List.set_cons_zero, List.set_cons_succ]
      refine take_run 6 (some 27) (v := ?_) rfl rfl (by kernel_rfl) (by kernel_rfl) (by kernel_rfl) (fun _ _ _ h => h) (by rfl) ?_ hHeld ?_
      rotate_left
      · ((intro w hSw); (try dsimp only at hSw); go_simp <;> with_reducible rfl)
      simp only [Act.put, List.setIfInBounds_toArray, List.set_cons_zero, List.set_cons_succ]
      refine take_one 7 (by kernel_rfl) rfl (fun K hK => ?_)
      go_simp
      (refine (foldTimes_any (some ⟨w.heap.size + 1 + 1, 0, none⟩) 4 [x0, x1, x2, x3] _ (by simp) (Tg.of (hHeld.2.nth 1 rfl) (hHeld.2.nth 1 rfl).inside (tagAt_eight x0 x1 x2 x3))).mono ?_; rintro e w5 ⟨rfl, hb5⟩; generalize lastT [x0, x1, x2, x3] = lt at *)
      try go_wp2_with fail
      refine hK.out _ _ (by exact ⟨((hHeld.2.on hb5).nth 2 rfl).at 3, hHeld.2.on hb5⟩) (fun hHeld => ?_)
      clear hK K
      refine take_run 8 (some 29) (v := ?_) rfl rfl (by kernel_rfl) (by kernel_rfl) (by kernel_rfl) (fun _ _ _ h => h) (by rfl) ?_ hHeld ?_
      rotate_left
      · ((intro w hSw); (try dsimp only at hSw); go_simp <;> with_reducible rfl)
      simp only [Act.put, List.setIfInBounds_toArray, List.set_cons_zero, List.set_cons_succ]
      refine take_run 9 (some 30) (v := ?_) rfl rfl (by kernel_rfl) (by kernel_rfl) (by kernel_rfl) (fun _ _ _ h => h) (by rfl) ?_ hHeld ?_
      rotate_left
      · ((intro w hSw); (try dsimp only at hSw); go_simp <;> with_reducible rfl)
      simp only [Act.put, List.setIfInBounds_toArray, List.set_cons_zero, List.set_cons_succ]
      refine wpAnyH_done (by kernel_rfl) ?_ _
      refine NoPanic.normal ?_
      have I5 := hHeld.2
      clear hHeld S0 S1
      rw [HD.out]
      go_wp2
      go_ret
      exact added_none HS.out HV.out HW.out I5.below
    · have HS := hide (step_write (y := y) HWR.out hl)
      have hd : decide (t ≤ lastT [x0, x1, x2, x3]) = false := by
        apply decide_eq_false
        rw [hx4] at hl
        have := (late_lt ht).1 hl
        omega
      have HD := hide hd
      clear hl hx4 hok hd hi
      go_enter Try.func109, Try.ntmps109
      go_wp2_with fail
      clear look1 look2
      generalize (((w.alloc (.cells #[.map (some b1), .map (some b2)] 70)).alloc (.cells (doneC s 1 y t u) 53)).alloc (.cells #[.int .i64 x0.1, .int .i64 x0.2, .int .i64 x1.1, .int .i64 x1.2, .int .i64 x2.1, .int .i64 x2.2, .int .i64 x3.1, .int .i64 x3.2] 77)).alloc (.cells zero10 82) = W at S1 ⊢
      refine wp_region_noPanic ?_
      refine wp_region_held_drew (S := (fun w' => w'.cell? ⟨w.heap.size + 1, 3, none⟩ = some (.int .i64 t) ∧ Inv w (w.heap.size + 1 + 1 + 1 + 1) [(w.heap.size + 1 + 1 + 1, 82, zero10), (w.heap.size + 1 + 1, 77, #[.int .i64 x0.1, .int .i64 x0.2, .int .i64 x1.1, .int .i64 x1.2, .int .i64 x2.1, .int .i64 x2.2, .int .i64 x3.1, .int .i64 x3.2]), (w.heap.size + 1, 53, doneC s 1 y t u), (w.heap.size, 70, #[.map (some b1), .map (some b2)])] w')) (by kernel_rfl) (by exact ⟨(S1.drew.nth 2 rfl).at 3, S1.drew⟩) (fun hHeld => ?_)
      refine take_run 0 (some 21) (v := ?_) rfl rfl (by kernel_rfl) (by kernel_rfl) (by kernel_rfl) (fun _ _ _ h => h) (by rfl) ?_ hHeld ?_
      rotate_left
      · ((intro w hSw); (try dsimp only at hSw); go_simp <;> with_reducible rfl)
      simp only [Act.put, List.setIfInBounds_toArray, List.set_cons_zero, List.set_cons_succ]
      refine take_run 1 (some 22) (v := ?_) rfl rfl (by kernel_rfl) (by kernel_rfl) (by kernel_rfl) (fun _ _ _ h => h) (by rfl) ?_ hHeld ?_
      rotate_left
      · ((intro w hSw); (try dsimp only at hSw); go_simp <;> with_reducible rfl)
      simp only [Act.put, List.setIfInBounds_toArray, List.set_cons_zero, List.set_cons_succ]
      refine take_run 2 (some 23) (v := ?_) rfl rfl (by kernel_rfl) (by kernel_rfl) (by kernel_rfl) (fun _ _ _ h => h) (by rfl) ?_ hHeld ?_
      rotate_left
      · ((intro w hSw); (try dsimp only at hSw); go_simp <;> with_reducible rfl)
      simp only [Act.put, List.setIfInBounds_toArray, List.set_cons_zero, List.set_cons_succ]
      refine take_run 3 (some 24) (v := ?_) rfl rfl (by kernel_rfl) (by kernel_rfl) (by kernel_rfl) (fun _ _ _ h => h) (by rfl) ?_ hHeld ?_
      rotate_left
      · ((intro w hSw); (try dsimp only at hSw); go_simp <;> with_reducible rfl)
      simp only [Act.put, List.setIfInBounds_toArray, List.set_cons_zero, List.set_cons_succ]
      refine take_run 4 (some 25) (v := ?_) rfl rfl (by kernel_rfl) (by kernel_rfl) (by kernel_rfl) (fun _ _ _ h => h) (by rfl) ?_ hHeld ?_
      rotate_left
      · ((intro w hSw); (try dsimp only at hSw); go_simp <;> with_reducible rfl)
      simp only [Act.put, List.setIfInBounds_toArray, List.set_cons_zero, List.set_cons_succ]
      refine take_run 5 (some 26) (v := ?_) rfl rfl (by kernel_rfl) (by kernel_rfl) (by kernel_rfl) (fun _ _ _ h => h) (by rfl) ?_ hHeld ?_
      rotate_left
      · ((intro w hSw); (try dsimp only at hSw); go_simp <;> with_reducible rfl)
      simp only [Act.put, List.setIfInBounds_toArray, List.set_cons_zero, List.set_cons_succ]
      refine take_run 6 (some 27) (v := ?_) rfl rfl (by kernel_rfl) (by kernel_rfl) (by kernel_rfl) (fun _ _ _ h => h) (by rfl) ?_ hHeld ?_
      rotate_left
      · ((intro w hSw); (try dsimp only at hSw); go_simp <;> with_reducible rfl)
      simp only [Act.put, List.setIfInBounds_toArray, List.set_cons_zero, List.set_cons_succ]
      refine take_one 7 (by kernel_rfl) rfl (fun K hK => ?_)
      go_simp
      (refine (foldTimes_any (some ⟨w.heap.size + 1 + 1, 0, none⟩) 4 [x0, x1, x2, x3] _ (by simp) (Tg.of (hHeld.2.nth 1 rfl) (hHeld.2.nth 1 rfl).inside (tagAt_eight x0 x1 x2 x3))).mono ?_; rintro e w5 ⟨rfl, hb5⟩; generalize lastT [x0, x1, x2, x3] = lt at *)
      try go_wp2_with fail
      refine hK.out _ _ (by exact ⟨((hHeld.2.on hb5).nth 2 rfl).at 3, hHeld.2.on hb5⟩) (fun hHeld => ?_)
      clear hK K
      refine take_run 8 (some 29) (v := ?_) rfl rfl (by kernel_rfl) (by kernel_rfl) (by kernel_rfl) (fun _ _ _ h => h) (by rfl) ?_ hHeld ?_
      rotate_left
      · ((intro w hSw); (try dsimp only at hSw); go_simp <;> with_reducible rfl)
      simp only [Act.put, List.setIfInBounds_toArray, List.set_cons_zero, List.set_cons_succ]
      refine take_run 9 (some 30) (v := ?_) rfl rfl (by kernel_rfl) (by kernel_rfl) (by kernel_rfl) (fun _ _ _ h => h) (by rfl) ?_ hHeld ?_
      rotate_left
      · ((intro w hSw); (try dsimp only at hSw); go_simp <;> with_reducible rfl)
      simp only [Act.put, List.setIfInBounds_toArray, List.set_cons_zero, List.set_cons_succ]
      refine wpAnyH_done (by kernel_rfl) ?_ _
      refine NoPanic.normal ?_
      have I5 := hHeld.2
      clear hHeld S0 S1
      rw [HD.out]
      have k1 := (I5.nth 3 rfl).two
      have k2 := (I5.nth 2 rfl).five.1
      have k3 := (I5.nth 1 rfl).eight.1
      obtain ⟨w6, hrun, hWM6, hG6⟩ := (HW.out.on I5.below).put (by omega) (d := (s, 1, y, t, u)) (p := viewOf st s) HTO.out rfl HWR.out
      have hrun' := hrun
      rw [HX4.out, wrCells_eq] at hrun'
      simp only at hrun'
      have HWM := hide hWM6
      clear hrun hWM6
      go_wp2
      go_ret
      refine ⟨some b2, ?_, ?_, ?_, (grown_none I5.below).trans hG6, fun g hg => ?_⟩
      · rw [HS.out]; rfl
      · rw [HS.out]; exact (((HV.out.on I5.below).kept hG6 (by intro e; injection e with e; exact HB.out e)).mono (by omega)).same rfl
      · rw [HS.out]; exact HWM.out
      · injection hg with hg; exact .inr hg.symm

theorem step_sight_early {st : St} {s k y t u : Int} (hk : (k == 1) = false) (h : lessB t u (tagAt (viewOf st s) y).1 (tagAt (viewOf st s) y).2 = true) : stepH st (s, k, y, t, u) = none := by
  unfold stepH
  simp [hk, h]
theorem step_sight_zero {st : St} {s k y t u : Int} (hk : (k == 1) = false) (h : lessB t u (tagAt (viewOf st s) y).1 (tagAt (viewOf st s) y).2 = false) (hz : eqB t u 0 0 = true) : stepH st (s, k, y, t, u) = some (st.1, st.2 ++ [((s, k, y, t, u), viewOf st s)]) := by
  unfold stepH
  simp [hk, h, hz]
theorem step_sight_none {st : St} {s k y t u : Int} (hk : (k == 1) = false) (h : lessB t u (tagAt (viewOf st s) y).1 (tagAt (viewOf st s) y).2 = false) (hz : eqB t u 0 0 = false) (hw : wrote st t u = none) : stepH st (s, k, y, t, u) = none := by
  unfold stepH
  simp [hk, h, hz, hw]
theorem step_sight_key {st : St} {s k y t u : Int} {x : D × T4} (hk : (k == 1) = false) (h : lessB t u (tagAt (viewOf st s) y).1 (tagAt (viewOf st s) y).2 = false) (hz : eqB t u 0 0 = false) (hw : wrote st t u = some x) (hy : (x.1.2.2.1 != y) = true) : stepH st (s, k, y, t, u) = none := by
  have : (x.1.2.2.1 == y) = false := by simpa using hy
  unfold stepH
  simp [hk, h, hz, hw, this]
theorem step_sight_own {st : St} {s k y t u : Int} {x : D × T4} (hk : (k == 1) = false) (h : lessB t u (tagAt (viewOf st s) y).1 (tagAt (viewOf st s) y).2 = false) (hz : eqB t u 0 0 = false) (hw : wrote st t u = some x) (hy : (x.1.2.2.1 != y) = false) (ho : ((k == 3) && (x.1.1 != s)) = true) : stepH st (s, k, y, t, u) = none := by
  have : (x.1.2.2.1 == y) = true := by simpa using hy
  unfold stepH
  simp [hk, h, hz, hw, this]
  simpa using ho
theorem step_sight {st : St} {s k y t u : Int} {x : D × T4} (hk : (k == 1) = false) (h : lessB t u (tagAt (viewOf st s) y).1 (tagAt (viewOf st s) y).2 = false) (hz : eqB t u 0 0 = false) (hw : wrote st t u = some x) (hy : (x.1.2.2.1 != y) = false) (ho : ((k == 3) && (x.1.1 != s)) = false) :
    stepH st (s, k, y, t, u) = some (st.1.set s.toNat (sawT (viewOf st s) x.2 (s, k, y, t, u)), st.2 ++ [((s, k, y, t, u), sawT (viewOf st s) x.2 (s, k, y, t, u))]) := by
  have h1 : (x.1.2.2.1 == y) = true := by simpa using hy
  unfold stepH
  simp only [hk, h, hz, hw, h1, ho]
  rfl
theorem VM.drew {w : World} {b N : Nat} {st : St} (h : VM w b N st) : VM w.drew b N st := h
theorem WM.drew {w : World} {b N : Nat} {st : St} (h : WM w b N st) : WM w.drew b N st := h
theorem VM.set {w : World} {b N : Nat} {st : St} (h : VM w b N st) {p : Addr} (hp : b ≠ p.block) (u : Value) : VM (w.setCell p u) b N st := by
  obtain ⟨D, hD, h⟩ := h
  exact ⟨D, hD.setCell hp u, h⟩
theorem WM.set {w : World} {b N : Nat} {st : St} (h : WM w b N st) {p : Addr} (hp : b ≠ p.block) (u : Value) : WM (w.setCell p u) b N st := by
  obtain ⟨D, hD, h⟩ := h
  exact ⟨D, hD.setCell hp u, h⟩
theorem narrow {w w1 : World} {n m : Nat} {a b c d : Nat × TypeId × Array Value} (h : Inv w n [a, b, c, d] w1) (hm : m ≤ n) (hc : c.1 < m) (hd : d.1 < m) : Inv w m [c, d] w1 :=
  ⟨h.below, Nat.le_trans hm h.room, fun x hx => by
    simp only [List.mem_cons, List.not_mem_nil, or_false] at hx
    rcases hx with rfl | rfl
    · exact ⟨(h.blk x (by simp)).1, hc, (h.blk x (by simp)).2.2⟩
    · exact ⟨(h.blk x (by simp)).1, hd, (h.blk x (by simp)).2.2⟩⟩
theorem view_set {st : St} (hok : StOk st) {s : Int} (h0 : 0 ≤ s) (h3 : s ≤ 3) (v : T4) (l : List (D × T4)) : viewOf (st.1.set s.toNat v, l) s = v ∧ ∀ s' : Int, 0 ≤ s' → s' ≤ 3 → s' ≠ s → viewOf (st.1.set s.toNat v, l) s' = viewOf st s' := by
  have hl := hok.1
  refine ⟨?_, fun s' h0' h3' hne => ?_⟩
  · unfold viewOf
    rw [List.getD_eq_getElem?_getD, List.getElem?_set_self (by omega)]
    rfl
  · unfold viewOf
    simp only [List.getD_eq_getElem?_getD]; rw [List.getElem?_set_ne (by omega)]

set_option maxRecDepth 100000 in
set_option maxHeartbeats 8000000 in
theorem addSight_0 (b1 b2 N : Nat) (st : St) (s k t u : Int) (w : World) (hok : StOk st) (hk : (k == 1) = false) (hv : doneB (s, k, 0, t, u) = true) (hb : b1 ≠ b2) (hN : N < 1000) (hV : VM w b1 N st) (hW : WM w b2 N st) :
    Calls Try.prog 110 #[.agg #[.map (some b1), .map (some b2)], .agg (doneC s k 0 t u)] w (Added w b1 b2 N st (s, k, 0, t, u)) := by
  obtain ⟨x0, x1, x2, x3, hx4⟩ := four_len (viewOf_len hok s)
  have hi := doneB_i hv
  have hto := hi.2.2.2.2.2.2.1
  have hs0 := hi.1
  have hs3 := hi.2.1
  have hta : tagAt (viewOf st s) 0 = x0 := by rw [hx4]; rfl
  have HB := hide hb
  have HK := hide hk
  have HTA := hide hta
  have HTO := hide hto
  have HOK := hide hok
  have S0 := (((Inv.start w).box 70 #[.map (some b1), .map (some b2)]).box 53 (doneC s k 0 t u)).box 77 #[.int .i64 x0.1, .int .i64 x0.2, .int .i64 x1.1, .int .i64 x1.2, .int .i64 x2.1, .int .i64 x2.2, .int .i64 x3.1, .int .i64 x3.2]
  simp only [World.size_alloc] at S0
  have look1 := (hV.on (((Inv.start w).box 70 #[.map (some b1), .map (some b2)]).box 53 (doneC s k 0 t u)).below).look (s := s) hi.1 hi.2.1
  rw [hx4, cells4_eq] at look1
  have HX4 := hide hx4
  have HV := hide hV
  have HW := hide hW
  have hV1 := hV.lt
  have hW1 := hW.lt
  have hq := tagEql_run t u 0 0
  clear hv hi hto hok hb hV hW hta hx4 hk
  have C2 : ∀ W : World, Calls Try.prog 91 #[.agg #[.int .i64 t, .int .i64 u], .agg #[.int .i64 x0.1, .int .i64 x0.2]] W fun e w' => e = .returned (.bool (lessB t u x0.1 x0.2)) ∧ Below W.heap.size W w' := fun W => less_any t u _ _ W
  have HC2 := hide C2
  clear C2
  go_enter Try.func110, Try.ntmps110
  go_wp2_with fail
  clear look1
  generalize (((w.alloc (.cells #[.map (some b1), .map (some b2)] 70)).alloc (.cells (doneC s k 0 t u) 53)).alloc (.cells #[.int .i64 x0.1, .int .i64 x0.2, .int .i64 x1.1, .int .i64 x1.2, .int .i64 x2.1, .int .i64 x2.2, .int .i64 x3.1, .int .i64 x3.2] 77)) = W at S0 ⊢
  refine wp_region_noPanic ?_
  refine wp_region_held_drew (S := (fun w' => (w'.cell? ⟨w.heap.size + 1, 2, none⟩ = some (.int .i64 0) ∧ w'.cell? ⟨w.heap.size + 1, 3, none⟩ = some (.int .i64 t) ∧ w'.cell? ⟨w.heap.size + 1, 4, none⟩ = some (.int .i64 u) ∧ w'.cell? ⟨w.heap.size + 1 + 1, 0, none⟩ = some (.int .i64 x0.1) ∧ w'.cell? ⟨w.heap.size + 1 + 1, 1, none⟩ = some (.int .i64 x0.2)) ∧ Inv w (w.heap.size + 1 + 1 + 1) [(w.heap.size + 1 + 1, 77, #[.int .i64 x0.1, .int .i64 x0.2, .int .i64 x1.1, .int .i64 x1.2, .int .i64 x2.1, .int .i64 x2.2, .int .i64 x3.1, .int .i64 x3.2]), (w.heap.size + 1, 53, doneC s k 0 t u), (w.heap.size, 70, #[.map (some b1), .map (some b2)])] w')) (by kernel_rfl) (by exact ⟨⟨(S0.drew.nth 1 rfl).at 2, (S0.drew.nth 1 rfl).at 3, (S0.drew.nth 1 rfl).at 4, (S0.drew.nth 0 rfl).at 0, (S0.drew.nth 0 rfl).at 1⟩, S0.drew⟩) (fun hHeld => ?_)
  refine take_run 0 (some 13) (v := ?_) rfl rfl (by kernel_rfl) (by kernel_rfl) (by kernel_rfl) (fun _ _ _ h => h) (by rfl) ?_ hHeld ?_
  rotate_left
  · ((intro w hSw); (try dsimp only at hSw); go_simp <;> with_reducible rfl)
  simp only [Act.put, List.setIfInBounds_toArray, List.set_cons_zero, List.set_cons_succ]
  refine take_run 1 (some 14) (v := ?_) rfl rfl (by kernel_rfl) (by kernel_rfl) (by kernel_rfl) (fun _ _ _ h => h) (by rfl) ?_ hHeld ?_
  rotate_left
  · ((intro w hSw); (try dsimp only at hSw); go_simp <;> with_reducible rfl)
  simp only [Act.put, List.setIfInBounds_toArray, List.set_cons_zero, List.set_cons_succ]
  refine take_run 2 (some 15) (v := ?_) rfl rfl (by kernel_rfl) (by kernel_rfl) (by kernel_rfl) (fun _ _ _ h => h) (by rfl) ?_ hHeld ?_
  rotate_left
  · ((intro w hSw); (try dsimp only at hSw); go_simp <;> with_reducible rfl)
  simp only [Act.put, List.setIfInBounds_toArray, List.set_cons_zero, List.set_cons_succ]
  refine take_run 3 (some 16) (v := ?_) rfl rfl (by kernel_rfl) (by kernel_rfl) (by kernel_rfl) (fun _ _ _ h => h) (by rfl) ?_ hHeld ?_
  rotate_left
  · ((intro w hSw); (try dsimp only at hSw); go_simp <;> with_reducible rfl)
  simp only [Act.put, List.setIfInBounds_toArray, List.set_cons_zero, List.set_cons_succ]
  refine take_run 4 (some 17) (v := ?_) rfl rfl (by kernel_rfl) (by kernel_rfl) (by kernel_rfl) (fun _ _ _ h => h) (by rfl) ?_ hHeld ?_
  rotate_left
  · ((intro w hSw); (try dsimp only at hSw); go_simp <;> with_reducible rfl)
  simp only [Act.put, List.setIfInBounds_toArray, List.set_cons_zero, List.set_cons_succ]
  refine take_run 5 (some 18) (v := ?_) rfl rfl (by kernel_rfl) (by kernel_rfl) (by kernel_rfl) (fun _ _ _ h => h) (by rfl) ?_ hHeld ?_
  rotate_left
  · ((intro w hSw); (try dsimp only at hSw); go_simp <;> with_reducible rfl)
  simp only [Act.put, List.setIfInBounds_toArray, List.set_cons_zero, List.set_cons_succ]
  refine take_run 6 (some 19) (v := ?_) rfl rfl (by kernel_rfl) (by kernel_rfl) (by kernel_rfl) (fun _ _ _ h => h) (by rfl) ?_ hHeld ?_
  rotate_left
  · ((intro w hSw); (try dsimp only at hSw); go_simp <;> with_reducible rfl)
  simp only [Act.put, List.setIfInBounds_toArray, List.set_cons_zero, List.set_cons_succ]
  refine take_one 7 (by kernel_rfl) rfl (fun K hK => ?_)
  go_simp
  (refine (HC2.out _).mono ?_; rintro e w4 ⟨rfl, hb4⟩)
  try go_wp2_with fail
  refine hK.out _ _ (by exact ⟨⟨((hHeld.2.on hb4).nth 1 rfl).at 2, ((hHeld.2.on hb4).nth 1 rfl).at 3, ((hHeld.2.on hb4).nth 1 rfl).at 4, ((hHeld.2.on hb4).nth 0 rfl).at 0, ((hHeld.2.on hb4).nth 0 rfl).at 1⟩, (hHeld.2.on hb4)⟩) (fun hHeld => ?_)
  clear hK K
  refine wpAnyH_done (by kernel_rfl) ?_ _
  refine NoPanic.normal ?_
  have I4 := hHeld.2
  clear hHeld S0 HC2
  have k1 := (I4.nth 2 rfl).two
  have k2 := (I4.nth 1 rfl).five.1
  have z4' := I4.room
  cases hl : lessB t u x0.1 x0.2
  · cases hz : eqB t u 0 0
    · have hq' : ∀ W : World, (binOp .eql 43 (.agg #[.int .i64 t, .int .i64 u]) (.agg #[.int .i64 0, .int .i64 0])).run Try.prog W = .ok (.bool false) W := fun W => by rw [hq W, hz]
      have HZ := hide hz
      have HL : Hid (lessB t u (tagAt (viewOf st s) 0).1 (tagAt (viewOf st s) 0).2 = false) := by unfold Hid; rw [HTA.out]; exact hl
      clear hq hz hl
      cases hwr : wrote st t u with
      | none =>
        have look2 := (HW.out.on I4.below).missing HTO.out hwr
        have HS := hide (step_sight_none HK.out HL.out HZ.out hwr)
        have L5 := I4.below.alloc I4.base (.cells zero10 82)
        clear hwr
        go_wp2
        go_ret
        exact added_none HS.out HV.out HW.out L5
      | some x =>
        have look2 := (HW.out.on I4.below).found HTO.out hwr
        obtain ⟨⟨q0, q1, q2, q3, q4⟩, p⟩ := x
        obtain ⟨p0, p1, p2, p3, hp⟩ := four_len (wrote_len HOK.out hwr)
        simp only at hp
        subst hp
        rw [wrCells_eq] at look2
        simp only at look2
        have HWR := hide hwr
        have L5 := I4.below.alloc I4.base (.cells #[.int .i64 q0, .int .i64 q2, .int .i64 p0.1, .int .i64 p0.2, .int .i64 p1.1, .int .i64 p1.2, .int .i64 p2.1, .int .i64 p2.2, .int .i64 p3.1, .int .i64 p3.2] 82)
        clear hwr
        have I5 := I4.top.box 82 #[.int .i64 q0, .int .i64 q2, .int .i64 p0.1, .int .i64 p0.2, .int .i64 p1.1, .int .i64 p1.2, .int .i64 p2.1, .int .i64 p2.2, .int .i64 p3.1, .int .i64 p3.2]
        simp only [World.size_alloc] at I5
        have m1 := (I5.nth 0 rfl).ten
        have m2 := (I5.nth 1 rfl).eight.1
        have m3 := (I5.nth 2 rfl).five.1
        cases hy : (q2 != 0)
        · cases ho : ((k == 3) && (q0 != s))
          · have HS := hide (step_sight HK.out HL.out HZ.out HWR.out hy ho)
            have HJ := hide (join_any x0 x1 x2 x3 p0 p1 p2 p3)
            clear L5
            cases hk3 : (k == 3)
            · clear ho
              go_wp2_with fail
              generalize w4.alloc (.cells #[.int .i64 q0, .int .i64 q2, .int .i64 p0.1, .int .i64 p0.2, .int .i64 p1.1, .int .i64 p1.2, .int .i64 p2.1, .int .i64 p2.2, .int .i64 p3.1, .int .i64 p3.2] 82) = W5 at I5 m1 m2 m3 ⊢
              refine (HJ.out _).mono ?_
              rintro e w6 ⟨rfl, hb6⟩
              have I6 := I5.on hb6
              have n2 := (I6.nth 1 rfl).eight
              have n3 := (I6.nth 2 rfl).five.1
              have V6 := ((((((((I6.nth 1 rfl).put 0 (.int .i64 (mxp x0 p0).1)).put 1 (.int .i64 (mxp x0 p0).2)).put 2 (.int .i64 (mxp x1 p1).1)).put 3 (.int .i64 (mxp x1 p1).2)).put 4 (.int .i64 (mxp x2 p2).1)).put 5 (.int .i64 (mxp x2 p2).2)).put 6 (.int .i64 (mxp x3 p3).1)).put 7 (.int .i64 (mxp x3 p3).2)
              simp only [List.setIfInBounds_toArray, List.set_cons_zero, List.set_cons_succ] at V6
              have zz := I5.room
              have z6 := hb6.size
              have I7 : Inv w (w.heap.size + 1 + 1) [(w.heap.size + 1, 53, doneC s k 0 t u), (w.heap.size, 70, #[.map (some b1), .map (some b2)])] (((((((((w6.setCell ⟨w.heap.size + 1 + 1, 0, none⟩ (.int .i64 (mxp x0 p0).1)).setCell ⟨w.heap.size + 1 + 1, 1, none⟩ (.int .i64 (mxp x0 p0).2)).setCell ⟨w.heap.size + 1 + 1, 2, none⟩ (.int .i64 (mxp x1 p1).1)).setCell ⟨w.heap.size + 1 + 1, 3, none⟩ (.int .i64 (mxp x1 p1).2)).setCell ⟨w.heap.size + 1 + 1, 4, none⟩ (.int .i64 (mxp x2 p2).1)).setCell ⟨w.heap.size + 1 + 1, 5, none⟩ (.int .i64 (mxp x2 p2).2)).setCell ⟨w.heap.size + 1 + 1, 6, none⟩ (.int .i64 (mxp x3 p3).1)).setCell ⟨w.heap.size + 1 + 1, 7, none⟩ (.int .i64 (mxp x3 p3).2))) := ((((((((narrow I6 (by omega) (by simp) (by simp; omega)).set (by simp) (by simp; omega) _).set (by simp) (by simp; omega) _).set (by simp) (by simp; omega) _).set (by simp) (by simp; omega) _).set (by simp) (by simp; omega) _).set (by simp) (by simp; omega) _).set (by simp) (by simp; omega) _).set (by simp) (by simp; omega) _
              have VM6 := HV.out.on I6.below
              have WM6 := HW.out.on I6.below
              have VM7 := (((((((VM6.set (p := ⟨w.heap.size + 1 + 1, 0, none⟩) (by simp; omega) (.int .i64 (mxp x0 p0).1)).set (p := ⟨w.heap.size + 1 + 1, 1, none⟩) (by simp; omega) (.int .i64 (mxp x0 p0).2)).set (p := ⟨w.heap.size + 1 + 1, 2, none⟩) (by simp; omega) (.int .i64 (mxp x1 p1).1)).set (p := ⟨w.heap.size + 1 + 1, 3, none⟩) (by simp; omega) (.int .i64 (mxp x1 p1).2)).set (p := ⟨w.heap.size + 1 + 1, 4, none⟩) (by simp; omega) (.int .i64 (mxp x2 p2).1)).set (p := ⟨w.heap.size + 1 + 1, 5, none⟩) (by simp; omega) (.int .i64 (mxp x2 p2).2)).set (p := ⟨w.heap.size + 1 + 1, 6, none⟩) (by simp; omega) (.int .i64 (mxp x3 p3).1)).set (p := ⟨w.heap.size + 1 + 1, 7, none⟩) (by simp; omega) (.int .i64 (mxp x3 p3).2)
              have WM7 := (((((((WM6.set (p := ⟨w.heap.size + 1 + 1, 0, none⟩) (by simp; omega) (.int .i64 (mxp x0 p0).1)).set (p := ⟨w.heap.size + 1 + 1, 1, none⟩) (by simp; omega) (.int .i64 (mxp x0 p0).2)).set (p := ⟨w.heap.size + 1 + 1, 2, none⟩) (by simp; omega) (.int .i64 (mxp x1 p1).1)).set (p := ⟨w.heap.size + 1 + 1, 3, none⟩) (by simp; omega) (.int .i64 (mxp x1 p1).2)).set (p := ⟨w.heap.size + 1 + 1, 4, none⟩) (by simp; omega) (.int .i64 (mxp x2 p2).1)).set (p := ⟨w.heap.size + 1 + 1, 5, none⟩) (by simp; omega) (.int .i64 (mxp x2 p2).2)).set (p := ⟨w.heap.size + 1 + 1, 6, none⟩) (by simp; omega) (.int .i64 (mxp x3 p3).1)).set (p := ⟨w.heap.size + 1 + 1, 7, none⟩) (by simp; omega) (.int .i64 (mxp x3 p3).2)
              clear m1 m2 m3 I5 HJ hb6 VM6 WM6
              go_wp2_with fail
              clear n2 n3
              generalize ((((((((w6.setCell ⟨w.heap.size + 1 + 1, 0, none⟩ (.int .i64 (mxp x0 p0).1)).setCell ⟨w.heap.size + 1 + 1, 1, none⟩ (.int .i64 (mxp x0 p0).2)).setCell ⟨w.heap.size + 1 + 1, 2, none⟩ (.int .i64 (mxp x1 p1).1)).setCell ⟨w.heap.size + 1 + 1, 3, none⟩ (.int .i64 (mxp x1 p1).2)).setCell ⟨w.heap.size + 1 + 1, 4, none⟩ (.int .i64 (mxp x2 p2).1)).setCell ⟨w.heap.size + 1 + 1, 5, none⟩ (.int .i64 (mxp x2 p2).2)).setCell ⟨w.heap.size + 1 + 1, 6, none⟩ (.int .i64 (mxp x3 p3).1)).setCell ⟨w.heap.size + 1 + 1, 7, none⟩ (.int .i64 (mxp x3 p3).2)) = W7 at V6 I7 VM7 WM7 ⊢
              have hz7 := V6.inside
              have v7 := V6.drew.eight.1
              refine wp_region_noPanic ?_
              refine wp_region_held_drew (S := (fun w' => (w'.cell? ⟨w.heap.size + 1, 2, none⟩ = some (.int .i64 0) ∧ w'.cell? ⟨w.heap.size + 1, 3, none⟩ = some (.int .i64 t) ∧ w'.cell? ⟨w.heap.size + 1, 4, none⟩ = some (.int .i64 u)) ∧ Inv w (w.heap.size + 1 + 1) [(w.heap.size + 1, 53, doneC s k 0 t u), (w.heap.size, 70, #[.map (some b1), .map (some b2)])] w')) (by kernel_rfl) (by exact ⟨⟨(I7.drew.nth 0 rfl).at 2, (I7.drew.nth 0 rfl).at 3, (I7.drew.nth 0 rfl).at 4⟩, I7.drew⟩) (fun hHeld => ?_)
              refine take_run 0 (some 58) (v := ?_) rfl rfl (by kernel_rfl) (by kernel_rfl) (by kernel_rfl) (fun _ _ _ h => h) (by rfl) ?_ hHeld ?_
              rotate_left
              · ((intro w hSw); (try dsimp only at hSw); go_simp <;> with_reducible rfl)
              simp only [Act.put, List.setIfInBounds_toArray, List.set_cons_zero, List.set_cons_succ]
              refine take_run 1 (some 59) (v := ?_) rfl rfl (by kernel_rfl) (by kernel_rfl) (by kernel_rfl) (fun _ _ _ h => h) (by rfl) ?_ hHeld ?_
              rotate_left
              · ((intro w hSw); (try dsimp only at hSw); go_simp <;> with_reducible rfl)
              simp only [Act.put, List.setIfInBounds_toArray, List.set_cons_zero, List.set_cons_succ]
              refine take_run 2 (some 60) (v := ?_) rfl rfl (by kernel_rfl) (by kernel_rfl) (by kernel_rfl) (fun _ _ _ h => h) (by rfl) ?_ hHeld ?_
              rotate_left
              · ((intro w hSw); (try dsimp only at hSw); go_simp <;> with_reducible rfl)
              simp only [Act.put, List.setIfInBounds_toArray, List.set_cons_zero, List.set_cons_succ]
              refine take_run 3 (some 61) (v := ?_) rfl rfl (by kernel_rfl) (by kernel_rfl) (by kernel_rfl) (fun _ _ _ h => h) (by rfl) ?_ hHeld ?_
              rotate_left
              · ((intro w hSw); (try dsimp only at hSw); go_simp <;> with_reducible rfl)
              simp only [Act.put, List.setIfInBounds_toArray, List.set_cons_zero, List.set_cons_succ]
              refine take_run 4 (some 62) (v := ?_) rfl rfl (by kernel_rfl) (by kernel_rfl) (by kernel_rfl) (fun _ _ _ h => h) (by rfl) ?_ hHeld ?_
              rotate_left
              · ((intro w hSw); (try dsimp only at hSw); go_simp <;> with_reducible rfl)
              simp only [Act.put, List.setIfInBounds_toArray, List.set_cons_zero, List.set_cons_succ]
              refine take_run 5 (some 63) (v := ?_) rfl rfl (by kernel_rfl) (by kernel_rfl) (by kernel_rfl) (fun _ _ _ h => h) (by rfl) ?_ hHeld ?_
              rotate_left
              · ((intro w hSw); (try dsimp only at hSw); go_simp <;> with_reducible rfl)
              simp only [Act.put, List.setIfInBounds_toArray, List.set_cons_zero, List.set_cons_succ]
              refine take_run 7 (some 65) (v := ?_) rfl rfl (by kernel_rfl) (by kernel_rfl) (by kernel_rfl) (fun _ _ _ h => h) (by rfl) ?_ hHeld ?_
              rotate_left
              · ((intro w hSw); (try dsimp only at hSw); go_simp <;> with_reducible rfl)
              simp only [Act.put, List.setIfInBounds_toArray, List.set_cons_zero, List.set_cons_succ]
              refine take_run 8 (some 66) (v := ?_) rfl rfl (by kernel_rfl) (by kernel_rfl) (by kernel_rfl) (fun _ _ _ h => h) (by rfl) ?_ hHeld ?_
              rotate_left
              · ((intro w hSw); (try dsimp only at hSw); go_simp <;> with_reducible rfl)
              simp only [Act.put, List.setIfInBounds_toArray, List.set_cons_zero, List.set_cons_succ]
              refine take_run 10 (some 68) (v := ?_) rfl rfl (by kernel_rfl) (by kernel_rfl) (by kernel_rfl) (fun _ _ _ h => h) (by rfl) ?_ hHeld ?_
              rotate_left
              · ((intro w hSw); (try dsimp only at hSw); go_simp <;> with_reducible rfl)
              simp only [Act.put, List.setIfInBounds_toArray, List.set_cons_zero, List.set_cons_succ]
              refine take_one 6 (by kernel_rfl) rfl (fun K hK => ?_)
              go_simp
              refine hK.out _ _ (by exact hHeld) (fun hHeld => ?_)
              clear hK K
              refine take_one 9 (by kernel_rfl) rfl (fun K hK => ?_)
              go_simp
              (refine (implTagMax_any _ _ _ _ _).mono ?_; rintro e w8 ⟨rfl, hb8⟩; have V8 := V6.drew.on hb8; have v8 := V8.eight)
              try go_wp2_with fail
              refine hK.out _ _ (by exact ⟨⟨((hHeld.2.on hb8).nth 0 rfl).at 2, ((hHeld.2.on hb8).nth 0 rfl).at 3, ((hHeld.2.on hb8).nth 0 rfl).at 4⟩, hHeld.2.on hb8⟩) (fun hHeld => ?_)
              clear hK K
              refine take_run 11 (some 69) (v := ?_) rfl rfl (by kernel_rfl) (by kernel_rfl) (by kernel_rfl) (fun _ _ _ h => h) (by rfl) ?_ hHeld ?_
              rotate_left
              · ((intro w hSw); (try dsimp only at hSw); go_simp <;> with_reducible rfl)
              simp only [Act.put, List.setIfInBounds_toArray, List.set_cons_zero, List.set_cons_succ]
              refine take_one 12 (by kernel_rfl) rfl (fun K hK => ?_)
              go_simp
              refine hK.out _ _ (by exact ⟨⟨(((hHeld.2.set (by simp) (by simp; omega) _).set (by simp) (by simp; omega) _).nth 0 rfl).at 2, (((hHeld.2.set (by simp) (by simp; omega) _).set (by simp) (by simp; omega) _).nth 0 rfl).at 3, (((hHeld.2.set (by simp) (by simp; omega) _).set (by simp) (by simp; omega) _).nth 0 rfl).at 4⟩, (hHeld.2.set (by simp) (by simp; omega) _).set (by simp) (by simp; omega) _⟩) (fun hHeld => ?_)
              clear hK K
              refine wpAnyH_done (by kernel_rfl) ?_ _
              refine NoPanic.normal ?_
              have I9 := hHeld.2
              have V9 := (V8.put 0 (.int .i64 (mxT (mxp x0 p0).1 (mxp x0 p0).2 t u))).put 1 (.int .i64 (mxP (mxp x0 p0).1 (mxp x0 p0).2 t u))
              simp only [List.setIfInBounds_toArray, List.set_cons_zero, List.set_cons_succ] at V9
              have hz8 := hb8.size
              have hz7d : W7.heap.size ≤ w8.heap.size := hz8
              have VM9 := (((VM7.drew.on (w' := w8) hb8).set (p := ⟨w.heap.size + 1 + 1, 0, none⟩) (by simp; omega) (.int .i64 (mxT (mxp x0 p0).1 (mxp x0 p0).2 t u))).set (p := ⟨w.heap.size + 1 + 1, 1, none⟩) (by simp; omega) (.int .i64 (mxP (mxp x0 p0).1 (mxp x0 p0).2 t u)))
              have WM9 := (((WM7.drew.on (w' := w8) hb8).set (p := ⟨w.heap.size + 1 + 1, 0, none⟩) (by simp; omega) (.int .i64 (mxT (mxp x0 p0).1 (mxp x0 p0).2 t u))).set (p := ⟨w.heap.size + 1 + 1, 1, none⟩) (by simp; omega) (.int .i64 (mxP (mxp x0 p0).1 (mxp x0 p0).2 t u)))
              clear hHeld v7 v8 V8 V6 VM7 WM7 I7
              have hsaw : sawT (viewOf st s) [p0, p1, p2, p3] (s, k, 0, t, u) = [(mxT (mxp x0 p0).1 (mxp x0 p0).2 t u, mxP (mxp x0 p0).1 (mxp x0 p0).2 t u), mxp x1 p1, mxp x2 p2, mxp x3 p3] := by rw [HX4.out]; rfl
              have HSAW := hide hsaw
              clear hsaw
              generalize (w8.setCell ⟨w.heap.size + 1 + 1, 0, none⟩ (.int .i64 (mxT (mxp x0 p0).1 (mxp x0 p0).2 t u))).setCell ⟨w.heap.size + 1 + 1, 1, none⟩ (.int .i64 (mxP (mxp x0 p0).1 (mxp x0 p0).2 t u)) = W9 at I9 V9 VM9 WM9 ⊢
              have o1 := (I9.nth 1 rfl).two
              have o2 := (I9.nth 0 rfl).five.1
              have o3 := V9.eight.1
              obtain ⟨w10, hrun, hVM10, hG10⟩ := VM9.put (by omega) hs0 hs3 (view_set HOK.out hs0 hs3 (sawT (viewOf st s) [p0, p1, p2, p3] (s, k, 0, t, u)) (st.2 ++ [((s, k, 0, t, u), sawT (viewOf st s) [p0, p1, p2, p3] (s, k, 0, t, u))])).1 (view_set HOK.out hs0 hs3 _ _).2
              have hrun' := hrun
              rw [HSAW.out, cells4_eq] at hrun'
              simp only at hrun'
              have HVM := hide hVM10
              clear hrun hVM10
              go_wp2
              go_ret
              refine ⟨some b1, ?_, ?_, ?_, (grown_none I9.below).trans hG10, fun g hg => ?_⟩
              · rw [HS.out]; rfl
              · rw [HS.out]; exact HVM.out
              · rw [HS.out]; exact ((WM9.kept hG10 (by intro e; injection e with e; exact HB.out e.symm)).mono (by omega)).read HK.out
              · injection hg with hg; exact .inl hg.symm
            · have ho' : (q0 != s) = false := by rw [hk3] at ho; simpa using ho
              clear ho
              go_wp2_with fail
              generalize w4.alloc (.cells #[.int .i64 q0, .int .i64 q2, .int .i64 p0.1, .int .i64 p0.2, .int .i64 p1.1, .int .i64 p1.2, .int .i64 p2.1, .int .i64 p2.2, .int .i64 p3.1, .int .i64 p3.2] 82) = W5 at I5 m1 m2 m3 ⊢
              refine (HJ.out _).mono ?_
              rintro e w6 ⟨rfl, hb6⟩
              have I6 := I5.on hb6
              have n2 := (I6.nth 1 rfl).eight
              have n3 := (I6.nth 2 rfl).five.1
              have V6 := ((((((((I6.nth 1 rfl).put 0 (.int .i64 (mxp x0 p0).1)).put 1 (.int .i64 (mxp x0 p0).2)).put 2 (.int .i64 (mxp x1 p1).1)).put 3 (.int .i64 (mxp x1 p1).2)).put 4 (.int .i64 (mxp x2 p2).1)).put 5 (.int .i64 (mxp x2 p2).2)).put 6 (.int .i64 (mxp x3 p3).1)).put 7 (.int .i64 (mxp x3 p3).2)
              simp only [List.setIfInBounds_toArray, List.set_cons_zero, List.set_cons_succ] at V6
              have zz := I5.room
              have z6 := hb6.size
              have I7 : Inv w (w.heap.size + 1 + 1) [(w.heap.size + 1, 53, doneC s k 0 t u), (w.heap.size, 70, #[.map (some b1), .map (some b2)])] (((((((((w6.setCell ⟨w.heap.size + 1 + 1, 0, none⟩ (.int .i64 (mxp x0 p0).1)).setCell ⟨w.heap.size + 1 + 1, 1, none⟩ (.int .i64 (mxp x0 p0).2)).setCell ⟨w.heap.size + 1 + 1, 2, none⟩ (.int .i64 (mxp x1 p1).1)).setCell ⟨w.heap.size + 1 + 1, 3, none⟩ (.int .i64 (mxp x1 p1).2)).setCell ⟨w.heap.size + 1 + 1, 4, none⟩ (.int .i64 (mxp x2 p2).1)).setCell ⟨w.heap.size + 1 + 1, 5, none⟩ (.int .i64 (mxp x2 p2).2)).setCell ⟨w.heap.size + 1 + 1, 6, none⟩ (.int .i64 (mxp x3 p3).1)).setCell ⟨w.heap.size + 1 + 1, 7, none⟩ (.int .i64 (mxp x3 p3).2))) := ((((((((narrow I6 (by omega) (by simp) (by simp; omega)).set (by simp) (by simp; omega) _).set (by simp) (by simp; omega) _).set (by simp) (by simp; omega) _).set (by simp) (by simp; omega) _).set (by simp) (by simp; omega) _).set (by simp) (by simp; omega) _).set (by simp) (by simp; omega) _).set (by simp) (by simp; omega) _
              have VM6 := HV.out.on I6.below
              have WM6 := HW.out.on I6.below
              have VM7 := (((((((VM6.set (p := ⟨w.heap.size + 1 + 1, 0, none⟩) (by simp; omega) (.int .i64 (mxp x0 p0).1)).set (p := ⟨w.heap.size + 1 + 1, 1, none⟩) (by simp; omega) (.int .i64 (mxp x0 p0).2)).set (p := ⟨w.heap.size + 1 + 1, 2, none⟩) (by simp; omega) (.int .i64 (mxp x1 p1).1)).set (p := ⟨w.heap.size + 1 + 1, 3, none⟩) (by simp; omega) (.int .i64 (mxp x1 p1).2)).set (p := ⟨w.heap.size + 1 + 1, 4, none⟩) (by simp; omega) (.int .i64 (mxp x2 p2).1)).set (p := ⟨w.heap.size + 1 + 1, 5, none⟩) (by simp; omega) (.int .i64 (mxp x2 p2).2)).set (p := ⟨w.heap.size + 1 + 1, 6, none⟩) (by simp; omega) (.int .i64 (mxp x3 p3).1)).set (p := ⟨w.heap.size + 1 + 1, 7, none⟩) (by simp; omega) (.int .i64 (mxp x3 p3).2)
              have WM7 := (((((((WM6.set (p := ⟨w.heap.size + 1 + 1, 0, none⟩) (by simp; omega) (.int .i64 (mxp x0 p0).1)).set (p := ⟨w.heap.size + 1 + 1, 1, none⟩) (by simp; omega) (.int .i64 (mxp x0 p0).2)).set (p := ⟨w.heap.size + 1 + 1, 2, none⟩) (by simp; omega) (.int .i64 (mxp x1 p1).1)).set (p := ⟨w.heap.size + 1 + 1, 3, none⟩) (by simp; omega) (.int .i64 (mxp x1 p1).2)).set (p := ⟨w.heap.size + 1 + 1, 4, none⟩) (by simp; omega) (.int .i64 (mxp x2 p2).1)).set (p := ⟨w.heap.size + 1 + 1, 5, none⟩) (by simp; omega) (.int .i64 (mxp x2 p2).2)).set (p := ⟨w.heap.size + 1 + 1, 6, none⟩) (by simp; omega) (.int .i64 (mxp x3 p3).1)).set (p := ⟨w.heap.size + 1 + 1, 7, none⟩) (by simp; omega) (.int .i64 (mxp x3 p3).2)
              clear m1 m2 m3 I5 HJ hb6 VM6 WM6
              go_wp2_with fail
              clear n2 n3
              generalize ((((((((w6.setCell ⟨w.heap.size + 1 + 1, 0, none⟩ (.int .i64 (mxp x0 p0).1)).setCell ⟨w.heap.size + 1 + 1, 1, none⟩ (.int .i64 (mxp x0 p0).2)).setCell ⟨w.heap.size + 1 + 1, 2, none⟩ (.int .i64 (mxp x1 p1).1)).setCell ⟨w.heap.size + 1 + 1, 3, none⟩ (.int .i64 (mxp x1 p1).2)).setCell ⟨w.heap.size + 1 + 1, 4, none⟩ (.int .i64 (mxp x2 p2).1)).setCell ⟨w.heap.size + 1 + 1, 5, none⟩ (.int .i64 (mxp x2 p2).2)).setCell ⟨w.heap.size + 1 + 1, 6, none⟩ (.int .i64 (mxp x3 p3).1)).setCell ⟨w.heap.size + 1 + 1, 7, none⟩ (.int .i64 (mxp x3 p3).2)) = W7 at V6 I7 VM7 WM7 ⊢
              have hz7 := V6.inside
              have v7 := V6.drew.eight.1
              refine wp_region_noPanic ?_
              refine wp_region_held_drew (S := (fun w' => (w'.cell? ⟨w.heap.size + 1, 2, none⟩ = some (.int .i64 0) ∧ w'.cell? ⟨w.heap.size + 1, 3, none⟩ = some (.int .i64 t) ∧ w'.cell? ⟨w.heap.size + 1, 4, none⟩ = some (.int .i64 u)) ∧ Inv w (w.heap.size + 1 + 1) [(w.heap.size + 1, 53, doneC s k 0 t u), (w.heap.size, 70, #[.map (some b1), .map (some b2)])] w')) (by kernel_rfl) (by exact ⟨⟨(I7.drew.nth 0 rfl).at 2, (I7.drew.nth 0 rfl).at 3, (I7.drew.nth 0 rfl).at 4⟩, I7.drew⟩) (fun hHeld => ?_)
              refine take_run 0 (some 58) (v := ?_) rfl rfl (by kernel_rfl) (by kernel_rfl) (by kernel_rfl) (fun _ _ _ h => h) (by rfl) ?_ hHeld ?_
              rotate_left
              · ((intro w hSw); (try dsimp only at hSw); go_simp <;> with_reducible rfl)
              simp only [Act.put, List.setIfInBounds_toArray, List.set_cons_zero, List.set_cons_succ]
              refine take_run 1 (some 59) (v := ?_) rfl rfl (by kernel_rfl) (by kernel_rfl) (by kernel_rfl) (fun _ _ _ h => h) (by rfl) ?_ hHeld ?_
              rotate_left
              · ((intro w hSw); (try dsimp only at hSw); go_simp <;> with_reducible rfl)
              simp only [Act.put, List.setIfInBounds_toArray, List.set_cons_zero, List.set_cons_succ]
              refine take_run 2 (some 60) (v := ?_) rfl rfl (by kernel_rfl) (by kernel_rfl) (by kernel_rfl) (fun _ _ _ h => h) (by rfl) ?_ hHeld ?_
              rotate_left
              · ((intro w hSw); (try dsimp only at hSw); go_simp <;> with_reducible rfl)
              simp only [Act.put, List.setIfInBounds_toArray, List.set_cons_zero, List.set_cons_succ]
              refine take_run 3 (some 61) (v := ?_) rfl rfl (by kernel_rfl) (by kernel_rfl) (by kernel_rfl) (fun _ _ _ h => h) (by rfl) ?_ hHeld ?_
              rotate_left
              · ((intro w hSw); (try dsimp only at hSw); go_simp <;> with_reducible rfl)
              simp only [Act.put, List.setIfInBounds_toArray, List.set_cons_zero, List.set_cons_succ]
              refine take_run 4 (some 62) (v := ?_) rfl rfl (by kernel_rfl) (by kernel_rfl) (by kernel_rfl) (fun _ _ _ h => h) (by rfl) ?_ hHeld ?_
              rotate_left
              · ((intro w hSw); (try dsimp only at hSw); go_simp <;> with_reducible rfl)
              simp only [Act.put, List.setIfInBounds_toArray, List.set_cons_zero, List.set_cons_succ]
              refine take_run 5 (some 63) (v := ?_) rfl rfl (by kernel_rfl) (by kernel_rfl) (by kernel_rfl) (fun _ _ _ h => h) (by rfl) ?_ hHeld ?_
              rotate_left
              · ((intro w hSw); (try dsimp only at hSw); go_simp <;> with_reducible rfl)
              simp only [Act.put, List.setIfInBounds_toArray, List.set_cons_zero, List.set_cons_succ]
              refine take_run 7 (some 65) (v := ?_) rfl rfl (by kernel_rfl) (by kernel_rfl) (by kernel_rfl) (fun _ _ _ h => h) (by rfl) ?_ hHeld ?_
              rotate_left
              · ((intro w hSw); (try dsimp only at hSw); go_simp <;> with_reducible rfl)
              simp only [Act.put, List.setIfInBounds_toArray, List.set_cons_zero, List.set_cons_succ]
              refine take_run 8 (some 66) (v := ?_) rfl rfl (by kernel_rfl) (by kernel_rfl) (by kernel_rfl) (fun _ _ _ h => h) (by rfl) ?_ hHeld ?_
              rotate_left
              · ((intro w hSw); (try dsimp only at hSw); go_simp <;> with_reducible rfl)
              simp only [Act.put, List.setIfInBounds_toArray, List.set_cons_zero, List.set_cons_succ]
              refine take_run 10 (some 68) (v := ?_) rfl rfl (by kernel_rfl) (by kernel_rfl) (by kernel_rfl) (fun _ _ _ h => h) (by rfl) ?_ hHeld ?_
              rotate_left
              · ((intro w hSw); (try dsimp only at hSw); go_simp <;> with_reducible rfl)
              simp only [Act.put, List.setIfInBounds_toArray, List.set_cons_zero, List.set_cons_succ]
              refine take_one 6 (by kernel_rfl) rfl (fun K hK => ?_)
              go_simp
              refine hK.out _ _ (by exact hHeld) (fun hHeld => ?_)
              clear hK K
              refine take_one 9 (by kernel_rfl) rfl (fun K hK => ?_)
              go_simp
              (refine (implTagMax_any _ _ _ _ _).mono ?_; rintro e w8 ⟨rfl, hb8⟩; have V8 := V6.drew.on hb8; have v8 := V8.eight)
              try go_wp2_with fail
              refine hK.out _ _ (by exact ⟨⟨((hHeld.2.on hb8).nth 0 rfl).at 2, ((hHeld.2.on hb8).nth 0 rfl).at 3, ((hHeld.2.on hb8).nth 0 rfl).at 4⟩, hHeld.2.on hb8⟩) (fun hHeld => ?_)
              clear hK K
              refine take_run 11 (some 69) (v := ?_) rfl rfl (by kernel_rfl) (by kernel_rfl) (by kernel_rfl) (fun _ _ _ h => h) (by rfl) ?_ hHeld ?_
              rotate_left
              · ((intro w hSw); (try dsimp only at hSw); go_simp <;> with_reducible rfl)
              simp only [Act.put, List.setIfInBounds_toArray, List.set_cons_zero, List.set_cons_succ]
              refine take_one 12 (by kernel_rfl) rfl (fun K hK => ?_)
              go_simp
              refine hK.out _ _ (by exact ⟨⟨(((hHeld.2.set (by simp) (by simp; omega) _).set (by simp) (by simp; omega) _).nth 0 rfl).at 2, (((hHeld.2.set (by simp) (by simp; omega) _).set (by simp) (by simp; omega) _).nth 0 rfl).at 3, (((hHeld.2.set (by simp) (by simp; omega) _).set (by simp) (by simp; omega) _).nth 0 rfl).at 4⟩, (hHeld.2.set (by simp) (by simp; omega) _).set (by simp) (by simp; omega) _⟩) (fun hHeld => ?_)
              clear hK K
              refine wpAnyH_done (by kernel_rfl) ?_ _
              refine NoPanic.normal ?_
              have I9 := hHeld.2
              have V9 := (V8.put 0 (.int .i64 (mxT (mxp x0 p0).1 (mxp x0 p0).2 t u))).put 1 (.int .i64 (mxP (mxp x0 p0).1 (mxp x0 p0).2 t u))
              simp only [List.setIfInBounds_toArray, List.set_cons_zero, List.set_cons_succ] at V9
              have hz8 := hb8.size
              have hz7d : W7.heap.size ≤ w8.heap.size := hz8
              have VM9 := (((VM7.drew.on (w' := w8) hb8).set (p := ⟨w.heap.size + 1 + 1, 0, none⟩) (by simp; omega) (.int .i64 (mxT (mxp x0 p0).1 (mxp x0 p0).2 t u))).set (p := ⟨w.heap.size + 1 + 1, 1, none⟩) (by simp; omega) (.int .i64 (mxP (mxp x0 p0).1 (mxp x0 p0).2 t u)))
              have WM9 := (((WM7.drew.on (w' := w8) hb8).set (p := ⟨w.heap.size + 1 + 1, 0, none⟩) (by simp; omega) (.int .i64 (mxT (mxp x0 p0).1 (mxp x0 p0).2 t u))).set (p := ⟨w.heap.size + 1 + 1, 1, none⟩) (by simp; omega) (.int .i64 (mxP (mxp x0 p0).1 (mxp x0 p0).2 t u)))
              clear hHeld v7 v8 V8 V6 VM7 WM7 I7
              have hsaw : sawT (viewOf st s) [p0, p1, p2, p3] (s, k, 0, t, u) = [(mxT (mxp x0 p0).1 (mxp x0 p0).2 t u, mxP (mxp x0 p0).1 (mxp x0 p0).2 t u), mxp x1 p1, mxp x2 p2, mxp x3 p3] := by rw [HX4.out]; rfl
              have HSAW := hide hsaw
              clear hsaw
              generalize (w8.setCell ⟨w.heap.size + 1 + 1, 0, none⟩ (.int .i64 (mxT (mxp x0 p0).1 (mxp x0 p0).2 t u))).setCell ⟨w.heap.size + 1 + 1, 1, none⟩ (.int .i64 (mxP (mxp x0 p0).1 (mxp x0 p0).2 t u)) = W9 at I9 V9 VM9 WM9 ⊢
              have o1 := (I9.nth 1 rfl).two
              have o2 := (I9.nth 0 rfl).five.1
              have o3 := V9.eight.1
              obtain ⟨w10, hrun, hVM10, hG10⟩ := VM9.put (by omega) hs0 hs3 (view_set HOK.out hs0 hs3 (sawT (viewOf st s) [p0, p1, p2, p3] (s, k, 0, t, u)) (st.2 ++ [((s, k, 0, t, u), sawT (viewOf st s) [p0, p1, p2, p3] (s, k, 0, t, u))])).1 (view_set HOK.out hs0 hs3 _ _).2
              have hrun' := hrun
              rw [HSAW.out, cells4_eq] at hrun'
              simp only at hrun'
              have HVM := hide hVM10
              clear hrun hVM10
              go_wp2
              go_ret
              refine ⟨some b1, ?_, ?_, ?_, (grown_none I9.below).trans hG10, fun g hg => ?_⟩
              · rw [HS.out]; rfl
              · rw [HS.out]; exact HVM.out
              · rw [HS.out]; exact ((WM9.kept hG10 (by intro e; injection e with e; exact HB.out e.symm)).mono (by omega)).read HK.out
              · injection hg with hg; exact .inl hg.symm
          · have HS := hide (step_sight_own HK.out HL.out HZ.out HWR.out hy ho)
            have hk3 : (k == 3) = true := by simp only [Bool.and_eq_true] at ho; exact ho.1
            have ho' : (q0 != s) = true := by simp only [Bool.and_eq_true] at ho; exact ho.2
            clear ho
            go_wp2
            go_ret
            exact added_none HS.out HV.out HW.out L5
        · have HS := hide (step_sight_key HK.out HL.out HZ.out HWR.out hy)
          go_wp2
          go_ret
          exact added_none HS.out HV.out HW.out L5
    · have hq' : ∀ W : World, (binOp .eql 43 (.agg #[.int .i64 t, .int .i64 u]) (.agg #[.int .i64 0, .int .i64 0])).run Try.prog W = .ok (.bool true) W := fun W => by rw [hq W, hz]
      have HS := hide (step_sight_zero HK.out (by rw [HTA.out]; exact hl) hz)
      clear hq hz hl
      go_wp2
      go_ret
      refine ⟨none, ?_, ?_, ?_, grown_none I4.below, by simp⟩
      · rw [HS.out]; rfl
      · rw [HS.out]; exact ((HV.out.on I4.below).mono (by omega)).same rfl
      · rw [HS.out]; exact ((HW.out.on I4.below).mono (by omega)).read HK.out
  · have HS := hide (step_sight_early HK.out (by rw [HTA.out]; exact hl))
    clear hl hq
    go_wp2
    go_ret
    exact added_none HS.out HV.out HW.out I4.below

set_option maxRecDepth 100000 in
set_option maxHeartbeats 8000000 in
theorem addSight_1 (b1 b2 N : Nat) (st : St) (s k t u : Int) (w : World) (hok : StOk st) (hk : (k == 1) = false) (hv : doneB (s, k, 1, t, u) = true) (hb : b1 ≠ b2) (hN : N < 1000) (hV : VM w b1 N st) (hW : WM w b2 N st) :
    Calls Try.prog 110 #[.agg #[.map (some b1), .map (some b2)], .agg (doneC s k 1 t u)] w (Added w b1 b2 N st (s, k, 1, t, u)) := by
  obtain ⟨x0, x1, x2, x3, hx4⟩ := four_len (viewOf_len hok s)
  have hi := doneB_i hv
  have hto := hi.2.2.2.2.2.2.1
  have hs0 := hi.1
  have hs3 := hi.2.1
  have hta : tagAt (viewOf st s) 1 = x1 := by rw [hx4]; rfl
  have HB := hide hb
  have HK := hide hk
  have HTA := hide hta
  have HTO := hide hto
  have HOK := hide hok
  have S0 := (((Inv.start w).box 70 #[.map (some b1), .map (some b2)]).box 53 (doneC s k 1 t u)).box 77 #[.int .i64 x0.1, .int .i64 x0.2, .int .i64 x1.1, .int .i64 x1.2, .int .i64 x2.1, .int .i64 x2.2, .int .i64 x3.1, .int .i64 x3.2]
  simp only [World.size_alloc] at S0
  have look1 := (hV.on (((Inv.start w).box 70 #[.map (some b1), .map (some b2)]).box 53 (doneC s k 1 t u)).below).look (s := s) hi.1 hi.2.1
  rw [hx4, cells4_eq] at look1
  have HX4 := hide hx4
  have HV := hide hV
  have HW := hide hW
  have hV1 := hV.lt
  have hW1 := hW.lt
  have hq := tagEql_run t u 0 0
  clear hv hi hto hok hb hV hW hta hx4 hk
  have C2 : ∀ W : World, Calls Try.prog 91 #[.agg #[.int .i64 t, .int .i64 u], .agg #[.int .i64 x1.1, .int .i64 x1.2]] W fun e w' => e = .returned (.bool (lessB t u x1.1 x1.2)) ∧ Below W.heap.size W w' := fun W => less_any t u _ _ W
  have HC2 := hide C2
  clear C2
  go_enter Try.func110, Try.ntmps110
  go_wp2_with fail
  clear look1
  generalize (((w.alloc (.cells #[.map (some b1), .map (some b2)] 70)).alloc (.cells (doneC s k 1 t u) 53)).alloc (.cells #[.int .i64 x0.1, .int .i64 x0.2, .int .i64 x1.1, .int .i64 x1.2, .int .i64 x2.1, .int .i64 x2.2, .int .i64 x3.1, .int .i64 x3.2] 77)) = W at S0 ⊢
  refine wp_region_noPanic ?_
  refine wp_region_held_drew (S := (fun w' => (w'.cell? ⟨w.heap.size + 1, 2, none⟩ = some (.int .i64 1) ∧ w'.cell? ⟨w.heap.size + 1, 3, none⟩ = some (.int .i64 t) ∧ w'.cell? ⟨w.heap.size + 1, 4, none⟩ = some (.int .i64 u) ∧ w'.cell? ⟨w.heap.size + 1 + 1, 2, none⟩ = some (.int .i64 x1.1) ∧ w'.cell? ⟨w.heap.size + 1 + 1, 3, none⟩ = some (.int .i64 x1.2)) ∧ Inv w (w.heap.size + 1 + 1 + 1) [(w.heap.size + 1 + 1, 77, #[.int .i64 x0.1, .int .i64 x0.2, .int .i64 x1.1, .int .i64 x1.2, .int .i64 x2.1, .int .i64 x2.2, .int .i64 x3.1, .int .i64 x3.2]), (w.heap.size + 1, 53, doneC s k 1 t u), (w.heap.size, 70, #[.map (some b1), .map (some b2)])] w')) (by kernel_rfl) (by exact ⟨⟨(S0.drew.nth 1 rfl).at 2, (S0.drew.nth 1 rfl).at 3, (S0.drew.nth 1 rfl).at 4, (S0.drew.nth 0 rfl).at 2, (S0.drew.nth 0 rfl).at 3⟩, S0.drew⟩) (fun hHeld => ?_)
  refine take_run 0 (some 13) (v := ?_) rfl rfl (by kernel_rfl) (by kernel_rfl) (by kernel_rfl) (fun _ _ _ h => h) (by rfl) ?_ hHeld ?_
  rotate_left
  · ((intro w hSw); (try dsimp only at hSw); go_simp <;> with_reducible rfl)
  simp only [Act.put, List.setIfInBounds_toArray, List.set_cons_zero, List.set_cons_succ]
  refine take_run 1 (some 14) (v := ?_) rfl rfl (by kernel_rfl) (by kernel_rfl) (by kernel_rfl) (fun _ _ _ h => h) (by rfl) ?_ hHeld ?_
  rotate_left
  · ((intro w hSw); (try dsimp only at hSw); go_simp <;> with_reducible rfl)
  simp only [Act.put, List.setIfInBounds_toArray, List.set_cons_zero, List.set_cons_succ]
  refine take_run 2 (some 15) (v := ?_) rfl rfl (by kernel_rfl) (by kernel_rfl) (by kernel_rfl) (fun _ _ _ h => h) (by rfl) ?_ hHeld ?_
  rotate_left
  · ((intro w hSw); (try dsimp only at hSw); go_simp <;> with_reducible rfl)
  simp only [Act.put, List.setIfInBounds_toArray, List.set_cons_zero, List.set_cons_succ]
  refine take_run 3 (some 16) (v := ?_) rfl rfl (by kernel_rfl) (by kernel_rfl) (by kernel_rfl) (fun _ _ _ h => h) (by rfl) ?_ hHeld ?_
  rotate_left
  · ((intro w hSw); (try dsimp only at hSw); go_simp <;> with_reducible rfl)
  simp only [Act.put, List.setIfInBounds_toArray, List.set_cons_zero, List.set_cons_succ]
  refine take_run 4 (some 17) (v := ?_) rfl rfl (by kernel_rfl) (by kernel_rfl) (by kernel_rfl) (fun _ _ _ h => h) (by rfl) ?_ hHeld ?_
  rotate_left
  · ((intro w hSw); (try dsimp only at hSw); go_simp <;> with_reducible rfl)
  simp only [Act.put, List.setIfInBounds_toArray, List.set_cons_zero, List.set_cons_succ]
  refine take_run 5 (some 18) (v := ?_) rfl rfl (by kernel_rfl) (by kernel_rfl) (by kernel_rfl) (fun _ _ _ h => h) (by rfl) ?_ hHeld ?_
  rotate_left
  · ((intro w hSw); (try dsimp only at hSw); go_simp <;> with_reducible rfl)
  simp only [Act.put, List.setIfInBounds_toArray, List.set_cons_zero, List.set_cons_succ]
  refine take_run 6 (some 19) (v := ?_) rfl rfl (by kernel_rfl) (by kernel_rfl) (by kernel_rfl) (fun _ _ _ h => h) (by rfl) ?_ hHeld ?_
  rotate_left
  · ((intro w hSw); (try dsimp only at hSw); go_simp <;> with_reducible rfl)
  simp only [Act.put, List.setIfInBounds_toArray, List.set_cons_zero, List.set_cons_succ]
  refine take_one 7 (by kernel_rfl) rfl (fun K hK => ?_)
  go_simp
  (refine (HC2.out _).mono ?_; rintro e w4 ⟨rfl, hb4⟩)
  try go_wp2_with fail
  refine hK.out _ _ (by exact ⟨⟨((hHeld.2.on hb4).nth 1 rfl).at 2, ((hHeld.2.on hb4).nth 1 rfl).at 3, ((hHeld.2.on hb4).nth 1 rfl).at 4, ((hHeld.2.on hb4).nth 0 rfl).at 2, ((hHeld.2.on hb4).nth 0 rfl).at 3⟩, (hHeld.2.on hb4)⟩) (fun hHeld => ?_)
  clear hK K
  refine wpAnyH_done (by kernel_rfl) ?_ _
  refine NoPanic.normal ?_
  have I4 := hHeld.2
  clear hHeld S0 HC2
  have k1 := (I4.nth 2 rfl).two
  have k2 := (I4.nth 1 rfl).five.1
  have z4' := I4.room
  cases hl : lessB t u x1.1 x1.2
  · cases hz : eqB t u 0 0
    · have hq' : ∀ W : World, (binOp .eql 43 (.agg #[.int .i64 t, .int .i64 u]) (.agg #[.int .i64 0, .int .i64 0])).run Try.prog W = .ok (.bool false) W := fun W => by rw [hq W, hz]
      have HZ := hide hz
      have HL : Hid (lessB t u (tagAt (viewOf st s) 1).1 (tagAt (viewOf st s) 1).2 = false) := by unfold Hid; rw [HTA.out]; exact hl
      clear hq hz hl
      cases hwr : wrote st t u with
      | none =>
        have look2 := (HW.out.on I4.below).missing HTO.out hwr
        have HS := hide (step_sight_none HK.out HL.out HZ.out hwr)
        have L5 := I4.below.alloc I4.base (.cells zero10 82)
        clear hwr
        go_wp2
        go_ret
        exact added_none HS.out HV.out HW.out L5
      | some x =>
        have look2 := (HW.out.on I4.below).found HTO.out hwr
        obtain ⟨⟨q0, q1, q2, q3, q4⟩, p⟩ := x
        obtain ⟨p0, p1, p2, p3, hp⟩ := four_len (wrote_len HOK.out hwr)
        simp only at hp
        subst hp
        rw [wrCells_eq] at look2
        simp only at look2
        have HWR := hide hwr
        have L5 := I4.below.alloc I4.base (.cells #[.int .i64 q0, .int .i64 q2, .int .i64 p0.1, .int .i64 p0.2, .int .i64 p1.1, .int .i64 p1.2, .int .i64 p2.1, .int .i64 p2.2, .int .i64 p3.1, .int .i64 p3.2] 82)
        clear hwr
        have I5 := I4.top.box 82 #[.int .i64 q0, .int .i64 q2, .int .i64 p0.1, .int .i64 p0.2, .int .i64 p1.1, .int .i64 p1.2, .int .i64 p2.1, .int .i64 p2.2, .int .i64 p3.1, .int .i64 p3.2]
        simp only [World.size_alloc] at I5
        have m1 := (I5.nth 0 rfl).ten
        have m2 := (I5.nth 1 rfl).eight.1
        have m3 := (I5.nth 2 rfl).five.1
        cases hy : (q2 != 1)
        · cases ho : ((k == 3) && (q0 != s))
          · have HS := hide (step_sight HK.out HL.out HZ.out HWR.out hy ho)
            have HJ := hide (join_any x0 x1 x2 x3 p0 p1 p2 p3)
            clear L5
            cases hk3 : (k == 3)
            · clear ho
              go_wp2_with fail
              generalize w4.alloc (.cells #[.int .i64 q0, .int .i64 q2, .int .i64 p0.1, .int .i64 p0.2, .int .i64 p1.1, .int .i64 p1.2, .int .i64 p2.1, .int .i64 p2.2, .int .i64 p3.1, .int .i64 p3.2] 82) = W5 at I5 m1 m2 m3 ⊢
              refine (HJ.out _).mono ?_
              rintro e w6 ⟨rfl, hb6⟩
              have I6 := I5.on hb6
              have n2 := (I6.nth 1 rfl).eight
              have n3 := (I6.nth 2 rfl).five.1
              have V6 := ((((((((I6.nth 1 rfl).put 0 (.int .i64 (mxp x0 p0).1)).put 1 (.int .i64 (mxp x0 p0).2)).put 2 (.int .i64 (mxp x1 p1).1)).put 3 (.int .i64 (mxp x1 p1).2)).put 4 (.int .i64 (mxp x2 p2).1)).put 5 (.int .i64 (mxp x2 p2).2)).put 6 (.int .i64 (mxp x3 p3).1)).put 7 (.int .i64 (mxp x3 p3).2)
              simp only [List.setIfInBounds_toArray, List.set_cons_zero, List.set_cons_succ] at V6
              have zz := I5.room
              have z6 := hb6.size
              have I7 : Inv w (w.heap.size + 1 + 1) [(w.heap.size + 1, 53, doneC s k 1 t u), (w.heap.size, 70, #[.map (some b1), .map (some b2)])] (((((((((w6.setCell ⟨w.heap.size + 1 + 1, 0, none⟩ (.int .i64 (mxp x0 p0).1)).setCell ⟨w.heap.size + 1 + 1, 1, none⟩ (.int .i64 (mxp x0 p0).2)).setCell ⟨w.heap.size + 1 + 1, 2, none⟩ (.int .i64 (mxp x1 p1).1)).setCell ⟨w.heap.size + 1 + 1, 3, none⟩ (.int .i64 (mxp x1 p1).2)).setCell ⟨w.heap.size + 1 + 1, 4, none⟩ (.int .i64 (mxp x2 p2).1)).setCell ⟨w.heap.size + 1 + 1, 5, none⟩ (.int .i64 (mxp x2 p2).2)).setCell ⟨w.heap.size + 1 + 1, 6, none⟩ (.int .i64 (mxp x3 p3).1)).setCell ⟨w.heap.size + 1 + 1, 7, none⟩ (.int .i64 (mxp x3 p3).2))) := ((((((((narrow I6 (by omega) (by simp) (by simp; omega)).set (by simp) (by simp; omega) _).set (by simp) (by simp; omega) _).set (by simp) (by simp; omega) _).set (by simp) (by simp; omega) _).set (by simp) (by simp; omega) _).set (by simp) (by simp; omega) _).set (by simp) (by simp; omega) _).set (by simp) (by simp; omega) _
              have VM6 := HV.out.on I6.below
              have WM6 := HW.out.on I6.below
              have VM7 := (((((((VM6.set (p := ⟨w.heap.size + 1 + 1, 0, none⟩) (by simp; omega) (.int .i64 (mxp x0 p0).1)).set (p := ⟨w.heap.size + 1 + 1, 1, none⟩) (by simp; omega) (.int .i64 (mxp x0 p0).2)).set (p := ⟨w.heap.size + 1 + 1, 2, none⟩) (by simp; omega) (.int .i64 (mxp x1 p1).1)).set (p := ⟨w.heap.size + 1 + 1, 3, none⟩) (by simp; omega) (.int .i64 (mxp x1 p1).2)).set (p := ⟨w.heap.size + 1 + 1, 4, none⟩) (by simp; omega) (.int .i64 (mxp x2 p2).1)).set (p := ⟨w.heap.size + 1 + 1, 5, none⟩) (by simp; omega) (.int .i64 (mxp x2 p2).2)).set (p := ⟨w.heap.size + 1 + 1, 6, none⟩) (by simp; omega) (.int .i64 (mxp x3 p3).1)).set (p := ⟨w.heap.size + 1 + 1, 7, none⟩) (by simp; omega) (.int .i64 (mxp x3 p3).2)
              have WM7 := (((((((WM6.set (p := ⟨w.heap.size + 1 + 1, 0, none⟩) (by simp; omega) (.int .i64 (mxp x0 p0).1)).set (p := ⟨w.heap.size + 1 + 1, 1, none⟩) (by simp; omega) (.int .i64 (mxp x0 p0).2)).set (p := ⟨w.heap.size + 1 + 1, 2, none⟩) (by simp; omega) (.int .i64 (mxp x1 p1).1)).set (p := ⟨w.heap.size + 1 + 1, 3, none⟩) (by simp; omega) (.int .i64 (mxp x1 p1).2)).set (p := ⟨w.heap.size + 1 + 1, 4, none⟩) (by simp; omega) (.int .i64 (mxp x2 p2).1)).set (p := ⟨w.heap.size + 1 + 1, 5, none⟩) (by simp; omega) (.int .i64 (mxp x2 p2).2)).set (p := ⟨w.heap.size + 1 + 1, 6, none⟩) (by simp; omega) (.int .i64 (mxp x3 p3).1)).set (p := ⟨w.heap.size + 1 + 1, 7, none⟩) (by simp; omega) (.int .i64 (mxp x3 p3).2)
              clear m1 m2 m3 I5 HJ hb6 VM6 WM6
              go_wp2_with fail
              clear n2 n3
              generalize ((((((((w6.setCell ⟨w.heap.size + 1 + 1, 0, none⟩ (.int .i64 (mxp x0 p0).1)).setCell ⟨w.heap.size + 1 + 1, 1, none⟩ (.int .i64 (mxp x0 p0).2)).setCell ⟨w.heap.size + 1 + 1, 2, none⟩ (.int .i64 (mxp x1 p1).1)).setCell ⟨w.heap.size + 1 + 1, 3, none⟩ (.int .i64 (mxp x1 p1).2)).setCell ⟨w.heap.size + 1 + 1, 4, none⟩ (.int .i64 (mxp x2 p2).1)).setCell ⟨w.heap.size + 1 + 1, 5, none⟩ (.int .i64 (mxp x2 p2).2)).setCell ⟨w.heap.size + 1 + 1, 6, none⟩ (.int .i64 (mxp x3 p3).1)).setCell ⟨w.heap.size + 1 + 1, 7, none⟩ (.int .i64 (mxp x3 p3).2)) = W7 at V6 I7 VM7 WM7 ⊢
              have hz7 := V6.inside
              have v7 := V6.drew.eight.1
              refine wp_region_noPanic ?_
              refine wp_region_held_drew (S := (fun w' => (w'.cell? ⟨w.heap.size + 1, 2, none⟩ = some (.int .i64 1) ∧ w'.cell? ⟨w.heap.size + 1, 3, none⟩ = some (.int .i64 t) ∧ w'.cell? ⟨w.heap.size + 1, 4, none⟩ = some (.int .i64 u)) ∧ Inv w (w.heap.size + 1 + 1) [(w.heap.size + 1, 53, doneC s k 1 t u), (w.heap.size, 70, #[.map (some b1), .map (some b2)])] w')) (by kernel_rfl) (by exact ⟨⟨(I7.drew.nth 0 rfl).at 2, (I7.drew.nth 0 rfl).at 3, (I7.drew.nth 0 rfl).at 4⟩, I7.drew⟩) (fun hHeld => ?_)
              refine take_run 0 (some 58) (v := ?_) rfl rfl (by kernel_rfl) (by kernel_rfl) (by kernel_rfl) (fun _ _ _ h => h) (by rfl) ?_ hHeld ?_
              rotate_left
              · ((intro w hSw); (try dsimp only at hSw); go_simp <;> with_reducible rfl)
              simp only [Act.put, List.setIfInBounds_toArray, List.set_cons_zero, List.set_cons_succ]
              refine take_run 1 (some 59) (v := ?_) rfl rfl (by kernel_rfl) (by kernel_rfl) (by kernel_rfl) (fun _ _ _ h => h) (by rfl) ?_ hHeld ?_
              rotate_left
              · ((intro w hSw); (try dsimp only at hSw); go_simp <;> with_reducible rfl)
              simp only [Act.put, List.setIfInBounds_toArray, List.set_cons_zero, List.set_cons_succ]
              refine take_run 2 (some 60) (v := ?_) rfl rfl (by kernel_rfl) (by kernel_rfl) (by kernel_rfl) (fun _ _ _ h => h) (by rfl) ?_ hHeld ?_
              rotate_left
              · ((intro w hSw); (try dsimp only at hSw); go_simp <;> with_reducible rfl)
              simp only [Act.put, List.setIfInBounds_toArray, List.set_cons_zero, List.set_cons_succ]
              refine take_run 3 (some 61) (v := ?_) rfl rfl (by kernel_rfl) (by kernel_rfl) (by kernel_rfl) (fun _ _ _ h => h) (by rfl) ?_ hHeld ?_
              rotate_left
              · ((intro w hSw); (try dsimp only at hSw); go_simp <;> with_reducible rfl)
              simp only [Act.put, List.setIfInBounds_toArray, List.set_cons_zero, List.set_cons_succ]
              refine take_run 4 (some 62) (v := ?_) rfl rfl (by kernel_rfl) (by kernel_rfl) (by kernel_rfl) (fun _ _ _ h => h) (by rfl) ?_ hHeld ?_
              rotate_left
              · ((intro w hSw); (try dsimp only at hSw); go_simp <;> with_reducible rfl)
              simp only [Act.put, List.setIfInBounds_toArray, List.set_cons_zero, List.set_cons_succ]
              refine take_run 5 (some 63) (v := ?_) rfl rfl (by kernel_rfl) (by kernel_rfl) (by kernel_rfl) (fun _ _ _ h => h) (by rfl) ?_ hHeld ?_
              rotate_left
              · ((intro w hSw); (try dsimp only at hSw); go_simp <;> with_reducible rfl)
              simp only [Act.put, List.setIfInBounds_toArray, List.set_cons_zero, List.set_cons_succ]
              refine take_run 7 (some 65) (v := ?_) rfl rfl (by kernel_rfl) (by kernel_rfl) (by kernel_rfl) (fun _ _ _ h => h) (by rfl) ?_ hHeld ?_
              rotate_left
              · ((intro w hSw); (try dsimp only at hSw); go_simp <;> with_reducible rfl)
              simp only [Act.put, List.setIfInBounds_toArray, List.set_cons_zero, List.set_cons_succ]
              refine take_run 8 (some 66) (v := ?_) rfl rfl (by kernel_rfl) (by kernel_rfl) (by kernel_rfl) (fun _ _ _ h => h) (by rfl) ?_ hHeld ?_
              rotate_left
              · ((intro w hSw); (try dsimp only at hSw); go_simp <;> with_reducible rfl)
              simp only [Act.put, List.setIfInBounds_toArray, List.set_cons_zero, List.set_cons_succ]
              refine take_run 10 (some 68) (v := ?_) rfl rfl (by kernel_rfl) (by kernel_rfl) (by kernel_rfl) (fun _ _ _ h => h) (by rfl) ?_ hHeld ?_
              rotate_left
              · ((intro w hSw); (try dsimp only at hSw); go_simp <;> with_reducible rfl)
              simp only [Act.put, List.setIfInBounds_toArray, List.set_cons_zero, List.set_cons_succ]
              refine take_one 6 (by kernel_rfl) rfl (fun K hK => ?_)
              go_simp
              refine hK.out _ _ (by exact hHeld) (fun hHeld => ?_)
              clear hK K
              refine take_one 9 (by kernel_rfl) rfl (fun K hK => ?_)
              go_simp
              (refine (implTagMax_any _ _ _ _ _).mono ?_; rintro e w8 ⟨rfl, hb8⟩; have V8 := V6.drew.on hb8; have v8 := V8.eight)
              try go_wp2_with fail
              refine hK.out _ _ (by exact ⟨⟨((hHeld.2.on hb8).nth 0 rfl).at 2, ((hHeld.2.on hb8).nth 0 rfl).at 3, ((hHeld.2.on hb8).nth 0 rfl).at 4⟩, hHeld.2.on hb8⟩) (fun hHeld => ?_)
              clear hK K
              refine take_run 11 (some 69) (v := ?_) rfl rfl (by kernel_rfl) (by kernel_rfl) (by kernel_rfl) (fun _ _ _ h => h) (by rfl) ?_ hHeld ?_
              rotate_left
              · ((intro w hSw); (try dsimp only at hSw); go_simp <;> with_reducible rfl)
              simp only [Act.put, List.setIfInBounds_toArray, List.set_cons_zero, List.set_cons_succ]
              refine take_one 12 (by kernel_rfl) rfl (fun K hK => ?_)
              go_simp
              refine hK.out _ _ (by exact ⟨⟨(((hHeld.2.set (by simp) (by simp; omega) _).set (by simp) (by simp; omega) _).nth 0 rfl).at 2, (((hHeld.2.set (by simp) (by simp; omega) _).set (by simp) (by simp; omega) _).nth 0 rfl).at 3, (((hHeld.2.set (by simp) (by simp; omega) _).set (by simp) (by simp; omega) _).nth 0 rfl).at 4⟩, (hHeld.2.set (by simp) (by simp; omega) _).set (by simp) (by simp; omega) _⟩) (fun hHeld => ?_)
              clear hK K
              refine wpAnyH_done (by kernel_rfl) ?_ _
              refine NoPanic.normal ?_
              have I9 := hHeld.2
              have V9 := (V8.put 2 (.int .i64 (mxT (mxp x1 p1).1 (mxp x1 p1).2 t u))).put 3 (.int .i64 (mxP (mxp x1 p1).1 (mxp x1 p1).2 t u))
              simp only [List.setIfInBounds_toArray, List.set_cons_zero, List.set_cons_succ] at V9
              have hz8 := hb8.size
              have hz7d : W7.heap.size ≤ w8.heap.size := hz8
              have VM9 := (((VM7.drew.on (w' := w8) hb8).set (p := ⟨w.heap.size + 1 + 1, 2, none⟩) (by simp; omega) (.int .i64 (mxT (mxp x1 p1).1 (mxp x1 p1).2 t u))).set (p := ⟨w.heap.size + 1 + 1, 3, none⟩) (by simp; omega) (.int .i64 (mxP (mxp x1 p1).1 (mxp x1 p1).2 t u)))
              have WM9 := (((WM7.drew.on (w' := w8) hb8).set (p := ⟨w.heap.size + 1 + 1, 2, none⟩) (by simp; omega) (.int .i64 (mxT (mxp x1 p1).1 (mxp x1 p1).2 t u))).set (p := ⟨w.heap.size + 1 + 1, 3, none⟩) (by simp; omega) (.int .i64 (mxP (mxp x1 p1).1 (mxp x1 p1).2 t u)))
              clear hHeld v7 v8 V8 V6 VM7 WM7 I7
              have hsaw : sawT (viewOf st s) [p0, p1, p2, p3] (s, k, 1, t, u) = [mxp x0 p0, (mxT (mxp x1 p1).1 (mxp x1 p1).2 t u, mxP (mxp x1 p1).1 (mxp x1 p1).2 t u), mxp x2 p2, mxp x3 p3] := by rw [HX4.out]; rfl
              have HSAW := hide hsaw
              clear hsaw
              generalize (w8.setCell ⟨w.heap.size + 1 + 1, 2, none⟩ (.int .i64 (mxT (mxp x1 p1).1 (mxp x1 p1).2 t u))).setCell ⟨w.heap.size + 1 + 1, 3, none⟩ (.int .i64 (mxP (mxp x1 p1).1 (mxp x1 p1).2 t u)) = W9 at I9 V9 VM9 WM9 ⊢
              have o1 := (I9.nth 1 rfl).two
              have o2 := (I9.nth 0 rfl).five.1
              have o3 := V9.eight.1
              obtain ⟨w10, hrun, hVM10, hG10⟩ := VM9.put (by omega) hs0 hs3 (view_set HOK.out hs0 hs3 (sawT (viewOf st s) [p0, p1, p2, p3] (s, k, 1, t, u)) (st.2 ++ [((s, k, 1, t, u), sawT (viewOf st s) [p0, p1, p2, p3] (s, k, 1, t, u))])).1 (view_set HOK.out hs0 hs3 _ _).2
              have hrun' := hrun
              rw [HSAW.out, cells4_eq] at hrun'
              simp only at hrun'
              have HVM := hide hVM10
              clear hrun hVM10
              go_wp2
              go_ret
              refine ⟨some b1, ?_, ?_, ?_, (grown_none I9.below).trans hG10, fun g hg => ?_⟩
              · rw [HS.out]; rfl
              · rw [HS.out]; exact HVM.out
              · rw [HS.out]; exact ((WM9.kept hG10 (by intro e; injection e with e; exact HB.out e.symm)).mono (by omega)).read HK.out
              · injection hg with hg; exact .inl hg.symm
            · have ho' : (q0 != s) = false := by rw [hk3] at ho; simpa using ho
              clear ho
              go_wp2_with fail
              generalize w4.alloc (.cells #[.int .i64 q0, .int .i64 q2, .int .i64 p0.1, .int .i64 p0.2, .int .i64 p1.1, .int .i64 p1.2, .int .i64 p2.1, .int .i64 p2.2, .int .i64 p3.1, .int .i64 p3.2] 82) = W5 at I5 m1 m2 m3 ⊢
              refine (HJ.out _).mono ?_
              rintro e w6 ⟨rfl, hb6⟩
              have I6 := I5.on hb6
              have n2 := (I6.nth 1 rfl).eight
              have n3 := (I6.nth 2 rfl).five.1
              have V6 := ((((((((I6.nth 1 rfl).put 0 (.int .i64 (mxp x0 p0).1)).put 1 (.int .i64 (mxp x0 p0).2)).put 2 (.int .i64 (mxp x1 p1).1)).put 3 (.int .i64 (mxp x1 p1).2)).put 4 (.int .i64 (mxp x2 p2).1)).put 5 (.int .i64 (mxp x2 p2).2)).put 6 (.int .i64 (mxp x3 p3).1)).put 7 (.int .i64 (mxp x3 p3).2)
              simp only [List.setIfInBounds_toArray, List.set_cons_zero, List.set_cons_succ] at V6
              have zz := I5.room
              have z6 := hb6.size
              have I7 : Inv w (w.heap.size + 1 + 1) [(w.heap.size + 1, 53, doneC s k 1 t u), (w.heap.size, 70, #[.map (some b1), .map (some b2)])] (((((((((w6.setCell ⟨w.heap.size + 1 + 1, 0, none⟩ (.int .i64 (mxp x0 p0).1)).setCell ⟨w.heap.size + 1 + 1, 1, none⟩ (.int .i64 (mxp x0 p0).2)).setCell ⟨w.heap.size + 1 + 1, 2, none⟩ (.int .i64 (mxp x1 p1).1)).setCell ⟨w.heap.size + 1 + 1, 3, none⟩ (.int .i64 (mxp x1 p1).2)).setCell ⟨w.heap.size + 1 + 1, 4, none⟩ (.int .i64 (mxp x2 p2).1)).setCell ⟨w.heap.size + 1 + 1, 5, none⟩ (.int .i64 (mxp x2 p2).2)).setCell ⟨w.heap.size + 1 + 1, 6, none⟩ (.int .i64 (mxp x3 p3).1)).setCell ⟨w.heap.size + 1 + 1, 7, none⟩ (.int .i64 (mxp x3 p3).2))) := ((((((((narrow I6 (by omega) (by simp) (by simp; omega)).set (by simp) (by simp; omega) _).set (by simp) (by simp; omega) _).set (by simp) (by simp; omega) _).set (by simp) (by simp; omega) _).set (by simp) (by simp; omega) _).set (by simp) (by simp; omega) _).set (by simp) (by simp; omega) _).set (by simp) (by simp; omega) _
              have VM6 := HV.out.on I6.below
              have WM6 := HW.out.on I6.below
              have VM7 := (((((((VM6.set (p := ⟨w.heap.size + 1 + 1, 0, none⟩) (by simp; omega) (.int .i64 (mxp x0 p0).1)).set (p := ⟨w.heap.size + 1 + 1, 1, none⟩) (by simp; omega) (.int .i64 (mxp x0 p0).2)).set (p := ⟨w.heap.size + 1 + 1, 2, none⟩) (by simp; omega) (.int .i64 (mxp x1 p1).1)).set (p := ⟨w.heap.size + 1 + 1, 3, none⟩) (by simp; omega) (.int .i64 (mxp x1 p1).2)).set (p := ⟨w.heap.size + 1 + 1, 4, none⟩) (by simp; omega) (.int .i64 (mxp x2 p2).1)).set (p := ⟨w.heap.size + 1 + 1, 5, none⟩) (by simp; omega) (.int .i64 (mxp x2 p2).2)).set (p := ⟨w.heap.size + 1 + 1, 6, none⟩) (by simp; omega) (.int .i64 (mxp x3 p3).1)).set (p := ⟨w.heap.size + 1 + 1, 7, none⟩) (by simp; omega) (.int .i64 (mxp x3 p3).2)
              have WM7 := (((((((WM6.set (p := ⟨w.heap.size + 1 + 1, 0, none⟩) (by simp; omega) (.int .i64 (mxp x0 p0).1)).set (p := ⟨w.heap.size + 1 + 1, 1, none⟩) (by simp; omega) (.int .i64 (mxp x0 p0).2)).set (p := ⟨w.heap.size + 1 + 1, 2, none⟩) (by simp; omega) (.int .i64 (mxp x1 p1).1)).set (p := ⟨w.heap.size + 1 + 1, 3, none⟩) (by simp; omega) (.int .i64 (mxp x1 p1).2)).set (p := ⟨w.heap.size + 1 + 1, 4, none⟩) (by simp; omega) (.int .i64 (mxp x2 p2).1)).set (p := ⟨w.heap.size + 1 + 1, 5, none⟩) (by simp; omega) (.int .i64 (mxp x2 p2).2)).set (p := ⟨w.heap.size + 1 + 1, 6, none⟩) (by simp; omega) (.int .i64 (mxp x3 p3).1)).set (p := ⟨w.heap.size + 1 + 1, 7, none⟩) (by simp; omega) (.int .i64 (mxp x3 p3).2)
              clear m1 m2 m3 I5 HJ hb6 VM6 WM6
              go_wp2_with fail
              clear n2 n3
              generalize ((((((((w6.setCell ⟨w.heap.size + 1 + 1, 0, none⟩ (.int .i64 (mxp x0 p0).1)).setCell ⟨w.heap.size + 1 + 1, 1, none⟩ (.int .i64 (mxp x0 p0).2)).setCell ⟨w.heap.size + 1 + 1, 2, none⟩ (.int .i64 (mxp x1 p1).1)).setCell ⟨w.heap.size + 1 + 1, 3, none⟩ (.int .i64 (mxp x1 p1).2)).setCell ⟨w.heap.size + 1 + 1, 4, none⟩ (.int .i64 (mxp x2 p2).1)).setCell ⟨w.heap.size + 1 + 1, 5, none⟩ (.int .i64 (mxp x2 p2).2)).setCell ⟨w.heap.size + 1 + 1, 6, none⟩ (.int .i64 (mxp x3 p3).1)).setCell ⟨w.heap.size + 1 + 1, 7, none⟩ (.int .i64 (mxp x3 p3).2)) = W7 at V6 I7 VM7 WM7 ⊢
              have hz7 := V6.inside
              have v7 := V6.drew.eight.1
              refine wp_region_noPanic ?_
              refine wp_region_held_drew (S := (fun w' => (w'.cell? ⟨w.heap.size + 1, 2, none⟩ = some (.int .i64 1) ∧ w'.cell? ⟨w.heap.size + 1, 3, none⟩ = some (.int .i64 t) ∧ w'.cell? ⟨w.heap.size + 1, 4, none⟩ = some (.int .i64 u)) ∧ Inv w (w.heap.size + 1 + 1) [(w.heap.size + 1, 53, doneC s k 1 t u), (w.heap.size, 70, #[.map (some b1), .map (some b2)])] w')) (by kernel_rfl) (by exact ⟨⟨(I7.drew.nth 0 rfl).at 2, (I7.drew.nth 0 rfl).at 3, (I7.drew.nth 0 rfl).at 4⟩, I7.drew⟩) (fun hHeld => ?_)
              refine take_run 0 (some 58) (v := ?_) rfl rfl (by kernel_rfl) (by kernel_rfl) (by kernel_rfl) (fun _ _ _ h => h) (by rfl) ?_ hHeld ?_
              rotate_left
              · ((intro w hSw); (try dsimp only at hSw); go_simp <;> with_reducible rfl)
              simp only [Act.put, List.setIfInBounds_toArray, List.set_cons_zero, List.set_cons_succ]
              refine take_run 1 (some 59) (v := ?_) rfl rfl (by kernel_rfl) (by kernel_rfl) (by kernel_rfl) (fun _ _ _ h => h) (by rfl) ?_ hHeld ?_
              rotate_left
              · ((intro w hSw); (try dsimp only at hSw); go_simp <;> with_reducible rfl)
              simp only [Act.put, List.setIfInBounds_toArray, List.set_cons_zero, List.set_cons_succ]
              refine take_run 2 (some 60) (v := ?_) rfl rfl (by kernel_rfl) (by kernel_rfl) (by kernel_rfl) (fun _ _ _ h => h) (by rfl) ?_ hHeld ?_
              rotate_left
              · ((intro w hSw); (try dsimp only at hSw); go_simp <;> with_reducible rfl)
              simp only [Act.put, List.setIfInBounds_toArray, List.set_cons_zero, List.set_cons_succ]
              refine take_run 3 (some 61) (v := ?_) rfl rfl (by kernel_rfl) (by kernel_rfl) (by kernel_rfl) (fun _ _ _ h => h) (by rfl) ?_ hHeld ?_
              rotate_left
              · ((intro w hSw); (try dsimp only at hSw); go_simp <;> with_reducible rfl)
              simp only [Act.put, List.setIfInBounds_toArray, List.set_cons_zero, List.set_cons_succ]
              refine take_run 4 (some 62) (v := ?_) rfl rfl (by kernel_rfl) (by kernel_rfl) (by kernel_rfl) (fun _ _ _ h => h) (by rfl) ?_ hHeld ?_
              rotate_left
              · ((intro w hSw); (try dsimp only at hSw); go_simp <;> with_reducible rfl)
              simp only [Act.put, List.setIfInBounds_toArray, List.set_cons_zero, List.set_cons_succ]
              refine take_run 5 (some 63) (v := ?_) rfl rfl (by kernel_rfl) (by kernel_rfl) (by kernel_rfl) (fun _ _ _ h => h) (by rfl) ?_ hHeld ?_
              rotate_left
              · ((intro w hSw); (try dsimp only at hSw); go_simp <;> with_reducible rfl)
              simp only [Act.put, List.setIfInBounds_toArray, List.set_cons_zero, List.set_cons_succ]
              refine take_run 7 (some 65) (v := ?_) rfl rfl (by kernel_rfl) (by kernel_rfl) (by kernel_rfl) (fun _ _ _ h => h) (by rfl) ?_ hHeld ?_
              rotate_left
              · ((intro w hSw); (try dsimp only at hSw); go_simp <;> with_reducible rfl)
              simp only [Act.put, List.setIfInBounds_toArray, List.set_cons_zero, List.set_cons_succ]
              refine take_run 8 (some 66) (v := ?_) rfl rfl (by kernel_rfl) (by kernel_rfl) (by kernel_rfl) (fun _ _ _ h => h) (by rfl) ?_ hHeld ?_
              rotate_left
              · ((intro w hSw); (try dsimp only at hSw); go_simp <;> with_reducible rfl)
              simp only [Act.put, List.setIfInBounds_toArray, List.set_cons_zero, List.set_cons_succ]
              refine take_run 10 (some 68) (v := ?_) rfl rfl (by kernel_rfl) (by kernel_rfl) (by kernel_rfl) (fun _ _ _ h => h) (by rfl) ?_ hHeld ?_
              rotate_left
              · ((intro w hSw); (try dsimp only at hSw); go_simp <;> with_reducible rfl)
              simp only [Act.put, List.setIfInBounds_toArray, List.set_cons_zero, List.set_cons_succ]
              refine take_one 6 (by kernel_rfl) rfl (fun K hK => ?_)
              go_simp
              refine hK.out _ _ (by exact hHeld) (fun hHeld => ?_)
              clear hK K
              refine take_one 9 (by kernel_rfl) rfl (fun K hK => ?_)
              go_simp
              (refine (implTagMax_any _ _ _ _ _).mono ?_; rintro e w8 ⟨rfl, hb8⟩; have V8 := V6.drew.on hb8; have v8 := V8.eight)
              try go_wp2_with fail
              refine hK.out _ _ (by exact ⟨⟨((hHeld.2.on hb8).nth 0 rfl).at 2, ((hHeld.2.on hb8).nth 0 rfl).at 3, ((hHeld.2.on hb8).nth 0 rfl).at 4⟩, hHeld.2.on hb8⟩) (fun hHeld => ?_)
              clear hK K
              refine take_run 11 (some 69) (v := ?_) rfl rfl (by kernel_rfl) (by kernel_rfl) (by kernel_rfl) (fun _ _ _ h => h) (by rfl) ?_ hHeld ?_
              rotate_left
              · ((intro w hSw); (try dsimp only at hSw); go_simp <;> with_reducible rfl)
              simp only [Act.put, List.setIfInBounds_toArray, List.set_cons_zero, List.set_cons_succ]
              refine take_one 12 (by kernel_rfl) rfl (fun K hK => ?_)
              go_simp
              refine hK.out _ _ (by exact ⟨⟨(((hHeld.2.set (by simp) (by simp; omega) _).set (by simp) (by simp; omega) _).nth 0 rfl).at 2, (((hHeld.2.set (by simp) (by simp; omega) _).set (by simp) (by simp; omega) _).nth 0 rfl).at 3, (((hHeld.2.set (by simp) (by simp; omega) _).set (by simp) (by simp; omega) _).nth 0 rfl).at 4⟩, (hHeld.2.set (by simp) (by simp; omega) _).set (by simp) (by simp; omega) _⟩) (fun hHeld => ?_)
              clear hK K
              refine wpAnyH_done (by kernel_rfl) ?_ _
              refine NoPanic.normal ?_
              have I9 := hHeld.2
              have V9 := (V8.put 2 (.int .i64 (mxT (mxp x1 p1).1 (mxp x1 p1).2 t u))).put 3 (.int .i64 (mxP (mxp x1 p1).1 (mxp x1 p1).2 t u))
              simp only [List.setIfInBounds_toArray, List.set_cons_zero, List.set_cons_succ] at V9
              have hz8 := hb8.size
              have hz7d : W7.heap.size ≤ w8.heap.size := hz8
              have VM9 := (((VM7.drew.on (w' := w8) hb8).set (p := ⟨w.heap.size + 1 + 1, 2, none⟩) (by simp; omega) (.int .i64 (mxT (mxp x1 p1).1 (mxp x1 p1).2 t u))).set (p := ⟨w.heap.size + 1 + 1, 3, none⟩) (by simp; omega) (.int .i64 (mxP (mxp x1 p1).1 (mxp x1 p1).2 t u)))
              have WM9 := (((WM7.drew.on (w' := w8) hb8).set (p := ⟨w.heap.size + 1 + 1, 2, none⟩) (by simp; omega) (.int .i64 (mxT (mxp x1 p1).1 (mxp x1 p1).2 t u))).set (p := ⟨w.heap.size + 1 + 1, 3, none⟩) (by simp; omega) (.int .i64 (mxP (mxp x1 p1).1 (mxp x1 p1).2 t u)))
              clear hHeld v7 v8 V8 V6 VM7 WM7 I7
              have hsaw : sawT (viewOf st s) [p0, p1, p2, p3] (s, k, 1, t, u) = [mxp x0 p0, (mxT (mxp x1 p1).1 (mxp x1 p1).2 t u, mxP (mxp x1 p1).1 (mxp x1 p1).2 t u), mxp x2 p2, mxp x3 p3] := by rw [HX4.out]; rfl
              have HSAW := hide hsaw
              clear hsaw
              generalize (w8.setCell ⟨w.heap.size + 1 + 1, 2, none⟩ (.int .i64 (mxT (mxp x1 p1).1 (mxp x1 p1).2 t u))).setCell ⟨w.heap.size + 1 + 1, 3, none⟩ (.int .i64 (mxP (mxp x1 p1).1 (mxp x1 p1).2 t u)) = W9 at I9 V9 VM9 WM9 ⊢
              have o1 := (I9.nth 1 rfl).two
              have o2 := (I9.nth 0 rfl).five.1
              have o3 := V9.eight.1
              obtain ⟨w10, hrun, hVM10, hG10⟩ := VM9.put (by omega) hs0 hs3 (view_set HOK.out hs0 hs3 (sawT (viewOf st s) [p0, p1, p2, p3] (s, k, 1, t, u)) (st.2 ++ [((s, k, 1, t, u), sawT (viewOf st s) [p0, p1, p2, p3] (s, k, 1, t, u))])).1 (view_set HOK.out hs0 hs3 _ _).2
              have hrun' := hrun
              rw [HSAW.out, cells4_eq] at hrun'
              simp only at hrun'
              have HVM := hide hVM10
              clear hrun hVM10
              go_wp2
              go_ret
              refine ⟨some b1, ?_, ?_, ?_, (grown_none I9.below).trans hG10, fun g hg => ?_⟩
              · rw [HS.out]; rfl
              · rw [HS.out]; exact HVM.out
              · rw [HS.out]; exact ((WM9.kept hG10 (by intro e; injection e with e; exact HB.out e.symm)).mono (by omega)).read HK.out
              · injection hg with hg; exact .inl hg.symm
          · have HS := hide (step_sight_own HK.out HL.out HZ.out HWR.out hy ho)
            have hk3 : (k == 3) = true := by simp only [Bool.and_eq_true] at ho; exact ho.1
            have ho' : (q0 != s) = true := by simp only [Bool.and_eq_true] at ho; exact ho.2
            clear ho
            go_wp2
            go_ret
            exact added_none HS.out HV.out HW.out L5
        · have HS := hide (step_sight_key HK.out HL.out HZ.out HWR.out hy)
          go_wp2
          go_ret
          exact added_none HS.out HV.out HW.out L5
    · have hq' : ∀ W : World, (binOp .eql 43 (.agg #[.int .i64 t, .int .i64 u]) (.agg #[.int .i64 0, .int .i64 0])).run Try.prog W = .ok (.bool true) W := fun W => by rw [hq W, hz]
      have HS := hide (step_sight_zero HK.out (by rw [HTA.out]; exact hl) hz)
      clear hq hz hl
      go_wp2
      go_ret
      refine ⟨none, ?_, ?_, ?_, grown_none I4.below, by simp⟩
      · rw [HS.out]; rfl
      · rw [HS.out]; exact ((HV.out.on I4.below).mono (by omega)).same rfl
      · rw [HS.out]; exact ((HW.out.on I4.below).mono (by omega)).read HK.out
  · have HS := hide (step_sight_early HK.out (by rw [HTA.out]; exact hl))
    clear hl hq
    go_wp2
    go_ret
    exact added_none HS.out HV.out HW.out I4.below

set_option maxRecDepth 100000 in
set_option maxHeartbeats 8000000 in
theorem addSight_2 (b1 b2 N : Nat) (st : St) (s k t u : Int) (w : World) (hok : StOk st) (hk : (k == 1) = false) (hv : doneB (s, k, 2, t, u) = true) (hb : b1 ≠ b2) (hN : N < 1000) (hV : VM w b1 N st) (hW : WM w b2 N st) :
    Calls Try.prog 110 #[.agg #[.map (some b1), .map (some b2)], .agg (doneC s k 2 t u)] w (Added w b1 b2 N st (s, k, 2, t, u)) := by
  obtain ⟨x0, x1, x2, x3, hx4⟩ := four_len (viewOf_len hok s)
  have hi := doneB_i hv
  have hto := hi.2.2.2.2.2.2.1
  have hs0 := hi.1
  have hs3 := hi.2.1
  have hta : tagAt (viewOf st s) 2 = x2 := by rw [hx4]; rfl
  have HB := hide hb
  have HK := hide hk
  have HTA := hide hta
  have HTO := hide hto
  have HOK := hide hok
  have S0 := (((Inv.start w).box 70 #[.map (some b1), .map (some b2)]).box 53 (doneC s k 2 t u)).box 77 #[.int .i64 x0.1, .int .i64 x0.2, .int .i64 x1.1, .int .i64 x1.2, .int .i64 x2.1, .int .i64 x2.2, .int .i64 x3.1, .int .i64 x3.2]
  simp only [World.size_alloc] at S0
  have look1 := (hV.on (((Inv.start w).box 70 #[.map (some b1), .map (some b2)]).box 53 (doneC s k 2 t u)).below).look (s := s) hi.1 hi.2.1
  rw [hx4, cells4_eq] at look1
  have HX4 := hide hx4
  have HV := hide hV
  have HW := hide hW
  have hV1 := hV.lt
  have hW1 := hW.lt
  have hq := tagEql_run t u 0 0
  clear hv hi hto hok hb hV hW hta hx4 hk
  have C2 : ∀ W : World, Calls Try.prog 91 #[.agg #[.int .i64 t, .int .i64 u], .agg #[.int .i64 x2.1, .int .i64 x2.2]] W fun e w' => e = .returned (.bool (lessB t u x2.1 x2.2)) ∧ Below W.heap.size W w' := fun W => less_any t u _ _ W
  have HC2 := hide C2
  clear C2
  go_enter Try.func110, Try.ntmps110
  go_wp2_with fail
  clear look1
  generalize (((w.alloc (.cells #[.map (some b1), .map (some b2)] 70)).alloc (.cells (doneC s k 2 t u) 53)).alloc (.cells #[.int .i64 x0.1, .int .i64 x0.2, .int .i64 x1.1, .int .i64 x1.2, .int .i64 x2.1, .int .i64 x2.2, .int .i64 x3.1, .int .i64 x3.2] 77)) = W at S0 ⊢
  refine wp_region_noPanic ?_
  refine wp_region_held_drew (S := (fun w' => (w'.cell? ⟨w.heap.size + 1, 2, none⟩ = some (.int .i64 2) ∧ w'.cell? ⟨w.heap.size + 1, 3, none⟩ = some (.int .i64 t) ∧ w'.cell? ⟨w.heap.size + 1, 4, none⟩ = some (.int .i64 u) ∧ w'.cell? ⟨w.heap.size + 1 + 1, 4, none⟩ = some (.int .i64 x2.1) ∧ w'.cell? ⟨w.heap.size + 1 + 1, 5, none⟩ = some (.int .i64 x2.2)) ∧ Inv w (w.heap.size + 1 + 1 + 1) [(w.heap.size + 1 + 1, 77, #[.int .i64 x0.1, .int .i64 x0.2, .int .i64 x1.1, .int .i64 x1.2, .int .i64 x2.1, .int .i64 x2.2, .int .i64 x3.1, .int .i64 x3.2]), (w.heap.size + 1, 53, doneC s k 2 t u), (w.heap.size, 70, #[.map (some b1), .map (some b2)])] w')) (by kernel_rfl) (by exact ⟨⟨(S0.drew.nth 1 rfl).at 2, (S0.drew.nth 1 rfl).at 3, (S0.drew.nth 1 rfl).at 4, (S0.drew.nth 0 rfl).at 4, (S0.drew.nth 0 rfl).at 5⟩, S0.drew⟩) (fun hHeld => ?_)
  refine take_run 0 (some 13) (v := ?_) rfl rfl (by kernel_rfl) (by kernel_rfl) (by kernel_rfl) (fun _ _ _ h => h) (by rfl) ?_ hHeld ?_
  rotate_left
  · ((intro w hSw); (try dsimp only at hSw); go_simp <;> with_reducible rfl)
  simp only [Act.put, List.setIfInBounds_toArray, List.set_cons_zero, List.set_cons_succ]
  refine take_run 1 (some 14) (v := ?_) rfl rfl (by kernel_rfl) (by kernel_rfl) (by kernel_rfl) (fun _ _ _ h => h) (by rfl) ?_ hHeld ?_
  rotate_left
  · ((intro w hSw); (try dsimp only at hSw); go_simp <;> with_reducible rfl)
  simp only [Act.put, List.setIfInBounds_toArray, List.set_cons_zero, List.set_cons_succ]
  refine take_run 2 (some 15) (v := ?_) rfl rfl (by kernel_rfl) (by kernel_rfl) (by kernel_rfl) (fun _ _ _ h => h) (by rfl) ?_ hHeld ?_
  rotate_left
  · ((intro w hSw); (try dsimp only at hSw); go_simp <;> with_reducible rfl)
  simp only [Act.put, List.setIfInBounds_toArray, List.set_cons_zero, List.set_cons_succ]
  refine take_run 3 (some 16) (v := ?_) rfl rfl (by kernel_rfl) (by kernel_rfl) (by kernel_rfl) (fun _ _ _ h => h) (by rfl) ?_ hHeld ?_
  rotate_left
  · ((intro w hSw); (try dsimp only at hSw); go_simp <;> with_reducible rfl)
  simp only [Act.put, List.setIfInBounds_toArray, List.set_cons_zero, List.set_cons_succ]
  refine take_run 4 (some 17) (v := ?_) rfl rfl (by kernel_rfl) (by kernel_rfl) (by kernel_rfl) (fun _ _ _ h => h) (by rfl) ?_ hHeld ?_
  rotate_left
  · ((intro w hSw); (try dsimp only at hSw); go_simp <;> with_reducible rfl)
  simp only [Act.put, List.setIfInBounds_toArray, List.set_cons_zero, List.set_cons_succ]
  refine take_run 5 (some 18) (v := ?_) rfl rfl (by kernel_rfl) (by kernel_rfl) (by kernel_rfl) (fun _ _ _ h => h) (by rfl) ?_ hHeld ?_
  rotate_left
  · ((intro w hSw); (try dsimp only at hSw); go_simp <;> with_reducible rfl)
  simp only [Act.put, List.setIfInBounds_toArray, List.set_cons_zero, List.set_cons_succ]
  refine take_run 6 (some 19) (v := ?_) rfl rfl (by kernel_rfl) (by kernel_rfl) (by kernel_rfl) (fun _ _ _ h => h) (by rfl) ?_ hHeld ?_
  rotate_left
  · ((intro w hSw); (try dsimp only at hSw); go_simp <;> with_reducible rfl)
  simp only [Act.put, List.setIfInBounds_toArray, List.set_cons_zero, List.set_cons_succ]
  refine take_one 7 (by kernel_rfl) rfl (fun K hK => ?_)
  go_simp
  (refine (HC2.out _).mono ?_; rintro e w4 ⟨rfl, hb4⟩)
  try go_wp2_with fail
  refine hK.out _ _ (by exact ⟨⟨((hHeld.2.on hb4).nth 1 rfl).at 2, ((hHeld.2.on hb4).nth 1 rfl).at 3, ((hHeld.2.on hb4).nth 1 rfl).at 4, ((hHeld.2.on hb4).nth 0 rfl).at 4, ((hHeld.2.on hb4).nth 0 rfl).at 5⟩, (hHeld.2.on hb4)⟩) (fun hHeld => ?_)
  clear hK K
  refine wpAnyH_done (by kernel_rfl) ?_ _
  refine NoPanic.normal ?_
  have I4 := hHeld.2
  clear hHeld S0 HC2
  have k1 := (I4.nth 2 rfl).two
  have k2 := (I4.nth 1 rfl).five.1
  have z4' := I4.room
  cases hl : lessB t u x2.1 x2.2
  · cases hz : eqB t u 0 0
    · have hq' : ∀ W : World, (binOp .eql 43 (.agg #[.int .i64 t, .int .i64 u]) (.agg #[.int .i64 0, .int .i64 0])).run Try.prog W = .ok (.bool false) W := fun W => by rw [hq W, hz]
      have HZ := hide hz
      have HL : Hid (lessB t u (tagAt (viewOf st s) 2).1 (tagAt (viewOf st s) 2).2 = false) := by unfold Hid; rw [HTA.out]; exact hl
      clear hq hz hl
      cases hwr : wrote st t u with
      | none =>
        have look2 := (HW.out.on I4.below).missing HTO.out hwr
        have HS := hide (step_sight_none HK.out HL.out HZ.out hwr)
        have L5 := I4.below.alloc I4.base (.cells zero10 82)
        clear hwr
        go_wp2
        go_ret
        exact added_none HS.out HV.out HW.out L5
      | some x =>
        have look2 := (HW.out.on I4.below).found HTO.out hwr
        obtain ⟨⟨q0, q1, q2, q3, q4⟩, p⟩ := x
        obtain ⟨p0, p1, p2, p3, hp⟩ := four_len (wrote_len HOK.out hwr)
        simp only at hp
        subst hp
        rw [wrCells_eq] at look2
        simp only at look2
        have HWR := hide hwr
        have L5 := I4.below.alloc I4.base (.cells #[.int .i64 q0, .int .i64 q2, .int .i64 p0.1, .int .i64 p0.2, .int .i64 p1.1, .int .i64 p1.2, .int .i64 p2.1, .int .i64 p2.2, .int .i64 p3.1, .int .i64 p3.2] 82)
        clear hwr
        have I5 := I4.top.box 82 #[.int .i64 q0, .int .i64 q2, .int .i64 p0.1, .int .i64 p0.2, .int .i64 p1.1, .int .i64 p1.2, .int .i64 p2.1, .int .i64 p2.2, .int .i64 p3.1, .int .i64 p3.2]
        simp only [World.size_alloc] at I5
        have m1 := (I5.nth 0 rfl).ten
        have m2 := (I5.nth 1 rfl).eight.1
        have m3 := (I5.nth 2 rfl).five.1
        cases hy : (q2 != 2)
        · cases ho : ((k == 3) && (q0 != s))
          · have HS := hide (step_sight HK.out HL.out HZ.out HWR.out hy ho)
            have HJ := hide (join_any x0 x1 x2 x3 p0 p1 p2 p3)
            clear L5
            cases hk3 : (k == 3)
            · clear ho
              go_wp2_with fail
              generalize w4.alloc (.cells #[.int .i64 q0, .int .i64 q2, .int .i64 p0.1, .int .i64 p0.2, .int .i64 p1.1, .int .i64 p1.2, .int .i64 p2.1, .int .i64 p2.2, .int .i64 p3.1, .int .i64 p3.2] 82) = W5 at I5 m1 m2 m3 ⊢
              refine (HJ.out _).mono ?_
              rintro e w6 ⟨rfl, hb6⟩
              have I6 := I5.on hb6
              have n2 := (I6.nth 1 rfl).eight
              have n3 := (I6.nth 2 rfl).five.1
              have V6 := ((((((((I6.nth 1 rfl).put 0 (.int .i64 (mxp x0 p0).1)).put 1 (.int .i64 (mxp x0 p0).2)).put 2 (.int .i64 (mxp x1 p1).1)).put 3 (.int .i64 (mxp x1 p1).2)).put 4 (.int .i64 (mxp x2 p2).1)).put 5 (.int .i64 (mxp x2 p2).2)).put 6 (.int .i64 (mxp x3 p3).1)).put 7 (.int .i64 (mxp x3 p3).2)
              simp only [List.setIfInBounds_toArray, List.set_cons_zero, List.set_cons_succ] at V6
              have zz := I5.room
              have z6 := hb6.size
              have I7 : Inv w (w.heap.size + 1 + 1) [(w.heap.size + 1, 53, doneC s k 2 t u), (w.heap.size, 70, #[.map (some b1), .map (some b2)])] (((((((((w6.setCell ⟨w.heap.size + 1 + 1, 0, none⟩ (.int .i64 (mxp x0 p0).1)).setCell ⟨w.heap.size + 1 + 1, 1, none⟩ (.int .i64 (mxp x0 p0).2)).setCell ⟨w.heap.size + 1 + 1, 2, none⟩ (.int .i64 (mxp x1 p1).1)).setCell ⟨w.heap.size + 1 + 1, 3, none⟩ (.int .i64 (mxp x1 p1).2)).setCell ⟨w.heap.size + 1 + 1, 4, none⟩ (.int .i64 (mxp x2 p2).1)).setCell ⟨w.heap.size + 1 + 1, 5, none⟩ (.int .i64 (mxp x2 p2).2)).setCell ⟨w.heap.size + 1 + 1, 6, none⟩ (.int .i64 (mxp x3 p3).1)).setCell ⟨w.heap.size + 1 + 1, 7, none⟩ (.int .i64 (mxp x3 p3).2))) := ((((((((narrow I6 (by omega) (by simp) (by simp; omega)).set (by simp) (by simp; omega) _).set (by simp) (by simp; omega) _).set (by simp) (by simp; omega) _).set (by simp) (by simp; omega) _).set (by simp) (by simp; omega) _).set (by simp) (by simp; omega) _).set (by simp) (by simp; omega) _).set (by simp) (by simp; omega) _
              have VM6 := HV.out.on I6.below
              have WM6 := HW.out.on I6.below
              have VM7 := (((((((VM6.set (p := ⟨w.heap.size + 1 + 1, 0, none⟩) (by simp; omega) (.int .i64 (mxp x0 p0).1)).set (p := ⟨w.heap.size + 1 + 1, 1, none⟩) (by simp; omega) (.int .i64 (mxp x0 p0).2)).set (p := ⟨w.heap.size + 1 + 1, 2, none⟩) (by simp; omega) (.int .i64 (mxp x1 p1).1)).set (p := ⟨w.heap.size + 1 + 1, 3, none⟩) (by simp; omega) (.int .i64 (mxp x1 p1).2)).set (p := ⟨w.heap.size + 1 + 1, 4, none⟩) (by simp; omega) (.int .i64 (mxp x2 p2).1)).set (p := ⟨w.heap.size + 1 + 1, 5, none⟩) (by simp; omega) (.int .i64 (mxp x2 p2).2)).set (p := ⟨w.heap.size + 1 + 1, 6, none⟩) (by simp; omega) (.int .i64 (mxp x3 p3).1)).set (p := ⟨w.heap.size + 1 + 1, 7, none⟩) (by simp; omega) (.int .i64 (mxp x3 p3).2)
              have WM7 := (((((((WM6.set (p := ⟨w.heap.size + 1 + 1, 0, none⟩) (by simp; omega) (.int .i64 (mxp x0 p0).1)).set (p := ⟨w.heap.size + 1 + 1, 1, none⟩) (by simp; omega) (.int .i64 (mxp x0 p0).2)).set (p := ⟨w.heap.size + 1 + 1, 2, none⟩) (by simp; omega) (.int .i64 (mxp x1 p1).1)).set (p := ⟨w.heap.size + 1 + 1, 3, none⟩) (by simp; omega) (.int .i64 (mxp x1 p1).2)).set (p := ⟨w.heap.size + 1 + 1, 4, none⟩) (by simp; omega) (.int .i64 (mxp x2 p2).1)).set (p := ⟨w.heap.size + 1 + 1, 5, none⟩) (by simp; omega) (.int .i64 (mxp x2 p2).2)).set (p := ⟨w.heap.size + 1 + 1, 6, none⟩) (by simp; omega) (.int .i64 (mxp x3 p3).1)).set (p := ⟨w.heap.size + 1 + 1, 7, none⟩) (by simp; omega) (.int .i64 (mxp x3 p3).2)
              clear m1 m2 m3 I5 HJ hb6 VM6 WM6
              go_wp2_with fail
              clear n2 n3
              generalize ((((((((w6.setCell ⟨w.heap.size + 1 + 1, 0, none⟩ (.int .i64 (mxp x0 p0).1)).setCell ⟨w.heap.size + 1 + 1, 1, none⟩ (.int .i64 (mxp x0 p0).2)).setCell ⟨w.heap.size + 1 + 1, 2, none⟩ (.int .i64 (mxp x1 p1).1)).setCell ⟨w.heap.size + 1 + 1, 3, none⟩ (.int .i64 (mxp x1 p1).2)).setCell ⟨w.heap.size + 1 + 1, 4, none⟩ (.int .i64 (mxp x2 p2).1)).setCell ⟨w.heap.size + 1 + 1, 5, none⟩ (.int .i64 (mxp x2 p2).2)).setCell ⟨w.heap.size + 1 + 1, 6, none⟩ (.int .i64 (mxp x3 p3).1)).setCell ⟨w.heap.size + 1 + 1, 7, none⟩ (.int .i64 (mxp x3 p3).2)) = W7 at V6 I7 VM7 WM7 ⊢
              have hz7 := V6.inside
              have v7 := V6.drew.eight.1
              refine wp_region_noPanic ?_
              refine wp_region_held_drew (S := (fun w' => (w'.cell? ⟨w.heap.size + 1, 2, none⟩ = some (.int .i64 2) ∧ w'.cell? ⟨w.heap.size + 1, 3, none⟩ = some (.int .i64 t) ∧ w'.cell? ⟨w.heap.size + 1, 4, none⟩ = some (.int .i64 u)) ∧ Inv w (w.heap.size + 1 + 1) [(w.heap.size + 1, 53, doneC s k 2 t u), (w.heap.size, 70, #[.map (some b1), .map (some b2)])] w')) (by kernel_rfl) (by exact ⟨⟨(I7.drew.nth 0 rfl).at 2, (I7.drew.nth 0 rfl).at 3, (I7.drew.nth 0 rfl).at 4⟩, I7.drew⟩) (fun hHeld => ?_)
              refine take_run 0 (some 58) (v := ?_) rfl rfl (by kernel_rfl) (by kernel_rfl) (by kernel_rfl) (fun _ _ _ h => h) (by rfl) ?_ hHeld ?_
              rotate_left
              · ((intro w hSw); (try dsimp only at hSw); go_simp <;> with_reducible rfl)
              simp only [Act.put, List.setIfInBounds_toArray, List.set_cons_zero, List.set_cons_succ]
              refine take_run 1 (some 59) (v := ?_) rfl rfl (by kernel_rfl) (by kernel_rfl) (by kernel_rfl) (fun _ _ _ h => h) (by rfl) ?_ hHeld ?_
              rotate_left
              · ((intro w hSw); (try dsimp only at hSw); go_simp <;> with_reducible rfl)
              simp only [Act.put, List.setIfInBounds_toArray, List.set_cons_zero, List.set_cons_succ]
              refine take_run 2 (some 60) (v := ?_) rfl rfl (by kernel_rfl) (by kernel_rfl) (by kernel_rfl) (fun _ _ _ h => h) (by rfl) ?_ hHeld ?_
              rotate_left
              · ((intro w hSw); (try dsimp only at hSw); go_simp <;> with_reducible rfl)
              simp only [Act.put, List.setIfInBounds_toArray, List.set_cons_zero, List.set_cons_succ]
              refine take_run 3 (some 61) (v := ?_) rfl rfl (by kernel_rfl) (by kernel_rfl) (by kernel_rfl) (fun _ _ _ h => h) (by rfl) ?_ hHeld ?_
              rotate_left
              · ((intro w hSw); (try dsimp only at hSw); go_simp <;> with_reducible rfl)
              simp only [Act.put, List.setIfInBounds_toArray, List.set_cons_zero, List.set_cons_succ]
              refine take_run 4 (some 62) (v := ?_) rfl rfl (by kernel_rfl) (by kernel_rfl) (by kernel_rfl) (fun _ _ _ h => h) (by rfl) ?_ hHeld ?_
              rotate_left
              · ((intro w hSw); (try dsimp only at hSw); go_simp <;> with_reducible rfl)
              simp only [Act.put, List.setIfInBounds_toArray, List.set_cons_zero, List.set_cons_succ]
              refine take_run 5 (some 63) (v := ?_) rfl rfl (by kernel_rfl) (by kernel_rfl) (by kernel_rfl) (fun _ _ _ h => h) (by rfl) ?_ hHeld ?_
              rotate_left
              · ((intro w hSw); (try dsimp only at hSw); go_simp <;> with_reducible rfl)
              simp only [Act.put, List.setIfInBounds_toArray, List.set_cons_zero, List.set_cons_succ]
              refine take_run 7 (some 65) (v := ?_) rfl rfl (by kernel_rfl) (by kernel_rfl) (by kernel_rfl) (fun _ _ _ h => h) (by rfl) ?_ hHeld ?_
              rotate_left
              · ((intro w hSw); (try dsimp only at hSw); go_simp <;> with_reducible rfl)
              simp only [Act.put, List.setIfInBounds_toArray, List.set_cons_zero, List.set_cons_succ]
              refine take_run 8 (some 66) (v := ?_) rfl rfl (by kernel_rfl) (by kernel_rfl) (by kernel_rfl) (fun _ _ _ h => h) (by rfl) ?_ hHeld ?_
              rotate_left
              · ((intro w hSw); (try dsimp only at hSw); go_simp <;> with_reducible rfl)
              simp only [Act.put, List.setIfInBounds_toArray, List.set_cons_zero, List.set_cons_succ]
              refine take_run 10 (some 68) (v := ?_) rfl rfl (by kernel_rfl) (by kernel_rfl) (by kernel_rfl) (fun _ _ _ h => h) (by rfl) ?_ hHeld ?_
              rotate_left
              · ((intro w hSw); (try dsimp only at hSw); go_simp <;> with_reducible rfl)
              simp only [Act.put, List.setIfInBounds_toArray, List.set_cons_zero, List.set_cons_succ]
              refine take_one 6 (by kernel_rfl) rfl (fun K hK => ?_)
              go_simp
              refine hK.out _ _ (by exact hHeld) (fun hHeld => ?_)
              clear hK K
              refine take_one 9 (by kernel_rfl) rfl (fun K hK => ?_)
              go_simp
              (refine (implTagMax_any _ _ _ _ _).mono ?_; rintro e w8 ⟨rfl, hb8⟩; have V8 := V6.drew.on hb8; have v8 := V8.eight)
              try go_wp2_with fail
              refine hK.out _ _ (by exact ⟨⟨((hHeld.2.on hb8).nth 0 rfl).at 2, ((hHeld.2.on hb8).nth 0 rfl).at 3, ((hHeld.2.on hb8).nth 0 rfl).at 4⟩, hHeld.2.on hb8⟩) (fun hHeld => ?_)
              clear hK K
              refine take_run 11 (some 69) (v := ?_) rfl rfl (by kernel_rfl) (by kernel_rfl) (by kernel_rfl) (fun _ _ _ h => h) (by rfl) ?_ hHeld ?_
              rotate_left
              · ((intro w hSw); (try dsimp only at hSw); go_simp <;> with_reducible rfl)
              simp only [Act.put, List.setIfInBounds_toArray, List.set_cons_zero, List.set_cons_succ]
              refine take_one 12 (by kernel_rfl) rfl (fun K hK => ?_)
              go_simp
              refine hK.out _ _ (by exact ⟨⟨(((hHeld.2.set (by simp) (by simp; omega) _).set (by simp) (by simp; omega) _).nth 0 rfl).at 2, (((hHeld.2.set (by simp) (by simp; omega) _).set (by simp) (by simp; omega) _).nth 0 rfl).at 3, (((hHeld.2.set (by simp) (by simp; omega) _).set (by simp) (by simp; omega) _).nth 0 rfl).at 4⟩, (hHeld.2.set (by simp) (by simp; omega) _).set (by simp) (by simp; omega) _⟩) (fun hHeld => ?_)
              clear hK K
              refine wpAnyH_done (by kernel_rfl) ?_ _
              refine NoPanic.normal ?_
              have I9 := hHeld.2
              have V9 := (V8.put 4 (.int .i64 (mxT (mxp x2 p2).1 (mxp x2 p2).2 t u))).put 5 (.int .i64 (mxP (mxp x2 p2).1 (mxp x2 p2).2 t u))
              simp only [List.setIfInBounds_toArray, List.set_cons_zero, List.set_cons_succ] at V9
              have hz8 := hb8.size
              have hz7d : W7.heap.size ≤ w8.heap.size := hz8
              have VM9 := (((VM7.drew.on (w' := w8) hb8).set (p := ⟨w.heap.size + 1 + 1, 4, none⟩) (by simp; omega) (.int .i64 (mxT (mxp x2 p2).1 (mxp x2 p2).2 t u))).set (p := ⟨w.heap.size + 1 + 1, 5, none⟩) (by simp; omega) (.int .i64 (mxP (mxp x2 p2).1 (mxp x2 p2).2 t u)))
              have WM9 := (((WM7.drew.on (w' := w8) hb8).set (p := ⟨w.heap.size + 1 + 1, 4, none⟩) (by simp; omega) (.int .i64 (mxT (mxp x2 p2).1 (mxp x2 p2).2 t u))).set (p := ⟨w.heap.size + 1 + 1, 5, none⟩) (by simp; omega) (.int .i64 (mxP (mxp x2 p2).1 (mxp x2 p2).2 t u)))
              clear hHeld v7 v8 V8 V6 VM7 WM7 I7
              have hsaw : sawT (viewOf st s) [p0, p1, p2, p3] (s, k, 2, t, u) = [mxp x0 p0, mxp x1 p1, (mxT (mxp x2 p2).1 (mxp x2 p2).2 t u, mxP (mxp x2 p2).1 (mxp x2 p2).2 t u), mxp x3 p3] := by rw [HX4.out]; rfl
              have HSAW := hide hsaw
              clear hsaw
              generalize (w8.setCell ⟨w.heap.size + 1 + 1, 4, none⟩ (.int .i64 (mxT (mxp x2 p2).1 (mxp x2 p2).2 t u))).setCell ⟨w.heap.size + 1 + 1, 5, none⟩ (.int .i64 (mxP (mxp x2 p2).1 (mxp x2 p2).2 t u)) = W9 at I9 V9 VM9 WM9 ⊢
              have o1 := (I9.nth 1 rfl).two
              have o2 := (I9.nth 0 rfl).five.1
              have o3 := V9.eight.1
              obtain ⟨w10, hrun, hVM10, hG10⟩ := VM9.put (by omega) hs0 hs3 (view_set HOK.out hs0 hs3 (sawT (viewOf st s) [p0, p1, p2, p3] (s, k, 2, t, u)) (st.2 ++ [((s, k, 2, t, u), sawT (viewOf st s) [p0, p1, p2, p3] (s, k, 2, t, u))])).1 (view_set HOK.out hs0 hs3 _ _).2
              have hrun' := hrun
              rw [HSAW.out, cells4_eq] at hrun'
              simp only at hrun'
              have HVM := hide hVM10
              clear hrun hVM10
              go_wp2
              go_ret
              refine ⟨some b1, ?_, ?_, ?_, (grown_none I9.below).trans hG10, fun g hg => ?_⟩
              · rw [HS.out]; rfl
              · rw [HS.out]; exact HVM.out
              · rw [HS.out]; exact ((WM9.kept hG10 (by intro e; injection e with e; exact HB.out e.symm)).mono (by omega)).read HK.out
              · injection hg with hg; exact .inl hg.symm
            · have ho' : (q0 != s) = false := by rw [hk3] at ho; simpa using ho
              clear ho
              go_wp2_with fail
              generalize w4.alloc (.cells #[.int .i64 q0, .int .i64 q2, .int .i64 p0.1, .int .i64 p0.2, .int .i64 p1.1, .int .i64 p1.2, .int .i64 p2.1, .int .i64 p2.2, .int .i64 p3.1, .int .i64 p3.2] 82) = W5 at I5 m1 m2 m3 ⊢
              refine (HJ.out _).mono ?_
              rintro e w6 ⟨rfl, hb6⟩
              have I6 := I5.on hb6
              have n2 := (I6.nth 1 rfl).eight
              have n3 := (I6.nth 2 rfl).five.1
              have V6 := ((((((((I6.nth 1 rfl).put 0 (.int .i64 (mxp x0 p0).1)).put 1 (.int .i64 (mxp x0 p0).2)).put 2 (.int .i64 (mxp x1 p1).1)).put 3 (.int .i64 (mxp x1 p1).2)).put 4 (.int .i64 (mxp x2 p2).1)).put 5 (.int .i64 (mxp x2 p2).2)).put 6 (.int .i64 (mxp x3 p3).1)).put 7 (.int .i64 (mxp x3 p3).2)
              simp only [List.setIfInBounds_toArray, List.set_cons_zero, List.set_cons_succ] at V6
              have zz := I5.room
              have z6 := hb6.size
              have I7 : Inv w (w.heap.size + 1 + 1) [(w.heap.size + 1, 53, doneC s k 2 t u), (w.heap.size, 70, #[.map (some b1), .map (some b2)])] (((((((((w6.setCell ⟨w.heap.size + 1 + 1, 0, none⟩ (.int .i64 (mxp x0 p0).1)).setCell ⟨w.heap.size + 1 + 1, 1, none⟩ (.int .i64 (mxp x0 p0).2)).setCell ⟨w.heap.size + 1 + 1, 2, none⟩ (.int .i64 (mxp x1 p1).1)).setCell ⟨w.heap.size + 1 + 1, 3, none⟩ (.int .i64 (mxp x1 p1).2)).setCell ⟨w.heap.size + 1 + 1, 4, none⟩ (.int .i64 (mxp x2 p2).1)).setCell ⟨w.heap.size + 1 + 1, 5, none⟩ (.int .i64 (mxp x2 p2).2)).setCell ⟨w.heap.size + 1 + 1, 6, none⟩ (.int .i64 (mxp x3 p3).1)).setCell ⟨w.heap.size + 1 + 1, 7, none⟩ (.int .i64 (mxp x3 p3).2))) := ((((((((narrow I6 (by omega) (by simp) (by simp; omega)).set (by simp) (by simp; omega) _).set (by simp) (by simp; omega) _).set (by simp) (by simp; omega) _).set (by simp) (by simp; omega) _).set (by simp) (by simp; omega) _).set (by simp) (by simp; omega) _).set (by simp) (by simp; omega) _).set (by simp) (by simp; omega) _
              have VM6 := HV.out.on I6.below
              have WM6 := HW.out.on I6.below
              have VM7 := (((((((VM6.set (p := ⟨w.heap.size + 1 + 1, 0, none⟩) (by simp; omega) (.int .i64 (mxp x0 p0).1)).set (p := ⟨w.heap.size + 1 + 1, 1, none⟩) (by simp; omega) (.int .i64 (mxp x0 p0).2)).set (p := ⟨w.heap.size + 1 + 1, 2, none⟩) (by simp; omega) (.int .i64 (mxp x1 p1).1)).set (p := ⟨w.heap.size + 1 + 1, 3, none⟩) (by simp; omega) (.int .i64 (mxp x1 p1).2)).set (p := ⟨w.heap.size + 1 + 1, 4, none⟩) (by simp; omega) (.int .i64 (mxp x2 p2).1)).set (p := ⟨w.heap.size + 1 + 1, 5, none⟩) (by simp; omega) (.int .i64 (mxp x2 p2).2)).set (p := ⟨w.heap.size + 1 + 1, 6, none⟩) (by simp; omega) (.int .i64 (mxp x3 p3).1)).set (p := ⟨w.heap.size + 1 + 1, 7, none⟩) (by simp; omega) (.int .i64 (mxp x3 p3).2)
              have WM7 := (((((((WM6.set (p := ⟨w.heap.size + 1 + 1, 0, none⟩) (by simp; omega) (.int .i64 (mxp x0 p0).1)).set (p := ⟨w.heap.size + 1 + 1, 1, none⟩) (by simp; omega) (.int .i64 (mxp x0 p0).2)).set (p := ⟨w.heap.size + 1 + 1, 2, none⟩) (by simp; omega) (.int .i64 (mxp x1 p1).1)).set (p := ⟨w.heap.size + 1 + 1, 3, none⟩) (by simp; omega) (.int .i64 (mxp x1 p1).2)).set (p := ⟨w.heap.size + 1 + 1, 4, none⟩) (by simp; omega) (.int .i64 (mxp x2 p2).1)).set (p := ⟨w.heap.size + 1 + 1, 5, none⟩) (by simp; omega) (.int .i64 (mxp x2 p2).2)).set (p := ⟨w.heap.size + 1 + 1, 6, none⟩) (by simp; omega) (.int .i64 (mxp x3 p3).1)).set (p := ⟨w.heap.size + 1 + 1, 7, none⟩) (by simp; omega) (.int .i64 (mxp x3 p3).2)
              clear m1 m2 m3 I5 HJ hb6 VM6 WM6
              go_wp2_with fail
              clear n2 n3
              generalize ((((((((w6.setCell ⟨w.heap.size + 1 + 1, 0, none⟩ (.int .i64 (mxp x0 p0).1)).setCell ⟨w.heap.size + 1 + 1, 1, none⟩ (.int .i64 (mxp x0 p0).2)).setCell ⟨w.heap.size + 1 + 1, 2, none⟩ (.int .i64 (mxp x1 p1).1)).setCell ⟨w.heap.size + 1 + 1, 3, none⟩ (.int .i64 (mxp x1 p1).2)).setCell ⟨w.heap.size + 1 + 1, 4, none⟩ (.int .i64 (mxp x2 p2).1)).setCell ⟨w.heap.size + 1 + 1, 5, none⟩ (.int .i64 (mxp x2 p2).2)).setCell ⟨w.heap.size + 1 + 1, 6, none⟩ (.int .i64 (mxp x3 p3).1)).setCell ⟨w.heap.size + 1 + 1, 7, none⟩ (.int .i64 (mxp x3 p3).2)) = W7 at V6 I7 VM7 WM7 ⊢
              have hz7 := V6.inside
              have v7 := V6.drew.eight.1
              refine wp_region_noPanic ?_
              refine wp_region_held_drew (S := (fun w' => (w'.cell? ⟨w.heap.size + 1, 2, none⟩ = some (.int .i64 2) ∧ w'.cell? ⟨w.heap.size + 1, 3, none⟩ = some (.int .i64 t) ∧ w'.cell? ⟨w.heap.size + 1, 4, none⟩ = some (.int .i64 u)) ∧ Inv w (w.heap.size + 1 + 1) [(w.heap.size + 1, 53, doneC s k 2 t u), (w.heap.size, 70, #[.map (some b1), .map (some b2)])] w')) (by kernel_rfl) (by exact ⟨⟨(I7.drew.nth 0 rfl).at 2, (I7.drew.nth 0 rfl).at 3, (I7.drew.nth 0 rfl).at 4⟩, I7.drew⟩) (fun hHeld => ?_)
              refine take_run 0 (some 58) (v := ?_) rfl rfl (by kernel_rfl) (by kernel_rfl) (by kernel_rfl) (fun _ _ _ h => h) (by rfl) ?_ hHeld ?_
              rotate_left
              · ((intro w hSw); (try dsimp only at hSw); go_simp <;> with_reducible rfl)
              simp only [Act.put, List.setIfInBounds_toArray, List.set_cons_zero, List.set_cons_succ]
              refine take_run 1 (some 59) (v := ?_) rfl rfl (by kernel_rfl) (by kernel_rfl) (by kernel_rfl) (fun _ _ _ h => h) (by rfl) ?_ hHeld ?_
              rotate_left
              · ((intro w hSw); (try dsimp only at hSw); go_simp <;> with_reducible rfl)
              simp only [Act.put, List.setIfInBounds_toArray, List.set_cons_zero, List.set_cons_succ]
              refine take_run 2 (some 60) (v := ?_) rfl rfl (by kernel_rfl) (by kernel_rfl) (by kernel_rfl) (fun _ _ _ h => h) (by rfl) ?_ hHeld ?_
              rotate_left
              · ((intro w hSw); (try dsimp only at hSw); go_simp <;> with_reducible rfl)
              simp only [Act.put, List.setIfInBounds_toArray, List.set_cons_zero, List.set_cons_succ]
              refine take_run 3 (some 61) (v := ?_) rfl rfl (by kernel_rfl) (by kernel_rfl) (by kernel_rfl) (fun _ _ _ h => h) (by rfl) ?_ hHeld ?_
              rotate_left
              · ((intro w hSw); (try dsimp only at hSw); go_simp <;> with_reducible rfl)
              simp only [Act.put, List.setIfInBounds_toArray, List.set_cons_zero, List.set_cons_succ]
              refine take_run 4 (some 62) (v := ?_) rfl rfl (by kernel_rfl) (by kernel_rfl) (by kernel_rfl) (fun _ _ _ h => h) (by rfl) ?_ hHeld ?_
              rotate_left
              · ((intro w hSw); (try dsimp only at hSw); go_simp <;> with_reducible rfl)
              simp only [Act.put, List.setIfInBounds_toArray, List.set_cons_zero, List.set_cons_succ]
              refine take_run 5 (some 63) (v := ?_) rfl rfl (by kernel_rfl) (by kernel_rfl) (by kernel_rfl) (fun _ _ _ h => h) (by rfl) ?_ hHeld ?_
              rotate_left
              · ((intro w hSw); (try dsimp only at hSw); go_simp <;> with_reducible rfl)
              simp only [Act.put, List.setIfInBounds_toArray, List.set_cons_zero, List.set_cons_succ]
              refine take_run 7 (some 65) (v := ?_) rfl rfl (by kernel_rfl) (by kernel_rfl) (by kernel_rfl) (fun _ _ _ h => h) (by rfl) ?_ hHeld ?_
              rotate_left
              · ((intro w hSw); (try dsimp only at hSw); go_simp <;> with_reducible rfl)
              simp only [Act.put, List.setIfInBounds_toArray, List.set_cons_zero, List.set_cons_succ]
              refine take_run 8 (some 66) (v := ?_) rfl rfl (by kernel_rfl) (by kernel_rfl) (by kernel_rfl) (fun _ _ _ h => h) (by rfl) ?_ hHeld ?_
              rotate_left
              · ((intro w hSw); (try dsimp only at hSw); go_simp <;> with_reducible rfl)
              simp only [Act.put, List.setIfInBounds_toArray, List.set_cons_zero, List.set_cons_succ]
              refine take_run 10 (some 68) (v := ?_) rfl rfl (by kernel_rfl) (by kernel_rfl) (by kernel_rfl) (fun _ _ _ h => h) (by rfl) ?_ hHeld ?_
              rotate_left
              · ((intro w hSw); (try dsimp only at hSw); go_simp <;> with_reducible rfl)
              simp only [Act.put, List.setIfInBounds_toArray, List.set_cons_zero, List.set_cons_succ]
              refine take_one 6 (by kernel_rfl) rfl (fun K hK => ?_)
              go_simp
              refine hK.out _ _ (by exact hHeld) (fun hHeld => ?_)
              clear hK K
              refine take_one 9 (by kernel_rfl) rfl (fun K hK => ?_)
              go_simp
              (refine (implTagMax_any _ _ _ _ _).mono ?_; rintro e w8 ⟨rfl, hb8⟩; have V8 := V6.drew.on hb8; have v8 := V8.eight)
              try go_wp2_with fail
              refine hK.out _ _ (by exact ⟨⟨((hHeld.2.on hb8).nth 0 rfl).at 2, ((hHeld.2.on hb8).nth 0 rfl).at 3, ((hHeld.2.on hb8).nth 0 rfl).at 4⟩, hHeld.2.on hb8⟩) (fun hHeld => ?_)
              clear hK K
              refine take_run 11 (some 69) (v := ?_) rfl rfl (by kernel_rfl) (by kernel_rfl) (by kernel_rfl) (fun _ _ _ h => h) (by rfl) ?_ hHeld ?_
              rotate_left
              · ((intro w hSw); (try dsimp only at hSw); go_simp <;> with_reducible rfl)
              simp only [Act.put, List.setIfInBounds_toArray, List.set_cons_zero, List.set_cons_succ]
              refine take_one 12 (by kernel_rfl) rfl (fun K hK => ?_)
              go_simp
              refine hK.out _ _ (by exact ⟨⟨(((hHeld.2.set (by simp) (by simp; omega) _).set (by simp) (by simp; omega) _).nth 0 rfl).at 2, (((hHeld.2.set (by simp) (by simp; omega) _).set (by simp) (by simp; omega) _).nth 0 rfl).at 3, (((hHeld.2.set (by simp) (by simp; omega) _).set (by simp) (by simp; omega) _).nth 0 rfl).at 4⟩, (hHeld.2.set (by simp) (by simp; omega) _).set (by simp) (by simp; omega) _⟩) (fun hHeld => ?_)
              clear hK K
              refine wpAnyH_done (by kernel_rfl) ?_ _
              refine NoPanic.normal ?_
              have I9 := hHeld.2
              have V9 := (V8.put 4 (.int .i64 (mxT (mxp x2 p2).1 (mxp x2 p2).2 t u))).put 5 (.int .i64 (mxP (mxp x2 p2).1 (mxp x2 p2).2 t u))
              simp only [List.setIfInBounds_toArray, List.set_cons_zero, List.set_cons_succ] at V9
              have hz8 := hb8.size
              have hz7d : W7.heap.size ≤ w8.heap.size := hz8
              have VM9 := (((VM7.drew.on (w' := w8) hb8).set (p := ⟨w.heap.size + 1 + 1, 4, none⟩) (by simp; omega) (.int .i64 (mxT (mxp x2 p2).1 (mxp x2 p2).2 t u))).set (p := ⟨w.heap.size + 1 + 1, 5, none⟩) (by simp; omega) (.int .i64 (mxP (mxp x2 p2).1 (mxp x2 p2).2 t u)))
              have WM9 := (((WM7.drew.on (w' := w8) hb8).set (p := ⟨w.heap.size + 1 + 1, 4, none⟩) (by simp; omega) (.int .i64 (mxT (mxp x2 p2).1 (mxp x2 p2).2 t u))).set (p := ⟨w.heap.size + 1 + 1, 5, none⟩) (by simp; omega) (.int .i64 (mxP (mxp x2 p2).1 (mxp x2 p2).2 t u)))
              clear hHeld v7 v8 V8 V6 VM7 WM7 I7
              have hsaw : sawT (viewOf st s) [p0, p1, p2, p3] (s, k, 2, t, u) = [mxp x0 p0, mxp x1 p1, (mxT (mxp x2 p2).1 (mxp x2 p2).2 t u, mxP (mxp x2 p2).1 (mxp x2 p2).2 t u), mxp x3 p3] := by rw [HX4.out]; rfl
              have HSAW := hide hsaw
              clear hsaw
              generalize (w8.setCell ⟨w.heap.size + 1 + 1, 4, none⟩ (.int .i64 (mxT (mxp x2 p2).1 (mxp x2 p2).2 t u))).setCell ⟨w.heap.size + 1 + 1, 5, none⟩ (.int .i64 (mxP (mxp x2 p2).1 (mxp x2 p2).2 t u)) = W9 at I9 V9 VM9 WM9 ⊢
              have o1 := (I9.nth 1 rfl).two
              have o2 := (I9.nth 0 rfl).five.1
              have o3 := V9.eight.1
              obtain ⟨w10, hrun, hVM10, hG10⟩ := VM9.put (by omega) hs0 hs3 (view_set HOK.out hs0 hs3 (sawT (viewOf st s) [p0, p1, p2, p3] (s, k, 2, t, u)) (st.2 ++ [((s, k, 2, t, u), sawT (viewOf st s) [p0, p1, p2, p3] (s, k, 2, t, u))])).1 (view_set HOK.out hs0 hs3 _ _).2
              have hrun' := hrun
              rw [HSAW.out, cells4_eq] at hrun'
              simp only at hrun'
              have HVM := hide hVM10
              clear hrun hVM10
              go_wp2
              go_ret
              refine ⟨some b1, ?_, ?_, ?_, (grown_none I9.below).trans hG10, fun g hg => ?_⟩
              · rw [HS.out]; rfl
              · rw [HS.out]; exact HVM.out
              · rw [HS.out]; exact ((WM9.kept hG10 (by intro e; injection e with e; exact HB.out e.symm)).mono (by omega)).read HK.out
              · injection hg with hg; exact .inl hg.symm
          · have HS := hide (step_sight_own HK.out HL.out HZ.out HWR.out hy ho)
            have hk3 : (k == 3) = true := by simp only [Bool.and_eq_true] at ho; exact ho.1
            have ho' : (q0 != s) = true := by simp only [Bool.and_eq_true] at ho; exact ho.2
            clear ho
            go_wp2
            go_ret
            exact added_none HS.out HV.out HW.out L5
        · have HS := hide (step_sight_key HK.out HL.out HZ.out HWR.out hy)
          go_wp2
          go_ret
          exact added_none HS.out HV.out HW.out L5
    · have hq' : ∀ W : World, (binOp .eql 43 (.agg #[.int .i64 t, .int .i64 u]) (.agg #[.int .i64 0, .int .i64 0])).run Try.prog W = .ok (.bool true) W := fun W => by rw [hq W, hz]
      have HS := hide (step_sight_zero HK.out (by rw [HTA.out]; exact hl) hz)
      clear hq hz hl
      go_wp2
      go_ret
      refine ⟨none, ?_, ?_, ?_, grown_none I4.below, by simp⟩
      · rw [HS.out]; rfl
      · rw [HS.out]; exact ((HV.out.on I4.below).mono (by omega)).same rfl
      · rw [HS.out]; exact ((HW.out.on I4.below).mono (by omega)).read HK.out
  · have HS := hide (step_sight_early HK.out (by rw [HTA.out]; exact hl))
    clear hl hq
    go_wp2
    go_ret
    exact added_none HS.out HV.out HW.out I4.below

set_option maxRecDepth 100000 in
set_option maxHeartbeats 8000000 in
theorem addSight_3 (b1 b2 N : Nat) (st : St) (s k t u : Int) (w : World) (hok : StOk st) (hk : (k == 1) = false) (hv : doneB (s, k, 3, t, u) = true) (hb : b1 ≠ b2) (hN : N < 1000) (hV : VM w b1 N st) (hW : WM w b2 N st) :
    Calls Try.prog 110 #[.agg #[.map (some b1), .map (some b2)], .agg (doneC s k 3 t u)] w (Added w b1 b2 N st (s, k, 3, t, u)) := by
  obtain ⟨x0, x1, x2, x3, hx4⟩ := four_len (viewOf_len hok s)
  have hi := doneB_i hv
  have hto := hi.2.2.2.2.2.2.1
  have hs0 := hi.1
  have hs3 := hi.2.1
  have hta : tagAt (viewOf st s) 3 = x3 := by rw [hx4]; rfl
  have HB := hide hb
  have HK := hide hk
  have HTA := hide hta
  have HTO := hide hto
  have HOK := hide hok
  have S0 := (((Inv.start w).box 70 #[.map (some b1), .map (some b2)]).box 53 (doneC s k 3 t u)).box 77 #[.int .i64 x0.1, .int .i64 x0.2, .int .i64 x1.1, .int .i64 x1.2, .int .i64 x2.1, .int .i64 x2.2, .int .i64 x3.1, .int .i64 x3.2]
  simp only [World.size_alloc] at S0
  have look1 := (hV.on (((Inv.start w).box 70 #[.map (some b1), .map (some b2)]).box 53 (doneC s k 3 t u)).below).look (s := s) hi.1 hi.2.1
  rw [hx4, cells4_eq] at look1
  have HX4 := hide hx4
  have HV := hide hV
  have HW := hide hW
  have hV1 := hV.lt
  have hW1 := hW.lt
  have hq := tagEql_run t u 0 0
  clear hv hi hto hok hb hV hW hta hx4 hk
  have C2 : ∀ W : World, Calls Try.prog 91 #[.agg #[.int .i64 t, .int .i64 u], .agg #[.int .i64 x3.1, .int .i64 x3.2]] W fun e w' => e = .returned (.bool (lessB t u x3.1 x3.2)) ∧ Below W.heap.size W w' := fun W => less_any t u _ _ W
  have HC2 := hide C2
  clear C2
  go_enter Try.func110, Try.ntmps110
  go_wp2_with fail
  clear look1
  generalize (((w.alloc (.cells #[.map (some b1), .map (some b2)] 70)).alloc (.cells (doneC s k 3 t u) 53)).alloc (.cells #[.int .i64 x0.1, .int .i64 x0.2, .int .i64 x1.1, .int .i64 x1.2, .int .i64 x2.1, .int .i64 x2.2, .int .i64 x3.1, .int .i64 x3.2] 77)) = W at S0 ⊢
  refine wp_region_noPanic ?_
  refine wp_region_held_drew (S := (fun w' => (w'.cell? ⟨w.heap.size + 1, 2, none⟩ = some (.int .i64 3) ∧ w'.cell? ⟨w.heap.size + 1, 3, none⟩ = some (.int .i64 t) ∧ w'.cell? ⟨w.heap.size + 1, 4, none⟩ = some (.int .i64 u) ∧ w'.cell? ⟨w.heap.size + 1 + 1, 6, none⟩ = some (.int .i64 x3.1) ∧ w'.cell? ⟨w.heap.size + 1 + 1, 7, none⟩ = some (.int .i64 x3.2)) ∧ Inv w (w.heap.size + 1 + 1 + 1) [(w.heap.size + 1 + 1, 77, #[.int .i64 x0.1, .int .i64 x0.2, .int .i64 x1.1, .int .i64 x1.2, .int .i64 x2.1, .int .i64 x2.2, .int .i64 x3.1, .int .i64 x3.2]), (w.heap.size + 1, 53, doneC s k 3 t u), (w.heap.size, 70, #[.map (some b1), .map (some b2)])] w')) (by kernel_rfl) (by exact ⟨⟨(S0.drew.nth 1 rfl).at 2, (S0.drew.nth 1 rfl).at 3, (S0.drew.nth 1 rfl).at 4, (S0.drew.nth 0 rfl).at 6, (S0.drew.nth 0 rfl).at 7⟩, S0.drew⟩) (fun hHeld => ?_)
  refine take_run 0 (some 13) (v := ?_) rfl rfl (by kernel_rfl) (by kernel_rfl) (by kernel_rfl) (fun _ _ _ h => h) (by rfl) ?_ hHeld ?_
  rotate_left
  · ((intro w hSw); (try dsimp only at hSw); go_simp <;> with_reducible rfl)
  simp only [Act.put, List.setIfInBounds_toArray, List.set_cons_zero, List.set_cons_succ]
  refine take_run 1 (some 14) (v := ?_) rfl rfl (by kernel_rfl) (by kernel_rfl) (by kernel_rfl) (fun _ _ _ h => h) (by rfl) ?_ hHeld ?_
  rotate_left
  · ((intro w hSw); (try dsimp only at hSw); go_simp <;> with_reducible rfl)
  simp only [Act.put, List.setIfInBounds_toArray, List.set_cons_zero, List.set_cons_succ]
  refine take_run 2 (some 15) (v := ?_) rfl rfl (by kernel_rfl) (by kernel_rfl) (by kernel_rfl) (fun _ _ _ h => h) (by rfl) ?_ hHeld ?_
  rotate_left
  · ((intro w hSw); (try dsimp only at hSw); go_simp <;> with_reducible rfl)
  simp only [Act.put, List.setIfInBounds_toArray, List.set_cons_zero, List.set_cons_succ]
  refine take_run 3 (some 16) (v := ?_) rfl rfl (by kernel_rfl) (by kernel_rfl) (by kernel_rfl) (fun _ _ _ h => h) (by rfl) ?_ hHeld ?_
  rotate_left
  · ((intro w hSw); (try dsimp only at hSw); go_simp <;> with_reducible rfl)
  simp only [Act.put, List.setIfInBounds_toArray, List.set_cons_zero, List.set_cons_succ]
  refine take_run 4 (some 17) (v := ?_) rfl rfl (by kernel_rfl) (by kernel_rfl) (by kernel_rfl) (fun _ _ _ h => h) (by rfl) ?_ hHeld ?_
  rotate_left
  · ((intro w hSw); (try dsimp only at hSw); go_simp <;> with_reducible rfl)
  simp only [Act.put, List.setIfInBounds_toArray, List.set_cons_zero, List.set_cons_succ]
  refine take_run 5 (some 18) (v := ?_) rfl rfl (by kernel_rfl) (by kernel_rfl) (by kernel_rfl) (fun _ _ _ h => h) (by rfl) ?_ hHeld ?_
  rotate_left
  · ((intro w hSw); (try dsimp only at hSw); go_simp <;> with_reducible rfl)
  simp only [Act.put, List.setIfInBounds_toArray, List.set_cons_zero, List.set_cons_succ]
  refine take_run 6 (some 19) (v := ?_) rfl rfl (by kernel_rfl) (by kernel_rfl) (by kernel_rfl) (fun _ _ _ h => h) (by rfl) ?_ hHeld ?_
  rotate_left
  · ((intro w hSw); (try dsimp only at hSw); go_simp <;> with_reducible rfl)
  simp only [Act.put, List.setIfInBounds_toArray, List.set_cons_zero, List.set_cons_succ]
  refine take_one 7 (by kernel_rfl) rfl (fun K hK => ?_)
  go_simp
  (refine (HC2.out _).mono ?_; rintro e w4 ⟨rfl, hb4⟩)
  try go_wp2_with fail
  refine hK.out _ _ (by exact ⟨⟨((hHeld.2.on hb4).nth 1 rfl).at 2, ((hHeld.2.on hb4).nth 1 rfl).at 3, ((hHeld.2.on hb4).nth 1 rfl).at 4, ((hHeld.2.on hb4).nth 0 rfl).at 6, ((hHeld.2.on hb4).nth 0 rfl).at 7⟩, (hHeld.2.on hb4)⟩) (fun hHeld => ?_)
  clear hK K
  refine wpAnyH_done (by kernel_rfl) ?_ _
  refine NoPanic.normal ?_
  have I4 := hHeld.2
  clear hHeld S0 HC2
  have k1 := (I4.nth 2 rfl).two
  have k2 := (I4.nth 1 rfl).five.1
  have z4' := I4.room
  cases hl : lessB t u x3.1 x3.2
  · cases hz : eqB t u 0 0
    · have hq' : ∀ W : World, (binOp .eql 43 (.agg #[.int .i64 t, .int .i64 u]) (.agg #[.int .i64 0, .int .i64 0])).run Try.prog W = .ok (.bool false) W := fun W => by rw [hq W, hz]
      have HZ := hide hz
      have HL : Hid (lessB t u (tagAt (viewOf st s) 3).1 (tagAt (viewOf st s) 3).2 = false) := by unfold Hid; rw [HTA.out]; exact hl
      clear hq hz hl
      cases hwr : wrote st t u with
      | none =>
        have look2 := (HW.out.on I4.below).missing HTO.out hwr
        have HS := hide (step_sight_none HK.out HL.out HZ.out hwr)
        have L5 := I4.below.alloc I4.base (.cells zero10 82)
        clear hwr
        go_wp2
        go_ret
        exact added_none HS.out HV.out HW.out L5
      | some x =>
        have look2 := (HW.out.on I4.below).found HTO.out hwr
        obtain ⟨⟨q0, q1, q2, q3, q4⟩, p⟩ := x
        obtain ⟨p0, p1, p2, p3, hp⟩ := four_len (wrote_len HOK.out hwr)
        simp only at hp
        subst hp
        rw [wrCells_eq] at look2
        simp only at look2
        have HWR := hide hwr
        have L5 := I4.below.alloc I4.base (.cells #[.int .i64 q0, .int .i64 q2, .int .i64 p0.1, .int .i64 p0.2, .int .i64 p1.1, .int .i64 p1.2, .int .i64 p2.1, .int .i64 p2.2, .int .i64 p3.1, .int .i64 p3.2] 82)
        clear hwr
        have I5 := I4.top.box 82 #[.int .i64 q0, .int .i64 q2, .int .i64 p0.1, .int .i64 p0.2, .int .i64 p1.1, .int .i64 p1.2, .int .i64 p2.1, .int .i64 p2.2, .int .i64 p3.1, .int .i64 p3.2]
        simp only [World.size_alloc] at I5
        have m1 := (I5.nth 0 rfl).ten
        have m2 := (I5.nth 1 rfl).eight.1
        have m3 := (I5.nth 2 rfl).five.1
        cases hy : (q2 != 3)
        · cases ho : ((k == 3) && (q0 != s))
          · have HS := hide (step_sight HK.out HL.out HZ.out HWR.out hy ho)
            have HJ := hide (join_any x0 x1 x2 x3 p0 p1 p2 p3)
            clear L5
            cases hk3 : (k == 3)
            · clear ho
              go_wp2_with fail
              generalize w4.alloc (.cells #[.int .i64 q0, .int .i64 q2, .int .i64 p0.1, .int .i64 p0.2, .int .i64 p1.1, .int .i64 p1.2, .int .i64 p2.1, .int .i64 p2.2, .int .i64 p3.1, .int .i64 p3.2] 82) = W5 at I5 m1 m2 m3 ⊢
              refine (HJ.out _).mono ?_
              rintro e w6 ⟨rfl, hb6⟩
              have I6 := I5.on hb6
              have n2 := (I6.nth 1 rfl).eight
              have n3 := (I6.nth 2 rfl).five.1
              have V6 := ((((((((I6.nth 1 rfl).put 0 (.int .i64 (mxp x0 p0).1)).put 1 (.int .i64 (mxp x0 p0).2)).put 2 (.int .i64 (mxp x1 p1).1)).put 3 (.int .i64 (mxp x1 p1).2)).put 4 (.int .i64 (mxp x2 p2).1)).put 5 (.int .i64 (mxp x2 p2).2)).put 6 (.int .i64 (mxp x3 p3).1)).put 7 (.int .i64 (mxp x3 p3).2)
              simp only [List.setIfInBounds_toArray, List.set_cons_zero, List.set_cons_succ] at V6
              have zz := I5.room
              have z6 := hb6.size
              have I7 : Inv w (w.heap.size + 1 + 1) [(w.heap.size + 1, 53, doneC s k 3 t u), (w.heap.size, 70, #[.map (some b1), .map (some b2)])] (((((((((w6.setCell ⟨w.heap.size + 1 + 1, 0, none⟩ (.int .i64 (mxp x0 p0).1)).setCell ⟨w.heap.size + 1 + 1, 1, none⟩ (.int .i64 (mxp x0 p0).2)).setCell ⟨w.heap.size + 1 + 1, 2, none⟩ (.int .i64 (mxp x1 p1).1)).setCell ⟨w.heap.size + 1 + 1, 3, none⟩ (.int .i64 (mxp x1 p1).2)).setCell ⟨w.heap.size + 1 + 1, 4, none⟩ (.int .i64 (mxp x2 p2).1)).setCell ⟨w.heap.size + 1 + 1, 5, none⟩ (.int .i64 (mxp x2 p2).2)).setCell ⟨w.heap.size + 1 + 1, 6, none⟩ (.int .i64 (mxp x3 p3).1)).setCell ⟨w.heap.size + 1 + 1, 7, none⟩ (.int .i64 (mxp x3 p3).2))) := ((((((((narrow I6 (by omega) (by simp) (by simp; omega)).set (by simp) (by simp; omega) _).set (by simp) (by simp; omega) _).set (by simp) (by simp; omega) _).set (by simp) (by simp; omega) _).set (by simp) (by simp; omega) _).set (by simp) (by simp; omega) _).set (by simp) (by simp; omega) _).set (by simp) (by simp; omega) _
              have VM6 := HV.out.on I6.below
              have WM6 := HW.out.on I6.below
              have VM7 := (((((((VM6.set (p := ⟨w.heap.size + 1 + 1, 0, none⟩) (by simp; omega) (.int .i64 (mxp x0 p0).1)).set (p := ⟨w.heap.size + 1 + 1, 1, none⟩) (by simp; omega) (.int .i64 (mxp x0 p0).2)).set (p := ⟨w.heap.size + 1 + 1, 2, none⟩) (by simp; omega) (.int .i64 (mxp x1 p1).1)).set (p := ⟨w.heap.size + 1 + 1, 3, none⟩) (by simp; omega) (.int .i64 (mxp x1 p1).2)).set (p := ⟨w.heap.size + 1 + 1, 4, none⟩) (by simp; omega) (.int .i64 (mxp x2 p2).1)).set (p := ⟨w.heap.size + 1 + 1, 5, none⟩) (by simp; omega) (.int .i64 (mxp x2 p2).2)).set (p := ⟨w.heap.size + 1 + 1, 6, none⟩) (by simp; omega) (.int .i64 (mxp x3 p3).1)).set (p := ⟨w.heap.size + 1 + 1, 7, none⟩) (by simp; omega) (.int .i64 (mxp x3 p3).2)
              have WM7 := (((((((WM6.set (p := ⟨w.heap.size + 1 + 1, 0, none⟩) (by simp; omega) (.int .i64 (mxp x0 p0).1)).set (p := ⟨w.heap.size + 1 + 1, 1, none⟩) (by simp; omega) (.int .i64 (mxp x0 p0).2)).set (p := ⟨w.heap.size + 1 + 1, 2, none⟩) (by simp; omega) (.int .i64 (mxp x1 p1).1)).set (p := ⟨w.heap.size + 1 + 1, 3, none⟩) (by simp; omega) (.int .i64 (mxp x1 p1).2)).set (p := ⟨w.heap.size + 1 + 1, 4, none⟩) (by simp; omega) (.int .i64 (mxp x2 p2).1)).set (p := ⟨w.heap.size + 1 + 1, 5, none⟩) (by simp; omega) (.int .i64 (mxp x2 p2).2)).set (p := ⟨w.heap.size + 1 + 1, 6, none⟩) (by simp; omega) (.int .i64 (mxp x3 p3).1)).set (p := ⟨w.heap.size + 1 + 1, 7, none⟩) (by simp; omega) (.int .i64 (mxp x3 p3).2)
              clear m1 m2 m3 I5 HJ hb6 VM6 WM6
              go_wp2_with fail
              clear n2 n3
              generalize ((((((((w6.setCell ⟨w.heap.size + 1 + 1, 0, none⟩ (.int .i64 (mxp x0 p0).1)).setCell ⟨w.heap.size + 1 + 1, 1, none⟩ (.int .i64 (mxp x0 p0).2)).setCell ⟨w.heap.size + 1 + 1, 2, none⟩ (.int .i64 (mxp x1 p1).1)).setCell ⟨w.heap.size + 1 + 1, 3, none⟩ (.int .i64 (mxp x1 p1).2)).setCell ⟨w.heap.size + 1 + 1, 4, none⟩ (.int .i64 (mxp x2 p2).1)).setCell ⟨w.heap.size + 1 + 1, 5, none⟩ (.int .i64 (mxp x2 p2).2)).setCell ⟨w.heap.size + 1 + 1, 6, none⟩ (.int .i64 (mxp x3 p3).1)).setCell ⟨w.heap.size + 1 + 1, 7, none⟩ (.int .i64 (mxp x3 p3).2)) = W7 at V6 I7 VM7 WM7 ⊢
              have hz7 := V6.inside
              have v7 := V6.drew.eight.1
              refine wp_region_noPanic ?_
              refine wp_region_held_drew (S := (fun w' => (w'.cell? ⟨w.heap.size + 1, 2, none⟩ = some (.int .i64 3) ∧ w'.cell? ⟨w.heap.size + 1, 3, none⟩ = some (.int .i64 t) ∧ w'.cell? ⟨w.heap.size + 1, 4, none⟩ = some (.int .i64 u)) ∧ Inv w (w.heap.size + 1 + 1) [(w.heap.size + 1, 53, doneC s k 3 t u), (w.heap.size, 70, #[.map (some b1), .map (some b2)])] w')) (by kernel_rfl) (by exact ⟨⟨(I7.drew.nth 0 rfl).at 2, (I7.drew.nth 0 rfl).at 3, (I7.drew.nth 0 rfl).at 4⟩, I7.drew⟩) (fun hHeld => ?_)
              refine take_run 0 (some 58) (v := ?_) rfl rfl (by kernel_rfl) (by kernel_rfl) (by kernel_rfl) (fun _ _ _ h => h) (by rfl) ?_ hHeld ?_
              rotate_left
              · ((intro w hSw); (try dsimp only at hSw); go_simp <;> with_reducible rfl)
              simp only [Act.put, List.setIfInBounds_toArray, List.set_cons_zero, List.set_cons_succ]
              refine take_run 1 (some 59) (v := ?_) rfl rfl (by kernel_rfl) (by kernel_rfl) (by kernel_rfl) (fun _ _ _ h => h) (by rfl) ?_ hHeld ?_
              rotate_left
              · ((intro w hSw); (try dsimp only at hSw); go_simp <;> with_reducible rfl)
              simp only [Act.put, List.setIfInBounds_toArray, List.set_cons_zero, List.set_cons_succ]
              refine take_run 2 (some 60) (v := ?_) rfl rfl (by kernel_rfl) (by kernel_rfl) (by kernel_rfl) (fun _ _ _ h => h) (by rfl) ?_ hHeld ?_
              rotate_left
              · ((intro w hSw); (try dsimp only at hSw); go_simp <;> with_reducible rfl)
              simp only [Act.put, List.setIfInBounds_toArray, List.set_cons_zero, List.set_cons_succ]
              refine take_run 3 (some 61) (v := ?_) rfl rfl (by kernel_rfl) (by kernel_rfl) (by kernel_rfl) (fun _ _ _ h => h) (by rfl) ?_ hHeld ?_
              rotate_left
              · ((intro w hSw); (try dsimp only at hSw); go_simp <;> with_reducible rfl)
              simp only [Act.put, List.setIfInBounds_toArray, List.set_cons_zero, List.set_cons_succ]
              refine take_run 4 (some 62) (v := ?_) rfl rfl (by kernel_rfl) (by kernel_rfl) (by kernel_rfl) (fun _ _ _ h => h) (by rfl) ?_ hHeld ?_
              rotate_left
              · ((intro w hSw); (try dsimp only at hSw); go_simp <;> with_reducible rfl)
              simp only [Act.put, List.setIfInBounds_toArray, List.set_cons_zero, List.set_cons_succ]
              refine take_run 5 (some 63) (v := ?_) rfl rfl (by kernel_rfl) (by kernel_rfl) (by kernel_rfl) (fun _ _ _ h => h) (by rfl) ?_ hHeld ?_
              rotate_left
              · ((intro w hSw); (try dsimp only at hSw); go_simp <;> with_reducible rfl)
              simp only [Act.put, List.setIfInBounds_toArray, List.set_cons_zero, List.set_cons_succ]
              refine take_run 7 (some 65) (v := ?_) rfl rfl (by kernel_rfl) (by kernel_rfl) (by kernel_rfl) (fun _ _ _ h => h) (by rfl) ?_ hHeld ?_
              rotate_left
              · ((intro w hSw); (try dsimp only at hSw); go_simp <;> with_reducible rfl)
              simp only [Act.put, List.setIfInBounds_toArray, List.set_cons_zero, List.set_cons_succ]
              refine take_run 8 (some 66) (v := ?_) rfl rfl (by kernel_rfl) (by kernel_rfl) (by kernel_rfl) (fun _ _ _ h => h) (by rfl) ?_ hHeld ?_
              rotate_left
              · ((intro w hSw); (try dsimp only at hSw); go_simp <;> with_reducible rfl)
              simp only [Act.put, List.setIfInBounds_toArray, List.set_cons_zero, List.set_cons_succ]
              refine take_run 10 (some 68) (v := ?_) rfl rfl (by kernel_rfl) (by kernel_rfl) (by kernel_rfl) (fun _ _ _ h => h) (by rfl) ?_ hHeld ?_
              rotate_left
              · ((intro w hSw); (try dsimp only at hSw); go_simp <;> with_reducible rfl)
              simp only [Act.put, List.setIfInBounds_toArray, List.set_cons_zero, List.set_cons_succ]
              refine take_one 6 (by kernel_rfl) rfl (fun K hK => ?_)
              go_simp
              refine hK.out _ _ (by exact hHeld) (fun hHeld => ?_)
              clear hK K
              refine take_one 9 (by kernel_rfl) rfl (fun K hK => ?_)
              go_simp
              (refine (implTagMax_any _ _ _ _ _).mono ?_; rintro e w8 ⟨rfl, hb8⟩; have V8 := V6.drew.on hb8; have v8 := V8.eight)
              try go_wp2_with fail
              refine hK.out _ _ (by exact ⟨⟨((hHeld.2.on hb8).nth 0 rfl).at 2, ((hHeld.2.on hb8).nth 0 rfl).at 3, ((hHeld.2.on hb8).nth 0 rfl).at 4⟩, hHeld.2.on hb8⟩) (fun hHeld => ?_)
              clear hK K
              refine take_run 11 (some 69) (v := ?_) rfl rfl (by kernel_rfl) (by kernel_rfl) (by kernel_rfl) (fun _ _ _ h => h) (by rfl) ?_ hHeld ?_
              rotate_left
              · ((intro w hSw); (try dsimp only at hSw); go_simp <;> with_reducible rfl)
              simp only [Act.put, List.setIfInBounds_toArray, List.set_cons_zero, List.set_cons_succ]
              refine take_one 12 (by kernel_rfl) rfl (fun K hK => ?_)
              go_simp
              refine hK.out _ _ (by exact ⟨⟨(((hHeld.2.set (by simp) (by simp; omega) _).set (by simp) (by simp; omega) _).nth 0 rfl).at 2, (((hHeld.2.set (by simp) (by simp; omega) _).set (by simp) (by simp; omega) _).nth 0 rfl).at 3, (((hHeld.2.set (by simp) (by simp; omega) _).set (by simp) (by simp; omega) _).nth 0 rfl).at 4⟩, (hHeld.2.set (by simp) (by simp; omega) _).set (by simp) (by simp; omega) _⟩) (fun hHeld => ?_)
              clear hK K
              refine wpAnyH_done (by kernel_rfl) ?_ _
              refine NoPanic.normal ?_
              have I9 := hHeld.2
              have V9 := (V8.put 6 (.int .i64 (mxT (mxp x3 p3).1 (mxp x3 p3).2 t u))).put 7 (.int .i64 (mxP (mxp x3 p3).1 (mxp x3 p3).2 t u))
              simp only [List.setIfInBounds_toArray, List.set_cons_zero, List.set_cons_succ] at V9
              have hz8 := hb8.size
              have hz7d : W7.heap.size ≤ w8.heap.size := hz8
              have VM9 := (((VM7.drew.on (w' := w8) hb8).set (p := ⟨w.heap.size + 1 + 1, 6, none⟩) (by simp; omega) (.int .i64 (mxT (mxp x3 p3).1 (mxp x3 p3).2 t u))).set (p := ⟨w.heap.size + 1 + 1, 7, none⟩) (by simp; omega) (.int .i64 (mxP (mxp x3 p3).1 (mxp x3 p3).2 t u)))
              have WM9 := (((WM7.drew.on (w' := w8) hb8).set (p := ⟨w.heap.size + 1 + 1, 6, none⟩) (by simp; omega) (.int .i64 (mxT (mxp x3 p3).1 (mxp x3 p3).2 t u))).set (p := ⟨w.heap.size + 1 + 1, 7, none⟩) (by simp; omega) (.int .i64 (mxP (mxp x3 p3).1 (mxp x3 p3).2 t u)))
              clear hHeld v7 v8 V8 V6 VM7 WM7 I7
              have hsaw : sawT (viewOf st s) [p0, p1, p2, p3] (s, k, 3, t, u) = [mxp x0 p0, mxp x1 p1, mxp x2 p2, (mxT (mxp x3 p3).1 (mxp x3 p3).2 t u, mxP (mxp x3 p3).1 (mxp x3 p3).2 t u)] := by rw [HX4.out]; rfl
              have HSAW := hide hsaw
              clear hsaw
              generalize (w8.setCell ⟨w.heap.size + 1 + 1, 6, none⟩ (.int .i64 (mxT (mxp x3 p3).1 (mxp x3 p3).2 t u))).setCell ⟨w.heap.size + 1 + 1, 7, none⟩ (.int .i64 (mxP (mxp x3 p3).1 (mxp x3 p3).2 t u)) = W9 at I9 V9 VM9 WM9 ⊢
              have o1 := (I9.nth 1 rfl).two
              have o2 := (I9.nth 0 rfl).five.1
              have o3 := V9.eight.1
              obtain ⟨w10, hrun, hVM10, hG10⟩ := VM9.put (by omega) hs0 hs3 (view_set HOK.out hs0 hs3 (sawT (viewOf st s) [p0, p1, p2, p3] (s, k, 3, t, u)) (st.2 ++ [((s, k, 3, t, u), sawT (viewOf st s) [p0, p1, p2, p3] (s, k, 3, t, u))])).1 (view_set HOK.out hs0 hs3 _ _).2
              have hrun' := hrun
              rw [HSAW.out, cells4_eq] at hrun'
              simp only at hrun'
              have HVM := hide hVM10
              clear hrun hVM10
              go_wp2
              go_ret
              refine ⟨some b1, ?_, ?_, ?_, (grown_none I9.below).trans hG10, fun g hg => ?_⟩
              · rw [HS.out]; rfl
              · rw [HS.out]; exact HVM.out
              · rw [HS.out]; exact ((WM9.kept hG10 (by intro e; injection e with e; exact HB.out e.symm)).mono (by omega)).read HK.out
              · injection hg with hg; exact .inl hg.symm
            · have ho' : (q0 != s) = false := by rw [hk3] at ho; simpa using ho
              clear ho
              go_wp2_with fail
              generalize w4.alloc (.cells #[.int .i64 q0, .int .i64 q2, .int .i64 p0.1, .int .i64 p0.2, .int .i64 p1.1, .int .i64 p1.2, .int .i64 p2.1, .int .i64 p2.2, .int .i64 p3.1, .int .i64 p3.2] 82) = W5 at I5 m1 m2 m3 ⊢
              refine (HJ.out _).mono ?_
              rintro e w6 ⟨rfl, hb6⟩
              have I6 := I5.on hb6
              have n2 := (I6.nth 1 rfl).eight
              have n3 := (I6.nth 2 rfl).five.1
              have V6 := ((((((((I6.nth 1 rfl).put 0 (.int .i64 (mxp x0 p0).1)).put 1 (.int .i64 (mxp x0 p0).2)).put 2 (.int .i64 (mxp x1 p1).1)).put 3 (.int .i64 (mxp x1 p1).2)).put 4 (.int .i64 (mxp x2 p2).1)).put 5 (.int .i64 (mxp x2 p2).2)).put 6 (.int .i64 (mxp x3 p3).1)).put 7 (.int .i64 (mxp x3 p3).2)
              simp only [List.setIfInBounds_toArray, List.set_cons_zero, List.set_cons_succ] at V6
              have zz := I5.room
              have z6 := hb6.size
              have I7 : Inv w (w.heap.size + 1 + 1) [(w.heap.size + 1, 53, doneC s k 3 t u), (w.heap.size, 70, #[.map (some b1), .map (some b2)])] (((((((((w6.setCell ⟨w.heap.size + 1 + 1, 0, none⟩ (.int .i64 (mxp x0 p0).1)).setCell ⟨w.heap.size + 1 + 1, 1, none⟩ (.int .i64 (mxp x0 p0).2)).setCell ⟨w.heap.size + 1 + 1, 2, none⟩ (.int .i64 (mxp x1 p1).1)).setCell ⟨w.heap.size + 1 + 1, 3, none⟩ (.int .i64 (mxp x1 p1).2)).setCell ⟨w.heap.size + 1 + 1, 4, none⟩ (.int .i64 (mxp x2 p2).1)).setCell ⟨w.heap.size + 1 + 1, 5, none⟩ (.int .i64 (mxp x2 p2).2)).setCell ⟨w.heap.size + 1 + 1, 6, none⟩ (.int .i64 (mxp x3 p3).1)).setCell ⟨w.heap.size + 1 + 1, 7, none⟩ (.int .i64 (mxp x3 p3).2))) := ((((((((narrow I6 (by omega) (by simp) (by simp; omega)).set (by simp) (by simp; omega) _).set (by simp) (by simp; omega) _).set (by simp) (by simp; omega) _).set (by simp) (by simp; omega) _).set (by simp) (by simp; omega) _).set (by simp) (by simp; omega) _).set (by simp) (by simp; omega) _).set (by simp) (by simp; omega) _
              have VM6 := HV.out.on I6.below
              have WM6 := HW.out.on I6.below
              have VM7 := (((((((VM6.set (p := ⟨w.heap.size + 1 + 1, 0, none⟩) (by simp; omega) (.int .i64 (mxp x0 p0).1)).set (p := ⟨w.heap.size + 1 + 1, 1, none⟩) (by simp; omega) (.int .i64 (mxp x0 p0).2)).set (p := ⟨w.heap.size + 1 + 1, 2, none⟩) (by simp; omega) (.int .i64 (mxp x1 p1).1)).set (p := ⟨w.heap.size + 1 + 1, 3, none⟩) (by simp; omega) (.int .i64 (mxp x1 p1).2)).set (p := ⟨w.heap.size + 1 + 1, 4, none⟩) (by simp; omega) (.int .i64 (mxp x2 p2).1)).set (p := ⟨w.heap.size + 1 + 1, 5, none⟩) (by simp; omega) (.int .i64 (mxp x2 p2).2)).set (p := ⟨w.heap.size + 1 + 1, 6, none⟩) (by simp; omega) (.int .i64 (mxp x3 p3).1)).set (p := ⟨w.heap.size + 1 + 1, 7, none⟩) (by simp; omega) (.int .i64 (mxp x3 p3).2)
              have WM7 := (((((((WM6.set (p := ⟨w.heap.size + 1 + 1, 0, none⟩) (by simp; omega) (.int .i64 (mxp x0 p0).1)).set (p := ⟨w.heap.size + 1 + 1, 1, none⟩) (by simp; omega) (.int .i64 (mxp x0 p0).2)).set (p := ⟨w.heap.size + 1 + 1, 2, none⟩) (by simp; omega) (.int .i64 (mxp x1 p1).1)).set (p := ⟨w.heap.size + 1 + 1, 3, none⟩) (by simp; omega) (.int .i64 (mxp x1 p1).2)).set (p := ⟨w.heap.size + 1 + 1, 4, none⟩) (by simp; omega) (.int .i64 (mxp x2 p2).1)).set (p := ⟨w.heap.size + 1 + 1, 5, none⟩) (by simp; omega) (.int .i64 (mxp x2 p2).2)).set (p := ⟨w.heap.size + 1 + 1, 6, none⟩) (by simp; omega) (.int .i64 (mxp x3 p3).1)).set (p := ⟨w.heap.size + 1 + 1, 7, none⟩) (by simp; omega) (.int .i64 (mxp x3 p3).2)
              clear m1 m2 m3 I5 HJ hb6 VM6 WM6
              go_wp2_with fail
              clear n2 n3
              generalize ((((((((w6.setCell ⟨w.heap.size + 1 + 1, 0, none⟩ (.int .i64 (mxp x0 p0).1)).setCell ⟨w.heap.size + 1 + 1, 1, none⟩ (.int .i64 (mxp x0 p0).2)).setCell ⟨w.heap.size + 1 + 1, 2, none⟩ (.int .i64 (mxp x1 p1).1)).setCell ⟨w.heap.size + 1 + 1, 3, none⟩ (.int .i64 (mxp x1 p1).2)).setCell ⟨w.heap.size + 1 + 1, 4, none⟩ (.int .i64 (mxp x2 p2).1)).setCell ⟨w.heap.size + 1 + 1, 5, none⟩ (.int .i64 (mxp x2 p2).2)).setCell ⟨w.heap.size + 1 + 1, 6, none⟩ (.int .i64 (mxp x3 p3).1)).setCell ⟨w.heap.size + 1 + 1, 7, none⟩ (.int .i64 (mxp x3 p3).2)) = W7 at V6 I7 VM7 WM7 ⊢
              have hz7 := V6.inside
              have v7 := V6.drew.eight.1
              refine wp_region_noPanic ?_
              refine wp_region_held_drew (S := (fun w' => (w'.cell? ⟨w.heap.size + 1, 2, none⟩ = some (.int .i64 3) ∧ w'.cell? ⟨w.heap.size + 1, 3, none⟩ = some (.int .i64 t) ∧ w'.cell? ⟨w.heap.size + 1, 4, none⟩ = some (.int .i64 u)) ∧ Inv w (w.heap.size + 1 + 1) [(w.heap.size + 1, 53, doneC s k 3 t u), (w.heap.size, 70, #[.map (some b1), .map (some b2)])] w')) (by kernel_rfl) (by exact ⟨⟨(I7.drew.nth 0 rfl).at 2, (I7.drew.nth 0 rfl).at 3, (I7.drew.nth 0 rfl).at 4⟩, I7.drew⟩) (fun hHeld => ?_)
              refine take_run 0 (some 58) (v := ?_) rfl rfl (by kernel_rfl) (by kernel_rfl) (by kernel_rfl) (fun _ _ _ h => h) (by rfl) ?_ hHeld ?_
              rotate_left
              · ((intro w hSw); (try dsimp only at hSw); go_simp <;> with_reducible rfl)
              simp only [Act.put, List.setIfInBounds_toArray, List.set_cons_zero, List.set_cons_succ]
              refine take_run 1 (some 59) (v := ?_) rfl rfl (by kernel_rfl) (by kernel_rfl) (by kernel_rfl) (fun _ _ _ h => h) (by rfl) ?_ hHeld ?_
              rotate_left
              · ((intro w hSw); (try dsimp only at hSw); go_simp <;> with_reducible rfl)
              simp only [Act.put, List.setIfInBounds_toArray, List.set_cons_zero, List.set_cons_succ]
              refine take_run 2 (some 60) (v := ?_) rfl rfl (by kernel_rfl) (by kernel_rfl) (by kernel_rfl) (fun _ _ _ h => h) (by rfl) ?_ hHeld ?_
              rotate_left
              · ((intro w hSw); (try dsimp only at hSw); go_simp <;> with_reducible rfl)
              simp only [Act.put, List.setIfInBounds_toArray, List.set_cons_zero, List.set_cons_succ]
              refine take_run 3 (some 61) (v := ?_) rfl rfl (by kernel_rfl) (by kernel_rfl) (by kernel_rfl) (fun _ _ _ h => h) (by rfl) ?_ hHeld ?_
              rotate_left
              · ((intro w hSw); (try dsimp only at hSw); go_simp <;> with_reducible rfl)
              simp only [Act.put, List.setIfInBounds_toArray, List.set_cons_zero, List.set_cons_succ]
              refine take_run 4 (some 62) (v := ?_) rfl rfl (by kernel_rfl) (by kernel_rfl) (by kernel_rfl) (fun _ _ _ h => h) (by rfl) ?_ hHeld ?_
              rotate_left
              · ((intro w hSw); (try dsimp only at hSw); go_simp <;> with_reducible rfl)
              simp only [Act.put, List.setIfInBounds_toArray, List.set_cons_zero, List.set_cons_succ]
              refine take_run 5 (some 63) (v := ?_) rfl rfl (by kernel_rfl) (by kernel_rfl) (by kernel_rfl) (fun _ _ _ h => h) (by rfl) ?_ hHeld ?_
              rotate_left
              · ((intro w hSw); (try dsimp only at hSw); go_simp <;> with_reducible rfl)
              simp only [Act.put, List.setIfInBounds_toArray, List.set_cons_zero, List.set_cons_succ]
              refine take_run 7 (some 65) (v := ?_) rfl rfl (by kernel_rfl) (by kernel_rfl) (by kernel_rfl) (fun _ _ _ h => h) (by rfl) ?_ hHeld ?_
              rotate_left
              · ((intro w hSw); (try dsimp only at hSw); go_simp <;> with_reducible rfl)
              simp only [Act.put, List.setIfInBounds_toArray, List.set_cons_zero, List.set_cons_succ]
              refine take_run 8 (some 66) (v := ?_) rfl rfl (by kernel_rfl) (by kernel_rfl) (by kernel_rfl) (fun _ _ _ h => h) (by rfl) ?_ hHeld ?_
              rotate_left
              · ((intro w hSw); (try dsimp only at hSw); go_simp <;> with_reducible rfl)
              simp only [Act.put, List.setIfInBounds_toArray, List.set_cons_zero, List.set_cons_succ]
              refine take_run 10 (some 68) (v := ?_) rfl rfl (by kernel_rfl) (by kernel_rfl) (by kernel_rfl) (fun _ _ _ h => h) (by rfl) ?_ hHeld ?_
              rotate_left
              · ((intro w hSw); (try dsimp only at hSw); go_simp <;> with_reducible rfl)
              simp only [Act.put, List.setIfInBounds_toArray, List.set_cons_zero, List.set_cons_succ]
              refine take_one 6 (by kernel_rfl) rfl (fun K hK => ?_)
              go_simp
              refine hK.out _ _ (by exact hHeld) (fun hHeld => ?_)
              clear hK K
              refine take_one 9 (by kernel_rfl) rfl (fun K hK => ?_)
              go_simp
              (refine (implTagMax_any _ _ _ _ _).mono ?_; rintro e w8 ⟨rfl, hb8⟩; have V8 := V6.drew.on hb8; have v8 := V8.eight)
              try go_wp2_with fail
              refine hK.out _ _ (by exact ⟨⟨((hHeld.2.on hb8).nth 0 rfl).at 2, ((hHeld.2.on hb8).nth 0 rfl).at 3, ((hHeld.2.on hb8).nth 0 rfl).at 4⟩, hHeld.2.on hb8⟩) (fun hHeld => ?_)
              clear hK K
              refine take_run 11 (some 69) (v := ?_) rfl rfl (by kernel_rfl) (by kernel_rfl) (by kernel_rfl) (fun _ _ _ h => h) (by rfl) ?_ hHeld ?_
              rotate_left
              · ((intro w hSw); (try dsimp only at hSw); go_simp <;> with_reducible rfl)
              simp only [Act.put, List.setIfInBounds_toArray, List.set_cons_zero, List.set_cons_succ]
              refine take_one 12 (by kernel_rfl) rfl (fun K hK => ?_)
              go_simp
              refine hK.out _ _ (by exact ⟨⟨(((hHeld.2.set (by simp) (by simp; omega) _).set (by simp) (by simp; omega) _).nth 0 rfl).at 2, (((hHeld.2.set (by simp) (by simp; omega) _).set (by simp) (by simp; omega) _).nth 0 rfl).at 3, (((hHeld.2.set (by simp) (by simp; omega) _).set (by simp) (by simp; omega) _).nth 0 rfl).at 4⟩, (hHeld.2.set (by simp) (by simp; omega) _).set (by simp) (by simp; omega) _⟩) (fun hHeld => ?_)
              clear hK K
              refine wpAnyH_done (by kernel_rfl) ?_ _
              refine NoPanic.normal ?_
              have I9 := hHeld.2
              have V9 := (V8.put 6 (.int .i64 (mxT (mxp x3 p3).1 (mxp x3 p3).2 t u))).put 7 (.int .i64 (mxP (mxp x3 p3).1 (mxp x3 p3).2 t u))
              simp only [List.setIfInBounds_toArray, List.set_cons_zero, List.set_cons_succ] at V9
              have hz8 := hb8.size
              have hz7d : W7.heap.size ≤ w8.heap.size := hz8
              have VM9 := (((VM7.drew.on (w' := w8) hb8).set (p := ⟨w.heap.size + 1 + 1, 6, none⟩) (by simp; omega) (.int .i64 (mxT (mxp x3 p3).1 (mxp x3 p3).2 t u))).set (p := ⟨w.heap.size + 1 + 1, 7, none⟩) (by simp; omega) (.int .i64 (mxP (mxp x3 p3).1 (mxp x3 p3).2 t u)))
              have WM9 := (((WM7.drew.on (w' := w8) hb8).set (p := ⟨w.heap.size + 1 + 1, 6, none⟩) (by simp; omega) (.int .i64 (mxT (mxp x3 p3).1 (mxp x3 p3).2 t u))).set (p := ⟨w.heap.size + 1 + 1, 7, none⟩) (by simp; omega) (.int .i64 (mxP (mxp x3 p3).1 (mxp x3 p3).2 t u)))
              clear hHeld v7 v8 V8 V6 VM7 WM7 I7
              have hsaw : sawT (viewOf st s) [p0, p1, p2, p3] (s, k, 3, t, u) = [mxp x0 p0, mxp x1 p1, mxp x2 p2, (mxT (mxp x3 p3).1 (mxp x3 p3).2 t u, mxP (mxp x3 p3).1 (mxp x3 p3).2 t u)] := by rw [HX4.out]; rfl
              have HSAW := hide hsaw
              clear hsaw
              generalize (w8.setCell ⟨w.heap.size + 1 + 1, 6, none⟩ (.int .i64 (mxT (mxp x3 p3).1 (mxp x3 p3).2 t u))).setCell ⟨w.heap.size + 1 + 1, 7, none⟩ (.int .i64 (mxP (mxp x3 p3).1 (mxp x3 p3).2 t u)) = W9 at I9 V9 VM9 WM9 ⊢
              have o1 := (I9.nth 1 rfl).two
              have o2 := (I9.nth 0 rfl).five.1
              have o3 := V9.eight.1
              obtain ⟨w10, hrun, hVM10, hG10⟩ := VM9.put (by omega) hs0 hs3 (view_set HOK.out hs0 hs3 (sawT (viewOf st s) [p0, p1, p2, p3] (s, k, 3, t, u)) (st.2 ++ [((s, k, 3, t, u), sawT (viewOf st s) [p0, p1, p2, p3] (s, k, 3, t, u))])).1 (view_set HOK.out hs0 hs3 _ _).2
              have hrun' := hrun
              rw [HSAW.out, cells4_eq] at hrun'
              simp only at hrun'
              have HVM := hide hVM10
              clear hrun hVM10
              go_wp2
              go_ret
              refine ⟨some b1, ?_, ?_, ?_, (grown_none I9.below).trans hG10, fun g hg => ?_⟩
              · rw [HS.out]; rfl
              · rw [HS.out]; exact HVM.out
              · rw [HS.out]; exact ((WM9.kept hG10 (by intro e; injection e with e; exact HB.out e.symm)).mono (by omega)).read HK.out
              · injection hg with hg; exact .inl hg.symm
          · have HS := hide (step_sight_own HK.out HL.out HZ.out HWR.out hy ho)
            have hk3 : (k == 3) = true := by simp only [Bool.and_eq_true] at ho; exact ho.1
            have ho' : (q0 != s) = true := by simp only [Bool.and_eq_true] at ho; exact ho.2
            clear ho
            go_wp2
            go_ret
            exact added_none HS.out HV.out HW.out L5
        · have HS := hide (step_sight_key HK.out HL.out HZ.out HWR.out hy)
          go_wp2
          go_ret
          exact added_none HS.out HV.out HW.out L5
    · have hq' : ∀ W : World, (binOp .eql 43 (.agg #[.int .i64 t, .int .i64 u]) (.agg #[.int .i64 0, .int .i64 0])).run Try.prog W = .ok (.bool true) W := fun W => by rw [hq W, hz]
      have HS := hide (step_sight_zero HK.out (by rw [HTA.out]; exact hl) hz)
      clear hq hz hl
      go_wp2
      go_ret
      refine ⟨none, ?_, ?_, ?_, grown_none I4.below, by simp⟩
      · rw [HS.out]; rfl
      · rw [HS.out]; exact ((HV.out.on I4.below).mono (by omega)).same rfl
      · rw [HS.out]; exact ((HW.out.on I4.below).mono (by omega)).read HK.out
  · have HS := hide (step_sight_early HK.out (by rw [HTA.out]; exact hl))
    clear hl hq
    go_wp2
    go_ret
    exact added_none HS.out HV.out HW.out I4.below

end Go.Proofs.Ytjljaobmeaocjaa
