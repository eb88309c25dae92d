/- Contracts of the functions that compare vectors of tags, in the program and in the model. Condition: at most 1048576 tags. -/
import Derived.Test.YtjnloillcgeodaaJStores2
import Derived.Test.YtjnloillcgeodaaJPastRes
import Derived.Test.YtjnloillcgeodaaJStoreJoin
import Derived.Test.YtjnloillcgeodaaJStoreNew0
import Derived.Test.YtjnloillcgeodaaJLackPure
import Derived.Test.YtjnloillcgeodaaJChainAdd
namespace Go.Proofs.Ytjnloillcgeodaa
open Go.RowKit Go.Joins
attribute [local go_sem ↓] Go.wp_at_zero Go.wp_at_succ

/-- Whether no tag of the first list is later than the other's at its place. -/
def withinB (ts us : List (Int × Int)) : Bool := (ts.zip us).all fun p => !lessB p.2.1 p.2.2 p.1.1 p.1.2
/-- Up to place k none is later. -/
def NoLater (ts us : List (Int × Int)) (k : Nat) : Prop := ∀ (j : Nat) (x y : Int × Int), j < k → ts[j]? = some x → us[j]? = some y → lessB y.1 y.2 x.1 x.2 = false
theorem noLater_zero (ts us : List (Int × Int)) : NoLater ts us 0 := fun j _ _ hj => absurd hj (by omega)
theorem noLater_step {ts us : List (Int × Int)} {k : Nat} {x y : Int × Int} (h : NoLater ts us k) (hx : ts[k]? = some x) (hy : us[k]? = some y) (hl : lessB y.1 y.2 x.1 x.2 = false) : NoLater ts us (k + 1) := by
  intro j x' y' hj hx' hy'
  by_cases e : j = k
  · subst e
    rw [hx] at hx'
    rw [hy] at hy'
    injection hx' with hx'
    injection hy' with hy'
    subst hx' hy'
    exact hl
  · exact h j x' y' (by omega) hx' hy'
theorem within_t {ts us : List (Int × Int)} (hl : ts.length = 4) (h : NoLater ts us 4) : withinB ts us = true := by
  unfold withinB
  rw [List.all_eq_true]
  intro p hp
  obtain ⟨j, hj⟩ := List.getElem?_of_mem hp
  rw [List.getElem?_zip_eq_some] at hj
  have hlt := (List.getElem?_eq_some_iff.1 hj.1).1
  have := h j p.1 p.2 (by omega) hj.1 hj.2
  simp [this]
theorem within_f {ts us : List (Int × Int)} {k : Nat} {x y : Int × Int} (hx : ts[k]? = some x) (hy : us[k]? = some y) (hl : lessB y.1 y.2 x.1 x.2 = true) : withinB ts us = false := by
  unfold withinB
  rw [List.all_eq_false]
  refine ⟨(x, y), List.mem_of_getElem? (i := k) ?_, by simp [hl]⟩
  rw [List.getElem?_zip_eq_some]
  exact ⟨hx, hy⟩

set_option maxRecDepth 100000 in
set_option maxHeartbeats 2000000 in
theorem within_any (x0 x1 x2 x3 y0 y1 y2 y3 : Int × Int) (w : World) :
    Calls Try.prog 55 #[.agg #[.int .i64 x0.1, .int .i64 x0.2, .int .i64 x1.1, .int .i64 x1.2, .int .i64 x2.1, .int .i64 x2.2, .int .i64 x3.1, .int .i64 x3.2], .agg #[.int .i64 y0.1, .int .i64 y0.2, .int .i64 y1.1, .int .i64 y1.2, .int .i64 y2.1, .int .i64 y2.2, .int .i64 y3.1, .int .i64 y3.2]] w fun e w' => e = .returned (.bool (withinB [x0, x1, x2, x3] [y0, y1, y2, y3])) ∧ Below w.heap.size w w' := by
  have S0 := ((Inv.start w).box 93 #[.int .i64 x0.1, .int .i64 x0.2, .int .i64 x1.1, .int .i64 x1.2, .int .i64 x2.1, .int .i64 x2.2, .int .i64 x3.1, .int .i64 x3.2]).box 93 #[.int .i64 y0.1, .int .i64 y0.2, .int .i64 y1.1, .int .i64 y1.2, .int .i64 y2.1, .int .i64 y2.2, .int .i64 y3.1, .int .i64 y3.2]
  simp only [World.size_alloc] at S0
  have S1 : Inv w ((w.alloc (.cells #[.int .i64 x0.1, .int .i64 x0.2, .int .i64 x1.1, .int .i64 x1.2, .int .i64 x2.1, .int .i64 x2.2, .int .i64 x3.1, .int .i64 x3.2] 93)).alloc (.cells #[.int .i64 y0.1, .int .i64 y0.2, .int .i64 y1.1, .int .i64 y1.2, .int .i64 y2.1, .int .i64 y2.2, .int .i64 y3.1, .int .i64 y3.2] 93)).heap.size [(w.heap.size + 1, 93, #[.int .i64 y0.1, .int .i64 y0.2, .int .i64 y1.1, .int .i64 y1.2, .int .i64 y2.1, .int .i64 y2.2, .int .i64 y3.1, .int .i64 y3.2])] ((w.alloc (.cells #[.int .i64 x0.1, .int .i64 x0.2, .int .i64 x1.1, .int .i64 x1.2, .int .i64 x2.1, .int .i64 x2.2, .int .i64 x3.1, .int .i64 x3.2] 93)).alloc (.cells #[.int .i64 y0.1, .int .i64 y0.2, .int .i64 y1.1, .int .i64 y1.2, .int .i64 y2.1, .int .i64 y2.2, .int .i64 y3.1, .int .i64 y3.2] 93)) := (S0.top).sub (by simp)
  clear S0
  have i0 : ∀ W : World, (Instr.index 91 (.agg #[.int .i64 x0.1, .int .i64 x0.2, .int .i64 x1.1, .int .i64 x1.2, .int .i64 x2.1, .int .i64 x2.2, .int .i64 x3.1, .int .i64 x3.2]) (.int .i64 0)).run Try.prog W = .ok (.agg #[.int .i64 x0.1, .int .i64 x0.2]) W := fun _ => by kernel_rfl
  have i1 : ∀ W : World, (Instr.index 91 (.agg #[.int .i64 x0.1, .int .i64 x0.2, .int .i64 x1.1, .int .i64 x1.2, .int .i64 x2.1, .int .i64 x2.2, .int .i64 x3.1, .int .i64 x3.2]) (.int .i64 1)).run Try.prog W = .ok (.agg #[.int .i64 x1.1, .int .i64 x1.2]) W := fun _ => by kernel_rfl
  have i2 : ∀ W : World, (Instr.index 91 (.agg #[.int .i64 x0.1, .int .i64 x0.2, .int .i64 x1.1, .int .i64 x1.2, .int .i64 x2.1, .int .i64 x2.2, .int .i64 x3.1, .int .i64 x3.2]) (.int .i64 2)).run Try.prog W = .ok (.agg #[.int .i64 x2.1, .int .i64 x2.2]) W := fun _ => by kernel_rfl
  have i3 : ∀ W : World, (Instr.index 91 (.agg #[.int .i64 x0.1, .int .i64 x0.2, .int .i64 x1.1, .int .i64 x1.2, .int .i64 x2.1, .int .i64 x2.2, .int .i64 x3.1, .int .i64 x3.2]) (.int .i64 3)).run Try.prog W = .ok (.agg #[.int .i64 x3.1, .int .i64 x3.2]) W := fun _ => by kernel_rfl
  go_enter Try.func55, Try.ntmps55
  go_wp2
  go_loopw [9] (fun i wr => ∃ k : Int, 0 ≤ k ∧ k ≤ 4 ∧ i = .int .i64 k ∧ Hid (NoLater [x0, x1, x2, x3] [y0, y1, y2, y3] k.toNat) ∧ Inv w wr.heap.size [(w.heap.size + 1, 93, #[.int .i64 y0.1, .int .i64 y0.2, .int .i64 y1.1, .int .i64 y1.2, .int .i64 y2.1, .int .i64 y2.2, .int .i64 y3.1, .int .i64 y3.2])] wr) (fun i _ => 4 - (intOf i).toNat)
  case atStart => exact ⟨0, by omega, by omega, rfl, noLater_zero _ _, S1⟩
  case round =>
    obtain ⟨k, hk0, hk, rfl, hno, hI⟩ := hrel
    clear S1
    have hcase : k = 0 ∨ k = 1 ∨ k = 2 ∨ k = 3 ∨ k = 4 := by omega
    rcases hcase with rfl | rfl | rfl | rfl | rfl
    · have V0 := (hI.top).box 27 #[.int .i64 x0.1, .int .i64 x0.2]
      simp only [World.size_alloc] at V0
      go_wp2_with fail
      generalize wr.alloc (.cells #[.int .i64 x0.1, .int .i64 x0.2] 27) = W at V0 ⊢
      refine wp_region_noPanic ?_
      refine wp_region_held_drew (S := (fun w' => w'.cell? ⟨wr.heap.size, 0, none⟩ = some (.int .i64 x0.1) ∧ w'.cell? ⟨wr.heap.size, 1, none⟩ = some (.int .i64 x0.2) ∧ w'.cell? ⟨w.heap.size + 1, 0, none⟩ = some (.int .i64 y0.1) ∧ w'.cell? ⟨w.heap.size + 1, 1, none⟩ = some (.int .i64 y0.2) ∧ Inv w (wr.heap.size + 1) [(wr.heap.size, 27, #[.int .i64 x0.1, .int .i64 x0.2]), (w.heap.size + 1, 93, #[.int .i64 y0.1, .int .i64 y0.2, .int .i64 y1.1, .int .i64 y1.2, .int .i64 y2.1, .int .i64 y2.2, .int .i64 y3.1, .int .i64 y3.2])] w')) (by kernel_rfl) (by exact ⟨(V0.nth 0 rfl).at 0, (V0.nth 0 rfl).at 1, (V0.nth 1 rfl).at 0, (V0.nth 1 rfl).at 1, V0.drew⟩) (fun hHeld => ?_)
      refine take_run 0 (some 13) (v := ?_) rfl rfl (by kernel_rfl) (by kernel_rfl) (by kernel_rfl) (fun _ _ _ h => h) (by rfl) ?_ hHeld ?_
      rotate_left
      · ((intro w hSw); (try dsimp only at hSw); go_simp <;> with_reducible rfl)
      simp only [Act.put, List.setIfInBounds_toArray, List.set_cons_zero, List.set_cons_succ]
      refine take_run 1 (some 14) (v := ?_) rfl rfl (by kernel_rfl) (by kernel_rfl) (by kernel_rfl) (fun _ _ _ h => h) (by rfl) ?_ hHeld ?_
      rotate_left
      · ((intro w hSw); (try dsimp only at hSw); go_simp <;> with_reducible rfl)
      simp only [Act.put, List.setIfInBounds_toArray, List.set_cons_zero, List.set_cons_succ]
      refine take_run 2 (some 15) (v := ?_) rfl rfl (by kernel_rfl) (by kernel_rfl) (by kernel_rfl) (fun _ _ _ h => h) (by rfl) ?_ hHeld ?_
      rotate_left
      · ((intro w hSw); (try dsimp only at hSw); go_simp <;> with_reducible rfl)
      simp only [Act.put, List.setIfInBounds_toArray, List.set_cons_zero, List.set_cons_succ]
      refine take_run 3 (some 16) (v := ?_) rfl rfl (by kernel_rfl) (by kernel_rfl) (by kernel_rfl) (fun _ _ _ h => h) (by rfl) ?_ hHeld ?_
      rotate_left
      · ((intro w hSw); (try dsimp only at hSw); go_simp <;> with_reducible rfl)
      simp only [Act.put, List.setIfInBounds_toArray, List.set_cons_zero, List.set_cons_succ]
      refine take_run 4 (some 17) (v := ?_) rfl rfl (by kernel_rfl) (by kernel_rfl) (by kernel_rfl) (fun _ _ _ h => h) (by rfl) ?_ hHeld ?_
      rotate_left
      · ((intro w hSw); (try dsimp only at hSw); go_simp <;> with_reducible rfl)
      simp only [Act.put, List.setIfInBounds_toArray, List.set_cons_zero, List.set_cons_succ]
      refine take_one 5 (by kernel_rfl) rfl (fun K hK => ?_)
      go_simp
      (refine (less_any _ _ _ _ _).mono ?_; rintro e w1 ⟨rfl, hb1⟩)
      try go_wp2_with fail
      refine hK.out _ _ (by exact ⟨((hHeld.2.2.2.2.on hb1).nth 0 rfl).at 0, ((hHeld.2.2.2.2.on hb1).nth 0 rfl).at 1, ((hHeld.2.2.2.2.on hb1).nth 1 rfl).at 0, ((hHeld.2.2.2.2.on hb1).nth 1 rfl).at 1, hHeld.2.2.2.2.on hb1⟩) (fun hHeld => ?_)
      clear hK K
      refine wpAnyH_done (by kernel_rfl) ?_ _
      refine NoPanic.normal ?_
      have hI2 : Inv w (wr.heap.size + 1) [(w.heap.size + 1, 93, #[.int .i64 y0.1, .int .i64 y0.2, .int .i64 y1.1, .int .i64 y1.2, .int .i64 y2.1, .int .i64 y2.2, .int .i64 y3.1, .int .i64 y3.2])] w1 := hHeld.2.2.2.2.sub (by simp)
      clear hHeld V0
      have hz := hI.base
      cases hl : lessB y0.1 y0.2 x0.1 x0.2
      · have HN : Hid (NoLater [x0, x1, x2, x3] [y0, y1, y2, y3] (1 : Int).toNat) := noLater_step (ts := [x0, x1, x2, x3]) (us := [y0, y1, y2, y3]) (k := 0) hno.out rfl rfl hl
        clear hno hl
        go_wp2
        exact ⟨⟨1, by omega, by omega, by go_num, HN, hI2.top⟩, by simp [intOf]⟩
      · have hf := hide (within_f (ts := [x0, x1, x2, x3]) (us := [y0, y1, y2, y3]) (k := 0) rfl rfl hl)
        clear hl hno
        go_wp2
        go_ret
        exact ⟨ret_bool hf.out.symm, hI2.below⟩
    · have V0 := (hI.top).box 27 #[.int .i64 x1.1, .int .i64 x1.2]
      simp only [World.size_alloc] at V0
      go_wp2_with fail
      generalize wr.alloc (.cells #[.int .i64 x1.1, .int .i64 x1.2] 27) = W at V0 ⊢
      refine wp_region_noPanic ?_
      refine wp_region_held_drew (S := (fun w' => w'.cell? ⟨wr.heap.size, 0, none⟩ = some (.int .i64 x1.1) ∧ w'.cell? ⟨wr.heap.size, 1, none⟩ = some (.int .i64 x1.2) ∧ w'.cell? ⟨w.heap.size + 1, 2, none⟩ = some (.int .i64 y1.1) ∧ w'.cell? ⟨w.heap.size + 1, 3, none⟩ = some (.int .i64 y1.2) ∧ Inv w (wr.heap.size + 1) [(wr.heap.size, 27, #[.int .i64 x1.1, .int .i64 x1.2]), (w.heap.size + 1, 93, #[.int .i64 y0.1, .int .i64 y0.2, .int .i64 y1.1, .int .i64 y1.2, .int .i64 y2.1, .int .i64 y2.2, .int .i64 y3.1, .int .i64 y3.2])] w')) (by kernel_rfl) (by exact ⟨(V0.nth 0 rfl).at 0, (V0.nth 0 rfl).at 1, (V0.nth 1 rfl).at 2, (V0.nth 1 rfl).at 3, V0.drew⟩) (fun hHeld => ?_)
      refine take_run 0 (some 13) (v := ?_) rfl rfl (by kernel_rfl) (by kernel_rfl) (by kernel_rfl) (fun _ _ _ h => h) (by rfl) ?_ hHeld ?_
      rotate_left
      · ((intro w hSw); (try dsimp only at hSw); go_simp <;> with_reducible rfl)
      simp only [Act.put, List.setIfInBounds_toArray, List.set_cons_zero, List.set_cons_succ]
      refine take_run 1 (some 14) (v := ?_) rfl rfl (by kernel_rfl) (by kernel_rfl) (by kernel_rfl) (fun _ _ _ h => h) (by rfl) ?_ hHeld ?_
      rotate_left
      · ((intro w hSw); (try dsimp only at hSw); go_simp <;> with_reducible rfl)
      simp only [Act.put, List.setIfInBounds_toArray, List.set_cons_zero, List.set_cons_succ]
      refine take_run 2 (some 15) (v := ?_) rfl rfl (by kernel_rfl) (by kernel_rfl) (by kernel_rfl) (fun _ _ _ h => h) (by rfl) ?_ hHeld ?_
      rotate_left
      · ((intro w hSw); (try dsimp only at hSw); go_simp <;> with_reducible rfl)
      simp only [Act.put, List.setIfInBounds_toArray, List.set_cons_zero, List.set_cons_succ]
      refine take_run 3 (some 16) (v := ?_) rfl rfl (by kernel_rfl) (by kernel_rfl) (by kernel_rfl) (fun _ _ _ h => h) (by rfl) ?_ hHeld ?_
      rotate_left
      · ((intro w hSw); (try dsimp only at hSw); go_simp <;> with_reducible rfl)
      simp only [Act.put, List.setIfInBounds_toArray, List.set_cons_zero, List.set_cons_succ]
      refine take_run 4 (some 17) (v := ?_) rfl rfl (by kernel_rfl) (by kernel_rfl) (by kernel_rfl) (fun _ _ _ h => h) (by rfl) ?_ hHeld ?_
      rotate_left
      · ((intro w hSw); (try dsimp only at hSw); go_simp <;> with_reducible rfl)
      simp only [Act.put, List.setIfInBounds_toArray, List.set_cons_zero, List.set_cons_succ]
      refine take_one 5 (by kernel_rfl) rfl (fun K hK => ?_)
      go_simp
      (refine (less_any _ _ _ _ _).mono ?_; rintro e w1 ⟨rfl, hb1⟩)
      try go_wp2_with fail
      refine hK.out _ _ (by exact ⟨((hHeld.2.2.2.2.on hb1).nth 0 rfl).at 0, ((hHeld.2.2.2.2.on hb1).nth 0 rfl).at 1, ((hHeld.2.2.2.2.on hb1).nth 1 rfl).at 2, ((hHeld.2.2.2.2.on hb1).nth 1 rfl).at 3, hHeld.2.2.2.2.on hb1⟩) (fun hHeld => ?_)
      clear hK K
      refine wpAnyH_done (by kernel_rfl) ?_ _
      refine NoPanic.normal ?_
      have hI2 : Inv w (wr.heap.size + 1) [(w.heap.size + 1, 93, #[.int .i64 y0.1, .int .i64 y0.2, .int .i64 y1.1, .int .i64 y1.2, .int .i64 y2.1, .int .i64 y2.2, .int .i64 y3.1, .int .i64 y3.2])] w1 := hHeld.2.2.2.2.sub (by simp)
      clear hHeld V0
      have hz := hI.base
      cases hl : lessB y1.1 y1.2 x1.1 x1.2
      · have HN : Hid (NoLater [x0, x1, x2, x3] [y0, y1, y2, y3] (2 : Int).toNat) := noLater_step (ts := [x0, x1, x2, x3]) (us := [y0, y1, y2, y3]) (k := 1) hno.out rfl rfl hl
        clear hno hl
        go_wp2
        exact ⟨⟨2, by omega, by omega, by go_num, HN, hI2.top⟩, by simp [intOf]⟩
      · have hf := hide (within_f (ts := [x0, x1, x2, x3]) (us := [y0, y1, y2, y3]) (k := 1) rfl rfl hl)
        clear hl hno
        go_wp2
        go_ret
        exact ⟨ret_bool hf.out.symm, hI2.below⟩
    · have V0 := (hI.top).box 27 #[.int .i64 x2.1, .int .i64 x2.2]
      simp only [World.size_alloc] at V0
      go_wp2_with fail
      generalize wr.alloc (.cells #[.int .i64 x2.1, .int .i64 x2.2] 27) = W at V0 ⊢
      refine wp_region_noPanic ?_
      refine wp_region_held_drew (S := (fun w' => w'.cell? ⟨wr.heap.size, 0, none⟩ = some (.int .i64 x2.1) ∧ w'.cell? ⟨wr.heap.size, 1, none⟩ = some (.int .i64 x2.2) ∧ w'.cell? ⟨w.heap.size + 1, 4, none⟩ = some (.int .i64 y2.1) ∧ w'.cell? ⟨w.heap.size + 1, 5, none⟩ = some (.int .i64 y2.2) ∧ Inv w (wr.heap.size + 1) [(wr.heap.size, 27, #[.int .i64 x2.1, .int .i64 x2.2]), (w.heap.size + 1, 93, #[.int .i64 y0.1, .int .i64 y0.2, .int .i64 y1.1, .int .i64 y1.2, .int .i64 y2.1, .int .i64 y2.2, .int .i64 y3.1, .int .i64 y3.2])] w')) (by kernel_rfl) (by exact ⟨(V0.nth 0 rfl).at 0, (V0.nth 0 rfl).at 1, (V0.nth 1 rfl).at 4, (V0.nth 1 rfl).at 5, V0.drew⟩) (fun hHeld => ?_)
      refine take_run 0 (some 13) (v := ?_) rfl rfl (by kernel_rfl) (by kernel_rfl) (by kernel_rfl) (fun _ _ _ h => h) (by rfl) ?_ hHeld ?_
      rotate_left
      · ((intro w hSw); (try dsimp only at hSw); go_simp <;> with_reducible rfl)
      simp only [Act.put, List.setIfInBounds_toArray, List.set_cons_zero, List.set_cons_succ]
      refine take_run 1 (some 14) (v := ?_) rfl rfl (by kernel_rfl) (by kernel_rfl) (by kernel_rfl) (fun _ _ _ h => h) (by rfl) ?_ hHeld ?_
      rotate_left
      · ((intro w hSw); (try dsimp only at hSw); go_simp <;> with_reducible rfl)
      simp only [Act.put, List.setIfInBounds_toArray, List.set_cons_zero, List.set_cons_succ]
      refine take_run 2 (some 15) (v := ?_) rfl rfl (by kernel_rfl) (by kernel_rfl) (by kernel_rfl) (fun _ _ _ h => h) (by rfl) ?_ hHeld ?_
      rotate_left
      · ((intro w hSw); (try dsimp only at hSw); go_simp <;> with_reducible rfl)
      simp only [Act.put, List.setIfInBounds_toArray, List.set_cons_zero, List.set_cons_succ]
      refine take_run 3 (some 16) (v := ?_) rfl rfl (by kernel_rfl) (by kernel_rfl) (by kernel_rfl) (fun _ _ _ h => h) (by rfl) ?_ hHeld ?_
      rotate_left
      · ((intro w hSw); (try dsimp only at hSw); go_simp <;> with_reducible rfl)
      simp only [Act.put, List.setIfInBounds_toArray, List.set_cons_zero, List.set_cons_succ]
      refine take_run 4 (some 17) (v := ?_) rfl rfl (by kernel_rfl) (by kernel_rfl) (by kernel_rfl) (fun _ _ _ h => h) (by rfl) ?_ hHeld ?_
      rotate_left
      · ((intro w hSw); (try dsimp only at hSw); go_simp <;> with_reducible rfl)
      simp only [Act.put, List.setIfInBounds_toArray, List.set_cons_zero, List.set_cons_succ]
      refine take_one 5 (by kernel_rfl) rfl (fun K hK => ?_)
      go_simp
      (refine (less_any _ _ _ _ _).mono ?_; rintro e w1 ⟨rfl, hb1⟩)
      try go_wp2_with fail
      refine hK.out _ _ (by exact ⟨((hHeld.2.2.2.2.on hb1).nth 0 rfl).at 0, ((hHeld.2.2.2.2.on hb1).nth 0 rfl).at 1, ((hHeld.2.2.2.2.on hb1).nth 1 rfl).at 4, ((hHeld.2.2.2.2.on hb1).nth 1 rfl).at 5, hHeld.2.2.2.2.on hb1⟩) (fun hHeld => ?_)
      clear hK K
      refine wpAnyH_done (by kernel_rfl) ?_ _
      refine NoPanic.normal ?_
      have hI2 : Inv w (wr.heap.size + 1) [(w.heap.size + 1, 93, #[.int .i64 y0.1, .int .i64 y0.2, .int .i64 y1.1, .int .i64 y1.2, .int .i64 y2.1, .int .i64 y2.2, .int .i64 y3.1, .int .i64 y3.2])] w1 := hHeld.2.2.2.2.sub (by simp)
      clear hHeld V0
      have hz := hI.base
      cases hl : lessB y2.1 y2.2 x2.1 x2.2
      · have HN : Hid (NoLater [x0, x1, x2, x3] [y0, y1, y2, y3] (3 : Int).toNat) := noLater_step (ts := [x0, x1, x2, x3]) (us := [y0, y1, y2, y3]) (k := 2) hno.out rfl rfl hl
        clear hno hl
        go_wp2
        exact ⟨⟨3, by omega, by omega, by go_num, HN, hI2.top⟩, by simp [intOf]⟩
      · have hf := hide (within_f (ts := [x0, x1, x2, x3]) (us := [y0, y1, y2, y3]) (k := 2) rfl rfl hl)
        clear hl hno
        go_wp2
        go_ret
        exact ⟨ret_bool hf.out.symm, hI2.below⟩
    · have V0 := (hI.top).box 27 #[.int .i64 x3.1, .int .i64 x3.2]
      simp only [World.size_alloc] at V0
      go_wp2_with fail
      generalize wr.alloc (.cells #[.int .i64 x3.1, .int .i64 x3.2] 27) = W at V0 ⊢
      refine wp_region_noPanic ?_
      refine wp_region_held_drew (S := (fun w' => w'.cell? ⟨wr.heap.size, 0, none⟩ = some (.int .i64 x3.1) ∧ w'.cell? ⟨wr.heap.size, 1, none⟩ = some (.int .i64 x3.2) ∧ w'.cell? ⟨w.heap.size + 1, 6, none⟩ = some (.int .i64 y3.1) ∧ w'.cell? ⟨w.heap.size + 1, 7, none⟩ = some (.int .i64 y3.2) ∧ Inv w (wr.heap.size + 1) [(wr.heap.size, 27, #[.int .i64 x3.1, .int .i64 x3.2]), (w.heap.size + 1, 93, #[.int .i64 y0.1, .int .i64 y0.2, .int .i64 y1.1, .int .i64 y1.2, .int .i64 y2.1, .int .i64 y2.2, .int .i64 y3.1, .int .i64 y3.2])] w')) (by kernel_rfl) (by exact ⟨(V0.nth 0 rfl).at 0, (V0.nth 0 rfl).at 1, (V0.nth 1 rfl).at 6, (V0.nth 1 rfl).at 7, V0.drew⟩) (fun hHeld => ?_)
      refine take_run 0 (some 13) (v := ?_) rfl rfl (by kernel_rfl) (by kernel_rfl) (by kernel_rfl) (fun _ _ _ h => h) (by rfl) ?_ hHeld ?_
      rotate_left
      · ((intro w hSw); (try dsimp only at hSw); go_simp <;> with_reducible rfl)
      simp only [Act.put, List.setIfInBounds_toArray, List.set_cons_zero, List.set_cons_succ]
      refine take_run 1 (some 14) (v := ?_) rfl rfl (by kernel_rfl) (by kernel_rfl) (by kernel_rfl) (fun _ _ _ h => h) (by rfl) ?_ hHeld ?_
      rotate_left
      · ((intro w hSw); (try dsimp only at hSw); go_simp <;> with_reducible rfl)
      simp only [Act.put, List.setIfInBounds_toArray, List.set_cons_zero, List.set_cons_succ]
      refine take_run 2 (some 15) (v := ?_) rfl rfl (by kernel_rfl) (by kernel_rfl) (by kernel_rfl) (fun _ _ _ h => h) (by rfl) ?_ hHeld ?_
      rotate_left
      · ((intro w hSw); (try dsimp only at hSw); go_simp <;> with_reducible rfl)
      simp only [Act.put, List.setIfInBounds_toArray, List.set_cons_zero, List.set_cons_succ]
      refine take_run 3 (some 16) (v := ?_) rfl rfl (by kernel_rfl) (by kernel_rfl) (by kernel_rfl) (fun _ _ _ h => h) (by rfl) ?_ hHeld ?_
      rotate_left
      · ((intro w hSw); (try dsimp only at hSw); go_simp <;> with_reducible rfl)
      simp only [Act.put, List.setIfInBounds_toArray, List.set_cons_zero, List.set_cons_succ]
      refine take_run 4 (some 17) (v := ?_) rfl rfl (by kernel_rfl) (by kernel_rfl) (by kernel_rfl) (fun _ _ _ h => h) (by rfl) ?_ hHeld ?_
      rotate_left
      · ((intro w hSw); (try dsimp only at hSw); go_simp <;> with_reducible rfl)
      simp only [Act.put, List.setIfInBounds_toArray, List.set_cons_zero, List.set_cons_succ]
      refine take_one 5 (by kernel_rfl) rfl (fun K hK => ?_)
      go_simp
      (refine (less_any _ _ _ _ _).mono ?_; rintro e w1 ⟨rfl, hb1⟩)
      try go_wp2_with fail
      refine hK.out _ _ (by exact ⟨((hHeld.2.2.2.2.on hb1).nth 0 rfl).at 0, ((hHeld.2.2.2.2.on hb1).nth 0 rfl).at 1, ((hHeld.2.2.2.2.on hb1).nth 1 rfl).at 6, ((hHeld.2.2.2.2.on hb1).nth 1 rfl).at 7, hHeld.2.2.2.2.on hb1⟩) (fun hHeld => ?_)
      clear hK K
      refine wpAnyH_done (by kernel_rfl) ?_ _
      refine NoPanic.normal ?_
      have hI2 : Inv w (wr.heap.size + 1) [(w.heap.size + 1, 93, #[.int .i64 y0.1, .int .i64 y0.2, .int .i64 y1.1, .int .i64 y1.2, .int .i64 y2.1, .int .i64 y2.2, .int .i64 y3.1, .int .i64 y3.2])] w1 := hHeld.2.2.2.2.sub (by simp)
      clear hHeld V0
      have hz := hI.base
      cases hl : lessB y3.1 y3.2 x3.1 x3.2
      · have HN : Hid (NoLater [x0, x1, x2, x3] [y0, y1, y2, y3] (4 : Int).toNat) := noLater_step (ts := [x0, x1, x2, x3]) (us := [y0, y1, y2, y3]) (k := 3) hno.out rfl rfl hl
        clear hno hl
        go_wp2
        exact ⟨⟨4, by omega, by omega, by go_num, HN, hI2.top⟩, by simp [intOf]⟩
      · have hf := hide (within_f (ts := [x0, x1, x2, x3]) (us := [y0, y1, y2, y3]) (k := 3) rfl rfl hl)
        clear hl hno
        go_wp2
        go_ret
        exact ⟨ret_bool hf.out.symm, hI2.below⟩
    · have hf := hide (within_t (ts := [x0, x1, x2, x3]) (us := [y0, y1, y2, y3]) rfl hno.out)
      clear hno
      go_wp2
      go_ret
      exact ⟨ret_bool hf.out.symm, hI.below⟩

/-- What PastWithin answers. -/
def pwB (ts us : List (Int × Int)) : Bool := pastB ts && pastB us && withinB ts us
theorem pwB_1 {ts us : List (Int × Int)} (h : pastB ts = false) : pwB ts us = false := by unfold pwB; simp [h]
theorem pwB_2 {ts us : List (Int × Int)} (h : pastB us = false) : pwB ts us = false := by unfold pwB; simp [h]
theorem pwB_3 {ts us : List (Int × Int)} (h : pastB ts = true) (h' : pastB us = true) : pwB ts us = withinB ts us := by unfold pwB; simp [h, h']

set_option maxHeartbeats 1000000 in
theorem implPastWithin_any (a a' : Option Addr) (c c' : Nat) (ts us : List (Int × Int)) (w : World) (hn : ts.length ≤ 1048576) (hn' : us.length ≤ 1048576) (ht : Tg w w.heap.size a ts) (hu : Tg w w.heap.size a' us) :
    Calls Try.prog 19 #[.agg #[.slice a ts.length c], .agg #[.slice a' us.length c']] w fun e w' => e = .returned (.bool (pwB ts us)) ∧ Below w.heap.size w w' := by
  have S0 := ((Inv.start w).box 30 #[.slice a ts.length c]).box 30 #[.slice a' us.length c']
  simp only [World.size_alloc] at S0
  go_enter Try.func19, Try.ntmps19
  go_wp2_with fail
  generalize (w.alloc (.cells #[.slice a ts.length c] 30)).alloc (.cells #[.slice a' us.length c'] 30) = W at S0 ⊢
  refine (vectorOf_any a c ts W hn ((ht.on S0.below).up S0.base)).mono ?_
  rintro e w1 ⟨h1, h2, hb1⟩
  cases hp : pastB ts
  · have he := h2 hp
    have hf := hide (pwB_1 (us := us) hp)
    subst he
    have S1 := ((S0.on hb1).top).box 93 zero8
    have k1 := (S1.nth 1 rfl).one.1
    clear h1 h2 hp S0
    go_wp2_with fail
    generalize w1.alloc (.cells zero8 93) = W1 at S1 k1 ⊢
    refine (vectorOf_any a' c' us W1 hn' ((hu.on S1.below).up S1.base)).mono ?_
    rintro e w2 ⟨h1, h2, hb2⟩
    have S2 := S1.on hb2
    clear k1 S1
    cases hq : pastB us
    · have he := h2 hq
      subst he
      clear h1 h2 hq
      go_wp2
      go_ret
      exact ⟨ret_bool hf.out.symm, (S2.alloc _).below⟩
    · have he := h1 hq
      obtain ⟨y0, y1, y2, y3, rfl⟩ := four_of hq
      rw [cells4_eq] at he
      subst he
      clear h1 h2 hq
      go_wp2
      go_ret
      exact ⟨ret_bool hf.out.symm, (S2.alloc _).below⟩
  · have he := h1 hp
    obtain ⟨x0, x1, x2, x3, rfl⟩ := four_of hp
    rw [cells4_eq] at he
    subst he
    have S1 := ((S0.on hb1).top).box 93 #[.int .i64 x0.1, .int .i64 x0.2, .int .i64 x1.1, .int .i64 x1.2, .int .i64 x2.1, .int .i64 x2.2, .int .i64 x3.1, .int .i64 x3.2]
    have k1 := (S1.nth 1 rfl).one.1
    clear h1 h2 S0
    go_wp2_with fail
    generalize w1.alloc (.cells #[.int .i64 x0.1, .int .i64 x0.2, .int .i64 x1.1, .int .i64 x1.2, .int .i64 x2.1, .int .i64 x2.2, .int .i64 x3.1, .int .i64 x3.2] 93) = W1 at S1 k1 ⊢
    refine (vectorOf_any a' c' us W1 hn' ((hu.on S1.below).up S1.base)).mono ?_
    rintro e w2 ⟨h1, h2, hb2⟩
    have S2 := S1.on hb2
    clear k1 S1
    cases hq : pastB us
    · have he := h2 hq
      have hf := hide (pwB_2 (ts := [x0, x1, x2, x3]) hq)
      subst he
      clear h1 h2 hq hp
      go_wp2
      go_ret
      exact ⟨ret_bool hf.out.symm, (S2.alloc _).below⟩
    · have he := h1 hq
      have hf := hide (pwB_3 hp hq)
      obtain ⟨y0, y1, y2, y3, rfl⟩ := four_of hq
      rw [cells4_eq] at he
      subst he
      have S3 := (S2.top).box 93 #[.int .i64 y0.1, .int .i64 y0.2, .int .i64 y1.1, .int .i64 y1.2, .int .i64 y2.1, .int .i64 y2.2, .int .i64 y3.1, .int .i64 y3.2]
      have E1 := (S3.nth 1 rfl).eight.1
      clear h1 h2 hq hp S2
      go_wp2_with fail
      generalize w2.alloc (.cells #[.int .i64 y0.1, .int .i64 y0.2, .int .i64 y1.1, .int .i64 y1.2, .int .i64 y2.1, .int .i64 y2.2, .int .i64 y3.1, .int .i64 y3.2] 93) = W2 at S3 E1 ⊢
      refine (within_any x0 x1 x2 x3 y0 y1 y2 y3 W2).mono ?_
      rintro e w3 ⟨rfl, hb3⟩
      have S4 := S3.on hb3
      clear S3 E1
      go_wp2
      go_ret
      exact ⟨ret_bool hf.out.symm, S4.below⟩
end Go.Proofs.Ytjnloillcgeodaa
/- Plain facts on vectors: within, joined, the same. -/
namespace Go.Proofs.Ytjnloillcgeodaa

theorem mxp_eq (x y : Int × Int) : mxp x y = y ↔ lessB y.1 y.2 x.1 x.2 = false := by
  obtain ⟨x1, x2⟩ := x
  obtain ⟨y1, y2⟩ := y
  unfold mxp mxT mxP lessB
  simp only [Prod.mk.injEq, decide_eq_true_eq, decide_eq_false_iff_not]
  split <;> omega
theorem less_anti (x y : Int × Int) : (lessB y.1 y.2 x.1 x.2 = false ∧ lessB x.1 x.2 y.1 y.2 = false) ↔ x = y := by
  obtain ⟨x1, x2⟩ := x
  obtain ⟨y1, y2⟩ := y
  unfold lessB
  simp only [Prod.mk.injEq, decide_eq_false_iff_not]
  omega
theorem pw_iff {ts us : List (Int × Int)} (ht : pastB ts = true) (hu : pastB us = true) : pwB ts us = true ↔ ∀ (i : Nat) x y, ts[i]? = some x → us[i]? = some y → lessB y.1 y.2 x.1 x.2 = false := by
  unfold pwB withinB
  rw [ht, hu]
  simp only [Bool.and_self, Bool.true_and, List.all_eq_true, Bool.not_eq_true']
  constructor
  · intro h i x y hx hy
    exact h (x, y) (List.mem_of_getElem? (i := i) (by rw [List.getElem?_zip_eq_some]; exact ⟨hx, hy⟩))
  · intro h p hp
    obtain ⟨i, hi⟩ := List.getElem?_of_mem hp
    rw [List.getElem?_zip_eq_some] at hi
    exact h i p.1 p.2 hi.1 hi.2
theorem pw_same {ts us : List (Int × Int)} (ht : pastB ts = true) (hu : pastB us = true) : ts.length = us.length := by
  obtain ⟨x0, x1, x2, x3, rfl⟩ := four_of ht
  obtain ⟨y0, y1, y2, y3, rfl⟩ := four_of hu
  rfl
/-- Causes are within others just if they add nothing to them. -/
theorem pw_join {ts us : List (Int × Int)} (ht : pastB ts = true) (hu : pastB us = true) : decide (joinL ts us = us) = pwB ts us := by
  have hl := pw_same ht hu
  have e : joinL ts us = mxL ts us := by unfold joinL; simp [ht, hu]
  rw [e, Bool.eq_iff_iff, decide_eq_true_eq, pw_iff ht hu]
  constructor
  · intro h i x y hx hy
    have := mxL_at hx hy
    rw [h, hy] at this
    injection this with this
    exact (mxp_eq x y).1 this.symm
  · intro h
    apply List.ext_getElem?
    intro i
    by_cases hi : i < ts.length
    · have hx := List.getElem?_eq_getElem hi
      have hy := List.getElem?_eq_getElem (l := us) (i := i) (by omega)
      rw [mxL_at hx hy, (mxp_eq _ _).2 (h i _ _ hx hy), hy]
    · rw [List.getElem?_eq_none (by unfold mxL; rw [List.length_zipWith]; omega), List.getElem?_eq_none (by omega)]
/-- Both ways just if they are the same. -/
theorem pw_both {ts us : List (Int × Int)} (ht : pastB ts = true) (hu : pastB us = true) : decide (ts = us) = (pwB ts us && pwB us ts) := by
  have hl := pw_same ht hu
  rw [Bool.eq_iff_iff, decide_eq_true_eq, Bool.and_eq_true, pw_iff ht hu, pw_iff hu ht]
  constructor
  · rintro rfl
    have : ∀ (i : Nat) x y, ts[i]? = some x → ts[i]? = some y → lessB y.1 y.2 x.1 x.2 = false := fun i x y hx hy => by
      rw [hx] at hy
      injection hy with hy
      subst hy
      exact ((less_anti x x).2 rfl).1
    exact ⟨this, this⟩
  · rintro ⟨h1, h2⟩
    apply List.ext_getElem?
    intro i
    by_cases hi : i < ts.length
    · have hx := List.getElem?_eq_getElem hi
      have hy := List.getElem?_eq_getElem (l := us) (i := i) (by omega)
      rw [hx, hy, (less_anti _ _).1 ⟨h1 i _ _ hx hy, h2 i _ _ hy hx⟩]
    · rw [List.getElem?_eq_none (by omega), List.getElem?_eq_none (by omega)]
theorem pw_none {ts : List (Int × Int)} (ht : pastB ts = true) : pwB z4 ts = true := by
  have hz : pastB z4 = true := by decide
  rw [pw_iff hz ht]
  intro i x y hx hy
  have hx' : x = (0, 0) := by
    have := List.mem_of_getElem? hx
    simpa using this
  have hy' : okB y.1 y.2 = true := by
    unfold pastB at ht
    rw [Bool.and_eq_true, List.all_eq_true] at ht
    exact ht.2 y (List.mem_of_getElem? hy)
  have := okB_i hy'
  subst hx'
  unfold lessB
  exact decide_eq_false (by omega)
end Go.Proofs.Ytjnloillcgeodaa
/- Plain facts on vectors that are joined. -/
namespace Go.Proofs.Ytjnloillcgeodaa

theorem mxp_comm (x y : Int × Int) : mxp x y = mxp y x := by
  obtain ⟨x1, x2⟩ := x
  obtain ⟨y1, y2⟩ := y
  unfold mxp mxT mxP lessB
  simp only [Prod.mk.injEq, decide_eq_true_eq]
  split <;> split <;> omega
theorem mxp_ge (x y : Int × Int) : lessB (mxp x y).1 (mxp x y).2 x.1 x.2 = false := by
  obtain ⟨x1, x2⟩ := x
  obtain ⟨y1, y2⟩ := y
  unfold mxp mxT mxP lessB
  simp only [decide_eq_true_eq, decide_eq_false_iff_not]
  split <;> omega
theorem mxp_or (x y : Int × Int) : mxp x y = x ∨ mxp x y = y := by
  unfold mxp mxT mxP
  split
  · exact .inr rfl
  · exact .inl rfl
theorem join_eq {ts us : List (Int × Int)} (ht : pastB ts = true) (hu : pastB us = true) : joinL ts us = mxL ts us := by unfold joinL; simp [ht, hu]
theorem join_ok {ts us : List (Int × Int)} (ht : pastB ts = true) (hu : pastB us = true) : pastB (joinL ts us) = true := by
  rw [join_eq ht hu]
  have e1 : ∀ x ∈ ts, okB x.1 x.2 = true := by
    unfold pastB at ht
    rw [Bool.and_eq_true, List.all_eq_true] at ht
    exact ht.2
  have e2 : ∀ x ∈ us, okB x.1 x.2 = true := by
    unfold pastB at hu
    rw [Bool.and_eq_true, List.all_eq_true] at hu
    exact hu.2
  obtain ⟨x0, x1, x2, x3, rfl⟩ := four_of ht
  obtain ⟨y0, y1, y2, y3, rfl⟩ := four_of hu
  have key : ∀ x y : Int × Int, okB x.1 x.2 = true → okB y.1 y.2 = true → okB (mxp x y).1 (mxp x y).2 = true := fun x y hx hy => by
    rcases mxp_or x y with h | h <;> rw [h] <;> assumption
  unfold pastB mxL
  simp only [List.zipWith_cons_cons, List.zipWith_nil_right, List.length_cons, List.length_nil, List.all_cons, List.all_nil, Bool.and_true]
  rw [key x0 y0 (e1 _ (by simp)) (e2 _ (by simp)), key x1 y1 (e1 _ (by simp)) (e2 _ (by simp)), key x2 y2 (e1 _ (by simp)) (e2 _ (by simp)), key x3 y3 (e1 _ (by simp)) (e2 _ (by simp))]
  rfl
theorem join_comm {ts us : List (Int × Int)} (ht : pastB ts = true) (hu : pastB us = true) : joinL us ts = joinL ts us := by
  rw [join_eq ht hu, join_eq hu ht]
  obtain ⟨x0, x1, x2, x3, rfl⟩ := four_of ht
  obtain ⟨y0, y1, y2, y3, rfl⟩ := four_of hu
  simp [mxL, mxp_comm y0 x0, mxp_comm y1 x1, mxp_comm y2 x2, mxp_comm y3 x3]
theorem within_join {ts us : List (Int × Int)} (ht : pastB ts = true) (hu : pastB us = true) : pwB ts (joinL ts us) = true := by
  rw [pw_iff ht (join_ok ht hu)]
  intro i x z hx hz
  have hl := pw_same ht hu
  have hi := (List.getElem?_eq_some_iff.1 hx).1
  have hy := List.getElem?_eq_getElem (l := us) (i := i) (by omega)
  rw [join_eq ht hu, mxL_at hx hy] at hz
  injection hz with hz
  subst hz
  exact mxp_ge x _
theorem join_self {ts : List (Int × Int)} (ht : pastB ts = true) : joinL ts ts = ts := by
  have h := pw_join ht ht
  have h2 : pwB ts ts = true := by
    have := pw_both ht ht
    rw [decide_eq_true rfl] at this
    cases hq : pwB ts ts
    · rw [hq] at this; cases this
    · rfl
  rw [h2] at h
  exact of_decide_eq_true h
theorem join_none {ts : List (Int × Int)} (ht : pastB ts = true) : joinL ts z4 = ts := by
  have hz : pastB z4 = true := by decide
  rw [← join_comm ht hz]
  have h := pw_join hz ht
  rw [pw_none ht] at h
  exact of_decide_eq_true h
end Go.Proofs.Ytjnloillcgeodaa
/- Plain facts on stores that are added to and joined. -/
namespace Go.Proofs.Ytjnloillcgeodaa

/-- The later one of two versions. -/
def later (x y : V) : V := if lessB x.t x.u y.t y.u = true then y else x
theorem later_or (x y : V) : later x y = x ∨ later x y = y := by
  unfold later
  split
  · exact .inr rfl
  · exact .inl rfl
theorem storeB_mk {vs : List V} (h4 : vs.length = 4) (h : ∀ (i : Nat) v, vs[i]? = some v → slotB i v = true) : storeB vs = true := by
  unfold storeB
  rw [decide_eq_true h4, Bool.true_and, List.all_eq_true]
  intro i _
  cases hx : vs[i]? with
  | none => rfl
  | some v => exact h i v hx
theorem slot_tag {i : Nat} {v : V} (h : slotB i v = true) : okB v.t v.u = true := by
  cases hn : noneC v.k v.t v.u v.ts.length v.s v.g with
  | true =>
    unfold noneC at hn
    simp at hn
    rw [hn.1.1.1.2.1, hn.1.1.1.2.2]
    decide
  | false =>
    cases ho : okB v.t v.u with
    | true => rfl
    | false =>
      rw [slotB_bad hn (verB_f (.inr (.inr (.inl ho))))] at h
      cases h
theorem slot_own {i : Nat} {v : V} (h : slotB i v = true) (ht : 0 < v.t) : v.k = i := by
  have hn : noneC v.k v.t v.u v.ts.length v.s v.g = false := noneC_f (.inr (.inl (by omega)))
  apply Classical.byContradiction
  intro hk
  rw [slotB_key hn hk] at h
  cases h
theorem ver_slot {v : V} {i : Nat} (h : verV v = true) (hk : v.k = i) : slotB i v = true := by
  unfold slotB
  rw [decide_eq_true hk]
  unfold verV at h
  rw [h]
  simp
theorem ver_key {v : V} (h : verV v = true) : 0 ≤ v.k ∧ v.k ≤ 3 := by
  apply Classical.byContradiction
  intro hn
  unfold verV at h
  rw [verB_f (.inl hn)] at h
  cases h
theorem keepL_at {vs : List V} {v x : V} {i : Nat} (hx : vs[i]? = some x) : (keepL vs v)[i]? = some (if i = v.k.toNat then later x v else x) := by
  unfold keepL
  by_cases e : i = v.k.toNat
  · subst e
    rw [hx, if_pos rfl]
    unfold later
    simp only
    split
    · rw [List.getElem?_set_self (List.getElem?_eq_some_iff.1 hx).1]
    · exact hx
  · rw [if_neg e]
    split
    · split
      · rw [List.getElem?_set_ne (fun e' => e e'.symm)]
        exact hx
      · exact hx
    · exact hx
theorem store_keep {vs : List V} {v : V} (h : storeB vs = true) (hv : verV v = true) : storeB (keepL vs v) = true := by
  have h4 := storeB_four h
  refine storeB_mk (by rw [keepL_len]; exact h4) (fun i y hy => ?_)
  have hi : i < vs.length := by have := (List.getElem?_eq_some_iff.1 hy).1; rw [keepL_len] at this; exact this
  have hx := List.getElem?_eq_getElem hi
  rw [keepL_at hx] at hy
  injection hy with hy
  subst hy
  have hs := store_slot h hx
  by_cases e : i = v.k.toNat
  · rw [if_pos e]
    rcases later_or vs[i] v with q | q <;> rw [q]
    · exact hs
    · exact ver_slot hv (by have := ver_key hv; omega)
  · rw [if_neg e]
    exact hs
theorem later_late (x y : V) : later (later x y) y = later x y := by
  unfold later lessB
  simp only [decide_eq_true_eq]
  split
  · rw [if_neg (by omega)]
  · rfl
theorem later_swap (x y z : V) (h : ¬ (y.t = z.t ∧ y.u = z.u)) : later (later x y) z = later (later x z) y := by
  unfold later lessB
  simp only [decide_eq_true_eq]
  by_cases a : x.t < y.t ∨ x.t = y.t ∧ x.u < y.u <;> by_cases b : x.t < z.t ∨ x.t = z.t ∧ x.u < z.u
  · rw [if_pos a, if_pos b]
    by_cases c : y.t < z.t ∨ y.t = z.t ∧ y.u < z.u
    · rw [if_pos c, if_neg (by omega)]
    · rw [if_neg c, if_pos (by omega)]
  · rw [if_pos a, if_neg b, if_neg (by omega), if_pos a]
  · rw [if_neg a, if_pos b, if_neg (by omega)]
  · rw [if_neg a, if_neg b, if_neg a]
theorem keep_ext {us vs : List V} (hl : us.length = vs.length) (h : ∀ (i : Nat) x y, us[i]? = some x → vs[i]? = some y → x = y) : us = vs := by
  apply List.ext_getElem?
  intro i
  by_cases hi : i < us.length
  · have h1 := List.getElem?_eq_getElem hi
    have h2 := List.getElem?_eq_getElem (l := vs) (i := i) (by omega)
    rw [h1, h2, h i _ _ h1 h2]
  · rw [List.getElem?_eq_none (by omega), List.getElem?_eq_none (by omega)]
theorem keep_twice (vs : List V) (v : V) : keepL (keepL vs v) v = keepL vs v := by
  refine keep_ext (by rw [keepL_len]) (fun i a b ha hb => ?_)
  have hi : i < vs.length := by have := (List.getElem?_eq_some_iff.1 hb).1; rw [keepL_len] at this; exact this
  have hx := List.getElem?_eq_getElem hi
  have h1 := keepL_at (v := v) hx
  rw [h1] at hb
  rw [keepL_at h1] at ha
  injection ha with ha
  injection hb with hb
  subst ha hb
  by_cases e : i = v.k.toNat
  · rw [if_pos e, if_pos e]; exact later_late _ _
  · rw [if_neg e, if_neg e]
theorem keep_swap (vs : List V) (v u : V) (h : ¬ (v.t = u.t ∧ v.u = u.u)) : keepL (keepL vs v) u = keepL (keepL vs u) v := by
  refine keep_ext (by rw [keepL_len, keepL_len, keepL_len, keepL_len]) (fun i a b ha hb => ?_)
  have hi : i < vs.length := by have := (List.getElem?_eq_some_iff.1 hb).1; rw [keepL_len, keepL_len] at this; exact this
  have hx := List.getElem?_eq_getElem hi
  rw [keepL_at (keepL_at (v := v) hx)] at ha
  rw [keepL_at (keepL_at (v := u) hx)] at hb
  injection ha with ha
  injection hb with hb
  subst ha hb
  by_cases e : i = v.k.toNat <;> by_cases f : i = u.k.toNat
  · rw [if_pos e, if_pos f, if_pos f, if_pos e]; exact later_swap _ _ _ h
  · rw [if_neg f, if_pos e, if_pos e, if_neg f]
  · rw [if_pos f, if_neg e, if_neg e, if_pos f]
  · rw [if_neg f, if_neg e, if_neg e, if_neg f]

/-- What two stores come to, version by version. -/
theorem fold_at {vs bs : List V} (hv : storeB vs = true) (hb : storeB bs = true) : ∀ (n : Nat), n ≤ 4 → ∀ (i : Nat) x y, vs[i]? = some x → bs[i]? = some y → (foldK vs (bs.take n))[i]? = some (if i < n then later x y else x)
  | 0, _, i, x, y, hx, _ => by
    rw [if_neg (by omega)]
    exact hx
  | n + 1, hn, i, x, y, hx, hy => by
    have h4 := storeB_four hb
    have hnb := List.getElem?_eq_getElem (l := bs) (i := n) (by omega)
    have ih := fold_at hv hb n (by omega) i x y hx hy
    have hsl := store_slot hb hnb
    rw [foldK_step hnb]
    by_cases ht : 0 < bs[n].t
    · have hk := slot_own hsl ht
      rw [keepL_at ih]
      by_cases e : i = n
      · subst e
        rw [if_pos (by rw [hk]; simp), if_neg (by omega), if_pos (by omega)]
        rw [hnb] at hy
        injection hy with hy
        rw [hy]
      · rw [if_neg (by rw [hk]; simpa using e)]
        by_cases f : i < n
        · rw [if_pos f, if_pos (by omega)]
        · rw [if_neg f, if_neg (by omega)]
    · obtain ⟨_, h1, h2⟩ := slot_late hsl ht
      rw [keep_none (late_fold hv hb n) h1 h2, ih]
      by_cases e : i = n
      · subst e
        rw [hnb] at hy
        injection hy with hy
        rw [if_neg (by omega), if_pos (by omega)]
        have hlt : lessB x.t x.u y.t y.u = false := by rw [← hy, h1, h2]; exact late_store hv x (List.mem_of_getElem? hx)
        unfold later
        rw [hlt]
        rfl
      · by_cases f : i < n
        · rw [if_pos f, if_pos (by omega)]
        · rw [if_neg f, if_neg (by omega)]
theorem fold_all {vs bs : List V} (hv : storeB vs = true) (hb : storeB bs = true) {i : Nat} {x y : V} (hx : vs[i]? = some x) (hy : bs[i]? = some y) : (foldK vs bs)[i]? = some (later x y) := by
  have h := fold_at hv hb 4 (Nat.le_refl _) i x y hx hy
  have h4 := storeB_four hb
  rw [List.take_of_length_le (by omega), if_pos (by have := (List.getElem?_eq_some_iff.1 hy).1; omega)] at h
  exact h
theorem join_two {vs bs : List V} (hv : storeB vs = true) (hb : storeB bs = true) : joinR vs bs = foldK vs bs := by
  unfold joinR
  rw [hv, hb]
  rfl
theorem store_join {vs bs : List V} (hv : storeB vs = true) (hb : storeB bs = true) : storeB (joinR vs bs) = true := by
  rw [join_two hv hb]
  have h4 := storeB_four hv
  have h4' := storeB_four hb
  refine storeB_mk (by rw [foldK_len]; exact h4) (fun i z hz => ?_)
  have hi : i < vs.length := by have := (List.getElem?_eq_some_iff.1 hz).1; rw [foldK_len] at this; exact this
  have hx := List.getElem?_eq_getElem hi
  have hy := List.getElem?_eq_getElem (l := bs) (i := i) (by omega)
  rw [fold_all hv hb hx hy] at hz
  injection hz with hz
  subst hz
  rcases later_or vs[i] bs[i] with q | q <;> rw [q]
  · exact store_slot hv hx
  · exact store_slot hb hy
theorem past_tags {vs : List V} (hv : storeB vs = true) : pastB (tagsL vs) = true := by
  unfold pastB
  rw [decide_eq_true (by rw [tagsL_len]; exact storeB_four hv), Bool.true_and, List.all_eq_true]
  intro x hx
  unfold tagsL at hx
  rw [List.mem_map] at hx
  obtain ⟨v, hv', rfl⟩ := hx
  obtain ⟨i, hi⟩ := List.getElem?_of_mem hv'
  exact slot_tag (store_slot hv hi)
theorem later_tag (x y : V) : ((later x y).t, (later x y).u) = mxp (x.t, x.u) (y.t, y.u) := by
  unfold later mxp mxT mxP
  simp only
  split <;> rfl
theorem tags_join {vs bs : List V} (hv : storeB vs = true) (hb : storeB bs = true) : tagsR (joinR vs bs) = joinL (tagsR vs) (tagsR bs) := by
  have hj := store_join hv hb
  unfold tagsR
  rw [if_pos hj, if_pos hv, if_pos hb, join_eq (past_tags hv) (past_tags hb), join_two hv hb]
  have h4 := storeB_four hv
  have h4' := storeB_four hb
  apply List.ext_getElem?
  intro i
  by_cases hi : i < 4
  · have hx := List.getElem?_eq_getElem (l := vs) (i := i) (by omega)
    have hy := List.getElem?_eq_getElem (l := bs) (i := i) (by omega)
    rw [tagsL_at (fold_all hv hb hx hy), mxL_at (tagsL_at hx) (tagsL_at hy), later_tag]
  · rw [List.getElem?_eq_none (by rw [tagsL_len, foldK_len]; omega), List.getElem?_eq_none (by unfold mxL; rw [List.length_zipWith, tagsL_len, tagsL_len]; omega)]
theorem join_own {vs : List V} (hv : storeB vs = true) : joinR vs vs = vs := by
  rw [join_two hv hv]
  refine keep_ext (foldK_len _ _) (fun i a b ha hb => ?_)
  rw [fold_all hv hv hb hb] at ha
  injection ha with ha
  rw [← ha]
  rcases later_or b b with q | q <;> rw [q]
theorem no_bytes : (ByteArray.mk #[]).toList = [] := by
  rw [ByteArray.toList, ByteArray.toList.loop, if_neg (by decide)]
  rfl
theorem store_zero : storeB [v0, v0, v0, v0] = true := storeB_mk rfl (fun i v hi => by
  rw [v0_mem hi]
  exact slotB_none (noneC_t (by show (ByteArray.mk #[]).toList.isEmpty = true; rw [no_bytes]; rfl)))
theorem join_zero {vs : List V} (hv : storeB vs = true) : joinR vs [v0, v0, v0, v0] = vs := by
  rw [join_two hv store_zero]
  refine keep_ext (foldK_len _ _) (fun i a b ha hb => ?_)
  have h4 := storeB_four hv
  have hi := (List.getElem?_eq_some_iff.1 hb).1
  have hy := List.getElem?_eq_getElem (l := [v0, v0, v0, v0]) (i := i) (by simp; omega)
  rw [fold_all hv store_zero hb hy] at ha
  injection ha with ha
  have e := v0_mem hy
  rw [← ha, e]
  unfold later
  have : lessB b.t b.u v0.t v0.u = false := late_store hv b (List.mem_of_getElem? hb)
  rw [this]
  rfl
end Go.Proofs.Ytjnloillcgeodaa
/- A version that comes to a valid chain, or is passed on in one, leaves it valid; what all nodes have is no less. No condition. -/
namespace Go.Proofs.Ytjnloillcgeodaa
open Go.RowKit Go.Joins

theorem stepL_keep {us ss : List V} {v : V} (h : stepL us v = some ss) : keepL us v = ss := by
  unfold stepL at h
  unfold keepL
  split at h
  · rename_i x hx
    rw [hx]
    simp only
    split at h
    · rename_i hb
      injection h with h
      rw [if_pos hb, h]
    · cases h
  · cases h
theorem stepL_none_keep {us : List V} {v : V} (h : stepL us v = none) : keepL us v = us := by
  unfold stepL at h
  unfold keepL
  split at h
  · rename_i x hx
    rw [hx]
    simp only
    split at h
    · cases h
    · rename_i hb
      rw [if_neg hb]
  · rename_i hx
    rw [hx]
theorem walkL_snoc (us ws : List V) (v : V) : walkL us (ws ++ [v]) = (walkL us ws).bind fun us => stepL us v := by
  unfold walkL
  rw [List.foldl_append]
  rfl
theorem walkL_cons (us r : List V) (v : V) : walkL us (v :: r) = (stepL us v).bind fun us => walkL us r := by
  unfold walkL
  rw [List.foldl_cons]
  cases h : stepL us v with
  | none =>
    show r.foldl _ (stepL us v) = none
    rw [h]
    exact walk_none r
  | some x =>
    show r.foldl _ (stepL us v) = _
    rw [h]
    rfl
theorem linkB_parts {n m : Nd} (h : linkB n m = true) : ∃ us, walkL m.ss n.ws = some us ∧ LL us n.ss := by
  unfold linkB at h
  split at h
  · rename_i us hu
    exact ⟨us, hu, (likesB_ll _ _).1 h⟩
  · cases h
theorem linkB_mk {n m : Nd} {us : List V} (h : walkL m.ss n.ws = some us) (hl : LL us n.ss) : linkB n m = true := by
  rw [linkB_some h]
  exact (likesB_ll _ _).2 hl
/-- What comes to a node is what it lacks, seen from the next one. -/
theorem link_add {n m : Nd} {v : V} (h : linkB n m = true) : linkB (addNd n false v) m = true := by
  obtain ⟨us, hw, hl⟩ := linkB_parts h
  unfold addNd
  rcases stepL_like hl (vlike_refl v) with ⟨_, q2⟩ | ⟨x, x', q1, q2, q3⟩
  · rw [q2]
    exact h
  · rw [q2]
    refine linkB_mk (us := x) ?_ q3
    show walkL m.ss (n.ws ++ [v]) = some x
    rw [walkL_snoc, hw]
    exact q1
/-- What is passed on comes to the next one. -/
theorem link_pass {n m : Nd} {v : V} {r : List V} {b : Bool} (h : linkB n m = true) (hw : n.ws = v :: r) : ∃ ss, stepL m.ss v = some ss ∧ (addNd m b v).ss = ss ∧ linkB (tailNd n) (addNd m b v) = true := by
  obtain ⟨us, hu, hl⟩ := linkB_parts h
  rw [hw, walkL_cons] at hu
  cases hs : stepL m.ss v with
  | none => rw [hs] at hu; cases hu
  | some ss =>
    rw [hs] at hu
    have e : (addNd m b v).ss = ss := by unfold addNd; rw [hs]
    refine ⟨ss, rfl, e, linkB_mk (us := us) ?_ hl⟩
    rw [e]
    show walkL ss n.ws.tail = some us
    rw [hw]
    exact hu
theorem link_tail {n m : Nd} (h : linkB n m = true) : ∀ m', m'.ss = m.ss → linkB n m' = true := fun m' e => by
  obtain ⟨us, hu, hl⟩ := linkB_parts h
  exact linkB_mk (us := us) (by rw [e]; exact hu) hl
/-- The two halves of what a step asks. -/
theorem stepB_link {ns : List Nd} {k : Nat} {n m : Nd} (hn : ns[k]? = some n) (hm : ns[k + 1]? = some m) : stepB ns k = linkB n m := by unfold stepB; rw [hn, hm]
theorem stepB_end {ns : List Nd} {k : Nat} {n : Nd} (hn : ns[k]? = some n) (hm : ns[k + 1]? = none) : stepB ns k = decide (n.ws.length = 0) := by unfold stepB; rw [hn, hm]
/-- A chain, link by link. -/
theorem chain_link {ns : List Nd} {k : Nat} {n m : Nd} (h : chainB ns = true) (hn : ns[k]? = some n) (hm : ns[k + 1]? = some m) : linkB n m = true := by
  rw [← stepB_link hn hm]
  exact (chainB_parts h).2.2 k (List.getElem?_eq_some_iff.1 hn).1
theorem chain_end {ns : List Nd} {n : Nd} {k : Nat} (h : chainB ns = true) (hk : k + 1 = ns.length) (hn : ns[k]? = some n) : n.ws = [] := by
  have := (chainB_parts h).2.2 k (by omega)
  rw [stepB_end hn (List.getElem?_eq_none (by omega)), decide_eq_true_eq] at this
  exact List.length_eq_zero_iff.1 this
theorem chain_mk {ns : List Nd} (h0 : 1 ≤ ns.length ∧ ns.length ≤ 4) (h1 : ∀ (i : Nat) n, ns[i]? = some n → nodeB n = true) (h2 : ∀ (i : Nat) n m, ns[i]? = some n → ns[i + 1]? = some m → linkB n m = true) (h3 : ∀ (i : Nat) n, i + 1 = ns.length → ns[i]? = some n → n.ws = []) : chainB ns = true := by
  refine chainB_ok h0 h1 (fun i hi => ?_)
  obtain ⟨n, hn⟩ : ∃ n, ns[i]? = some n := ⟨_, List.getElem?_eq_getElem hi⟩
  by_cases e : i + 1 < ns.length
  · obtain ⟨m, hm⟩ : ∃ m, ns[i + 1]? = some m := ⟨_, List.getElem?_eq_getElem e⟩
    rw [stepB_link hn hm]
    exact h2 i n m hn hm
  · rw [stepB_end hn (List.getElem?_eq_none (by omega)), decide_eq_true_eq]
    rw [h3 i n (by omega) hn]
    rfl
theorem addN_is {ns : List Nd} {k : Nat} {v : V} {n : Nd} (hn : ns[k]? = some n) : addN ns k v = ns.set k (addNd n (decide (k + 1 = ns.length)) v) := by unfold addN; rw [hn]
theorem addN_size (ns : List Nd) (k : Nat) (v : V) : (addN ns k v).length = ns.length := by
  unfold addN
  split
  · rw [List.length_set]
  · rfl
theorem set_at {α : Type} {l : List α} {i j : Nat} {x y : α} (h : (l.set i x)[j]? = some y) : (j = i ∧ y = x ∧ i < l.length) ∨ (j ≠ i ∧ l[j]? = some y) := by
  by_cases e : j = i
  · subst e
    have hl : j < l.length := by have := (List.getElem?_eq_some_iff.1 h).1; rw [List.length_set] at this; exact this
    rw [List.getElem?_set_self hl] at h
    injection h with h
    exact .inl ⟨rfl, h.symm, hl⟩
  · rw [List.getElem?_set_ne (fun q => e q.symm)] at h
    exact .inr ⟨e, h⟩
theorem addNd_last {n : Nd} {v : V} : (addNd n true v).ws = n.ws := by
  unfold addNd
  split <;> rfl
theorem addNd_ss {n : Nd} {v : V} {b : Bool} : (addNd n b v).ss = keepL n.ss v := by
  unfold addNd
  cases h : stepL n.ss v with
  | none => rw [stepL_none_keep h]
  | some x => rw [stepL_keep h]
theorem chain_room {ns : List Nd} {n : Nd} (hn : ns[0]? = some n) : roomB ns = decide (n.ws.length < 6) := by unfold roomB; rw [hn]
/-- What came to the head leaves the chain valid. -/
theorem chain_add {ns : List Nd} {v : V} (h : chainB ns = true) (hv : verV v = true) (hr : roomB ns = true) : chainB (addN ns 0 v) = true := by
  obtain ⟨h0, h1, _⟩ := chainB_parts h
  obtain ⟨n, hn⟩ : ∃ n, ns[0]? = some n := ⟨_, List.getElem?_eq_getElem (by omega)⟩
  have hr' : n.ws.length < 6 := by rw [chain_room hn, decide_eq_true_eq] at hr; exact hr
  rw [addN_is hn]
  refine chain_mk (by rw [List.length_set]; exact h0) (fun i x hx => ?_) (fun i x y hx hy => ?_) (fun i x hi hx => ?_)
  · rcases set_at hx with ⟨_, rfl, _⟩ | ⟨_, q⟩
    · exact addNd_ok (h1 0 n hn) hv (.inr hr')
    · exact h1 i x q
  · rcases set_at hy with ⟨q, _, _⟩ | ⟨_, qy⟩
    · omega
    rcases set_at hx with ⟨rfl, rfl, _⟩ | ⟨_, qx⟩
    · have : ¬ 0 + 1 = ns.length := by have := (List.getElem?_eq_some_iff.1 qy).1; omega
      rw [decide_eq_false this]
      exact link_add (chain_link h hn qy)
    · exact chain_link h qx qy
  · rw [List.length_set] at hi
    rcases set_at hx with ⟨rfl, rfl, _⟩ | ⟨_, qx⟩
    · rw [decide_eq_true hi, addNd_last]
      exact chain_end h hi hn
    · exact chain_end h hi qx
/-- The two nodes between which something is passed on. -/
theorem can_parts {ns : List Nd} {k : Nat} (hc : canB ns k = true) : ∃ n m v r, ns[k]? = some n ∧ ns[k + 1]? = some m ∧ n.ws = v :: r ∧ m.ws.length < 6 := by
  unfold canB at hc
  split at hc
  · rename_i n m hn hm
    rw [Bool.and_eq_true, decide_eq_true_eq, decide_eq_true_eq] at hc
    cases hw : n.ws with
    | nil => rw [hw] at hc; exact absurd hc.1 (by decide)
    | cons v r => exact ⟨n, m, v, r, hn, hm, hw, hc.2⟩
  · cases hc
theorem goN_is {ns : List Nd} {k : Nat} {n m : Nd} {v : V} {r : List V} (hn : ns[k]? = some n) (hm : ns[k + 1]? = some m) (hw : n.ws = v :: r) : goN ns k = (ns.set k (tailNd n)).set (k + 1) (addNd m (decide (k + 1 + 1 = ns.length)) v) := by
  rw [goN_at hn hw, addN_is (n := m) (by rw [List.getElem?_set_ne (by omega)]; exact hm), List.length_set]
/-- What is passed on leaves the chain valid. -/
theorem chain_go {ns : List Nd} {k : Nat} (h : chainB ns = true) (hc : canB ns k = true) : chainB (goN ns k) = true := by
  obtain ⟨h0, h1, _⟩ := chainB_parts h
  obtain ⟨n, m, v, r, hn, hm, hw, hr⟩ := can_parts hc
  have hlm := (List.getElem?_eq_some_iff.1 hm).1
  have hvv : verV v = true := (nodeB_parts (h1 k n hn)).2.2 v (by rw [hw]; exact List.mem_cons_self ..)
  rw [goN_is hn hm hw]
  refine chain_mk (by rw [List.length_set, List.length_set]; exact h0) (fun i x hx => ?_) (fun i x y hx hy => ?_) (fun i x hi hx => ?_)
  · rcases set_at hx with ⟨_, rfl, _⟩ | ⟨_, q⟩
    · exact addNd_ok (h1 _ m hm) hvv (.inr hr)
    · rcases set_at q with ⟨_, rfl, _⟩ | ⟨_, q⟩
      · exact tailNd_ok (h1 k n hn)
      · exact h1 i x q
  · rcases set_at hy with ⟨e1, rfl, _⟩ | ⟨e1, qy⟩
    · -- the next one is that to which it came
      have ei : i = k := by omega
      subst ei
      rcases set_at hx with ⟨e2, _, _⟩ | ⟨_, qx⟩
      · omega
      rcases set_at qx with ⟨_, rfl, _⟩ | ⟨e2, _⟩
      · exact (link_pass (chain_link h hn hm) hw).choose_spec.2.2
      · exact absurd rfl e2
    rcases set_at qy with ⟨e2, rfl, _⟩ | ⟨e2, qy⟩
    · -- the next one is that from which it went
      rcases set_at hx with ⟨e3, _, _⟩ | ⟨_, qx⟩
      · omega
      rcases set_at qx with ⟨e3, _, _⟩ | ⟨_, qx⟩
      · omega
      have hkn : ns[i + 1]? = some n := by rw [e2]; exact hn
      exact link_tail (chain_link h qx hkn) _ rfl
    rcases set_at hx with ⟨e3, rfl, _⟩ | ⟨e3, qx⟩
    · subst e3
      have : ¬ k + 1 + 1 = ns.length := by have := (List.getElem?_eq_some_iff.1 qy).1; omega
      rw [decide_eq_false this]
      exact link_add (chain_link h hm qy)
    rcases set_at qx with ⟨e4, _, _⟩ | ⟨_, qx⟩
    · omega
    exact chain_link h qx qy
  · rw [List.length_set, List.length_set] at hi
    rcases set_at hx with ⟨rfl, rfl, _⟩ | ⟨_, qx⟩
    · rw [decide_eq_true hi, addNd_last]
      exact chain_end h hi hm
    rcases set_at qx with ⟨rfl, _, _⟩ | ⟨_, qx⟩
    · omega
    · exact chain_end h hi qx
theorem passN_ok {ns : List Nd} {k : Int} (h : chainB ns = true) : chainB (passN ns k) = true := by
  by_cases hc : 0 ≤ k ∧ canB ns k.toNat = true
  · rw [(passN_yes h hc.1 hc.2).1]
    exact chain_go h hc.2
  · rw [(passN_not h hc).1]
    exact h
theorem goN_size (ns : List Nd) (k : Nat) : (goN ns k).length = ns.length := by
  unfold goN
  split
  · split
    · rw [addN_size, List.length_set]
    · rfl
  · rfl
theorem passN_size {ns : List Nd} {k : Int} (h : chainB ns = true) : (passN ns k).length = ns.length := by
  by_cases hc : 0 ≤ k ∧ canB ns k.toNat = true
  · rw [(passN_yes h hc.1 hc.2).1, goN_size]
  · rw [(passN_not h hc).1]
/-- The stores of the head stay. -/
theorem goN_head {ns : List Nd} {k : Nat} {x : Nd} (hx : ns[0]? = some x) : ∃ y, (goN ns k)[0]? = some y ∧ y.ss = x.ss := by
  unfold goN
  split
  · rename_i n hn
    split
    · rename_i v r hw
      unfold addN
      have key : ∃ y, (ns.set k (tailNd n))[0]? = some y ∧ y.ss = x.ss := by
        by_cases e : k = 0
        · subst e
          rw [hx] at hn
          injection hn with hn
          subst hn
          exact ⟨_, List.getElem?_set_self (List.getElem?_eq_some_iff.1 hx).1, rfl⟩
        · exact ⟨x, by rw [List.getElem?_set_ne e]; exact hx, rfl⟩
      split
      · rw [List.getElem?_set_ne (by omega)]
        exact key
      · exact key
    · exact ⟨x, hx, rfl⟩
  · exact ⟨x, hx, rfl⟩
theorem keepL_late {vs : List V} {v x y : V} {i : Nat} (hx : vs[i]? = some x) (hy : (keepL vs v)[i]? = some y) : lessB y.t y.u x.t x.u = false := by
  rw [keepL_at hx] at hy
  injection hy with hy
  subst hy
  split
  · unfold later
    split
    · rename_i hb
      unfold lessB at hb ⊢
      simp only [decide_eq_true_eq, decide_eq_false_iff_not] at hb ⊢
      omega
    · unfold lessB
      simp only [decide_eq_false_iff_not]
      omega
  · unfold lessB
    simp only [decide_eq_false_iff_not]
    omega
/-- A store that is nowhere earlier has no less tags. -/
theorem tags_within {us vs : List V} (hu : storeB us = true) (hv : storeB vs = true) (h : ∀ (i : Nat) x y, us[i]? = some x → vs[i]? = some y → lessB y.t y.u x.t x.u = false) : pwB (tagsR us) (tagsR vs) = true := by
  unfold tagsR
  rw [if_pos hu, if_pos hv, pw_iff (past_tags hu) (past_tags hv)]
  intro i x y hx hy
  unfold tagsL at hx hy
  rw [List.getElem?_map] at hx hy
  cases h1 : us[i]? with
  | none => rw [h1] at hx; cases hx
  | some a =>
    cases h2 : vs[i]? with
    | none => rw [h2] at hy; cases hy
    | some b =>
      rw [h1] at hx
      rw [h2] at hy
      injection hx with hx
      injection hy with hy
      subst hx hy
      exact h i a b h1 h2
theorem chain_last {ns : List Nd} (h : chainB ns = true) : ∃ p n, ns.length = p + 1 ∧ ns[p]? = some n ∧ storeB n.ss = true ∧ stableR ns = tagsR n.ss := by
  obtain ⟨h0, h1, _⟩ := chainB_parts h
  obtain ⟨p, hp⟩ : ∃ p, ns.length = p + 1 := ⟨ns.length - 1, by omega⟩
  obtain ⟨n, hn⟩ : ∃ n, ns[p]? = some n := ⟨_, List.getElem?_eq_getElem (by omega)⟩
  exact ⟨p, n, hp, hn, (nodeB_parts (h1 p n hn)).1, stableR_yes h hp hn⟩
/-- What all nodes have is no less when something is passed on. -/
theorem stable_go {ns : List Nd} {k : Nat} (h : chainB ns = true) (hc : canB ns k = true) : pwB (stableR ns) (stableR (goN ns k)) = true := by
  obtain ⟨p, x, hp, hx, hs, e⟩ := chain_last h
  obtain ⟨p', x', hp', hx', hs', e'⟩ := chain_last (chain_go h hc)
  rw [goN_size] at hp'
  have : p' = p := by omega
  subst this
  rw [e, e']
  obtain ⟨n, m, v, r, hn, hm, hw, hr⟩ := can_parts hc
  rw [goN_is hn hm hw] at hx'
  refine tags_within hs hs' (fun i a b ha hb => ?_)
  have same : ∀ {a b : V}, a = b → lessB b.t b.u a.t a.u = false := fun q => by
    subst q
    unfold lessB
    simp only [decide_eq_false_iff_not]
    omega
  rcases set_at hx' with ⟨e1, rfl, _⟩ | ⟨_, q⟩
  · subst e1
    rw [hm] at hx
    injection hx with hx
    subst hx
    rw [addNd_ss] at hb
    exact keepL_late ha hb
  · rcases set_at q with ⟨e1, rfl, _⟩ | ⟨_, q⟩
    · have := (List.getElem?_eq_some_iff.1 hm).1
      omega
    · rw [hx] at q
      injection q with q
      subst q
      rw [ha] at hb
      injection hb with hb
      exact same hb
end Go.Proofs.Ytjnloillcgeodaa
