/- Contracts of the functions that compare vectors of tags, in the program and in the model. Condition: at most 1048576 tags. -/
import Derived.Test.YtkkjhfgjjakmfaaPastOk
namespace Go.Proofs.Ytkkjhfgjjakmfaa
open Go.RowKit Go.Joins
attribute [local go_sem ↓] Go.wp_at_zero Go.wp_at_succ

/-- Whether no tag of the first list is later than the other's at its place. -/
def withinB (ts us : List (Int × Int)) : Bool := (ts.zip us).all fun p => !lessB p.2.1 p.2.2 p.1.1 p.1.2
/-- Up to place k none is later. -/
def NoLater (ts us : List (Int × Int)) (k : Nat) : Prop := ∀ (j : Nat) (x y : Int × Int), j < k → ts[j]? = some x → us[j]? = some y → lessB y.1 y.2 x.1 x.2 = false
theorem noLater_zero (ts us : List (Int × Int)) : NoLater ts us 0 := fun j _ _ hj => absurd hj (by omega)
theorem noLater_step {ts us : List (Int × Int)} {k : Nat} {x y : Int × Int} (h : NoLater ts us k) (hx : ts[k]? = some x) (hy : us[k]? = some y) (hl : lessB y.1 y.2 x.1 x.2 = false) : NoLater ts us (k + 1) := by
  intro j x' y' hj hx' hy'
  by_cases e : j = k
  · subst e
    rw [hx] at hx'
    rw [hy] at hy'
    injection hx' with hx'
    injection hy' with hy'
    subst hx' hy'
    exact hl
  · exact h j x' y' (by omega) hx' hy'
theorem within_t {ts us : List (Int × Int)} (hl : ts.length = 4) (h : NoLater ts us 4) : withinB ts us = true := by
  unfold withinB
  rw [List.all_eq_true]
  intro p hp
  obtain ⟨j, hj⟩ := List.getElem?_of_mem hp
  rw [List.getElem?_zip_eq_some] at hj
  have hlt := (List.getElem?_eq_some_iff.1 hj.1).1
  have := h j p.1 p.2 (by omega) hj.1 hj.2
  simp [this]
theorem within_f {ts us : List (Int × Int)} {k : Nat} {x y : Int × Int} (hx : ts[k]? = some x) (hy : us[k]? = some y) (hl : lessB y.1 y.2 x.1 x.2 = true) : withinB ts us = false := by
  unfold withinB
  rw [List.all_eq_false]
  refine ⟨(x, y), List.mem_of_getElem? (i := k) ?_, by simp [hl]⟩
  rw [List.getElem?_zip_eq_some]
  exact ⟨hx, hy⟩

set_option maxRecDepth 100000 in
set_option maxHeartbeats 1000000 in
theorem l1Within_any (a a' : Option Addr) (c c' : Nat) (ts us : List (Int × Int)) (w : World) (h4 : ts.length = 4) (h4' : us.length = 4) (ht : Tg w w.heap.size a ts) (hu : Tg w w.heap.size a' us) :
    Calls Try.prog 51 #[.agg #[.slice a 4 c], .agg #[.slice a' 4 c']] w fun e w' => e = .returned (.bool (withinB ts us)) ∧ Below w.heap.size w w' := by
  have S0 := ((Inv.start w).box 25 #[.slice a 4 c]).box 25 #[.slice a' 4 c']
  simp only [World.size_alloc] at S0
  have H4 := hide h4
  have H4' := hide h4'
  clear h4 h4'
  go_enter Try.func51, Try.ntmps51
  go_wp2
  go_loopw [5] (fun i wr => ∃ k : Nat, k ≤ 4 ∧ i = .int .i64 (k : Int) ∧ NoLater ts us k ∧ Inv w (w.heap.size + 1 + 1) [(w.heap.size + 1, 25, #[.slice a' 4 c']), (w.heap.size, 25, #[.slice a 4 c])] wr) (fun i _ => 4 - (intOf i).toNat)
  case atStart => exact ⟨0, Nat.zero_le _, rfl, noLater_zero _ _, S0⟩
  case round =>
    obtain ⟨k, hk, rfl, hno, hI⟩ := hrel
    clear S0
    by_cases hlt : k < 4
    · rcases ht with h0 | ⟨b, off, rfl, hb, hx⟩
      · have := H4.out; subst h0; simp at this
      · rcases hu with h0 | ⟨b', off', rfl, hb', hx'⟩
        · have := H4'.out; subst h0; simp at this
        · have hkl : k < ts.length := by have := H4.out; omega
          have hkl' : k < us.length := by have := H4'.out; omega
          obtain ⟨hc0, hc1⟩ := hx k _ (List.getElem?_eq_getElem hkl)
          obtain ⟨hd0, hd1⟩ := hx' k _ (List.getElem?_eq_getElem hkl')
          have HX := hide (List.getElem?_eq_getElem hkl)
          have HY := hide (List.getElem?_eq_getElem hkl')
          generalize ts[k] = x at hc0 hc1 HX
          generalize us[k] = y at hd0 hd1 HY
          obtain ⟨x1, x2⟩ := x
          obtain ⟨y1, y2⟩ := y
          simp only at hc0 hc1 hd0 hd1
          have C0 := hide hc0
          have C1 := hide hc1
          have D0 := hide hd0
          have D1 := hide hd1
          clear hx hx' hc0 hc1 hd0 hd1
          have i1 : (0 : Int) ≤ (k : Int) := by omega
          have i2 : (k : Int) < 4 := by omega
          go_wp2_with fail
          refine wp_region_noPanic ?_
          refine wp_region_held_drew (S := (fun w' => w'.cell? ⟨b, off + k * 2, none⟩ = some (.int .i64 x1) ∧ w'.cell? ⟨b, off + k * 2 + 1, none⟩ = some (.int .i64 x2) ∧ w'.cell? ⟨b', off' + k * 2, none⟩ = some (.int .i64 y1) ∧ w'.cell? ⟨b', off' + k * 2 + 1, none⟩ = some (.int .i64 y2) ∧ w'.cell? ⟨w.heap.size, 0, none⟩ = some (.slice (some ⟨b, off, none⟩) 4 c) ∧ w'.cell? ⟨w.heap.size + 1, 0, none⟩ = some (.slice (some ⟨b', off', none⟩) 4 c') ∧ Inv w (w.heap.size + 1 + 1) [(w.heap.size + 1, 25, #[.slice (some ⟨b', off', none⟩) 4 c']), (w.heap.size, 25, #[.slice (some ⟨b, off, none⟩) 4 c])] w')) (by kernel_rfl) (by exact ⟨(hI.below.cell (p := ⟨b, off + k * 2, none⟩) hb).trans C0.out, (hI.below.cell (p := ⟨b, off + k * 2 + 1, none⟩) hb).trans C1.out, (hI.below.cell (p := ⟨b', off' + k * 2, none⟩) hb').trans D0.out, (hI.below.cell (p := ⟨b', off' + k * 2 + 1, none⟩) hb').trans D1.out, (hI.nth 1 rfl).at 0, (hI.nth 0 rfl).at 0, hI.drew⟩) (fun hHeld => ?_)
          refine take_run 0 (some 10) (v := ?_) rfl rfl (by kernel_rfl) (by kernel_rfl) (by kernel_rfl) (fun _ _ _ h => h) (by rfl) ?_ hHeld ?_
          rotate_left
          · ((intro w hSw); (try dsimp only at hSw); go_simp <;> with_reducible rfl)
          simp only [Act.put, List.setIfInBounds_toArray, List.set_cons_zero, List.set_cons_succ]
          refine take_run 1 (some 11) (v := ?_) rfl rfl (by kernel_rfl) (by kernel_rfl) (by kernel_rfl) (fun _ _ _ h => h) (by rfl) ?_ hHeld ?_
          rotate_left
          · ((intro w hSw); (try dsimp only at hSw); go_simp <;> with_reducible rfl)
          simp only [Act.put, List.setIfInBounds_toArray, List.set_cons_zero, List.set_cons_succ]
          refine take_run 2 (some 12) (v := ?_) rfl rfl (by kernel_rfl) (by kernel_rfl) (by kernel_rfl) (fun _ _ _ h => h) (by rfl) ?_ hHeld ?_
          rotate_left
          · ((intro w hSw); (try dsimp only at hSw); go_simp <;> with_reducible rfl)
          simp only [Act.put, List.setIfInBounds_toArray, List.set_cons_zero, List.set_cons_succ]
          refine take_run 3 (some 13) (v := ?_) rfl rfl (by kernel_rfl) (by kernel_rfl) (by kernel_rfl) (fun _ _ _ h => h) (by rfl) ?_ hHeld ?_
          rotate_left
          · ((intro w hSw); (try dsimp only at hSw); go_simp <;> with_reducible rfl)
          simp only [Act.put, List.setIfInBounds_toArray, List.set_cons_zero, List.set_cons_succ]
          refine take_run 4 (some 14) (v := ?_) rfl rfl (by kernel_rfl) (by kernel_rfl) (by kernel_rfl) (fun _ _ _ h => h) (by rfl) ?_ hHeld ?_
          rotate_left
          · ((intro w hSw); (try dsimp only at hSw); go_simp <;> with_reducible rfl)
          simp only [Act.put, List.setIfInBounds_toArray, List.set_cons_zero, List.set_cons_succ]
          refine take_run 5 (some 15) (v := ?_) rfl rfl (by kernel_rfl) (by kernel_rfl) (by kernel_rfl) (fun _ _ _ h => h) (by rfl) ?_ hHeld ?_
          rotate_left
          · ((intro w hSw); (try dsimp only at hSw); go_simp <;> with_reducible rfl)
          simp only [Act.put, List.setIfInBounds_toArray, List.set_cons_zero, List.set_cons_succ]
          refine take_run 6 (some 16) (v := ?_) rfl rfl (by kernel_rfl) (by kernel_rfl) (by kernel_rfl) (fun _ _ _ h => h) (by rfl) ?_ hHeld ?_
          rotate_left
          · ((intro w hSw); (try dsimp only at hSw); go_simp <;> with_reducible rfl)
          simp only [Act.put, List.setIfInBounds_toArray, List.set_cons_zero, List.set_cons_succ]
          refine take_run 7 (some 17) (v := ?_) rfl rfl (by kernel_rfl) (by kernel_rfl) (by kernel_rfl) (fun _ _ _ h => h) (by rfl) ?_ hHeld ?_
          rotate_left
          · ((intro w hSw); (try dsimp only at hSw); go_simp <;> with_reducible rfl)
          simp only [Act.put, List.setIfInBounds_toArray, List.set_cons_zero, List.set_cons_succ]
          refine take_run 8 (some 18) (v := ?_) rfl rfl (by kernel_rfl) (by kernel_rfl) (by kernel_rfl) (fun _ _ _ h => h) (by rfl) ?_ hHeld ?_
          rotate_left
          · ((intro w hSw); (try dsimp only at hSw); go_simp <;> with_reducible rfl)
          simp only [Act.put, List.setIfInBounds_toArray, List.set_cons_zero, List.set_cons_succ]
          refine take_run 9 (some 19) (v := ?_) rfl rfl (by kernel_rfl) (by kernel_rfl) (by kernel_rfl) (fun _ _ _ h => h) (by rfl) ?_ hHeld ?_
          rotate_left
          · ((intro w hSw); (try dsimp only at hSw); go_simp <;> with_reducible rfl)
          simp only [Act.put, List.setIfInBounds_toArray, List.set_cons_zero, List.set_cons_succ]
          refine take_one 10 (by kernel_rfl) rfl (fun K hK => ?_)
          go_simp
          (refine (l1Less_any _ _ _ _ _).mono ?_; rintro e w1 ⟨rfl, hb1⟩)
          try go_wp2_with fail
          refine hK.out _ _ (by exact ⟨((hHeld.2.2.2.2.2.2.on hb1).below.cell (p := ⟨b, off + k * 2, none⟩) hb).trans C0.out, ((hHeld.2.2.2.2.2.2.on hb1).below.cell (p := ⟨b, off + k * 2 + 1, none⟩) hb).trans C1.out, ((hHeld.2.2.2.2.2.2.on hb1).below.cell (p := ⟨b', off' + k * 2, none⟩) hb').trans D0.out, ((hHeld.2.2.2.2.2.2.on hb1).below.cell (p := ⟨b', off' + k * 2 + 1, none⟩) hb').trans D1.out, ((hHeld.2.2.2.2.2.2.on hb1).nth 1 rfl).at 0, ((hHeld.2.2.2.2.2.2.on hb1).nth 0 rfl).at 0, hHeld.2.2.2.2.2.2.on hb1⟩) (fun hHeld => ?_)
          clear hK K
          refine wpAnyH_done (by kernel_rfl) ?_ _
          refine NoPanic.normal ?_
          have hI2 := hHeld.2.2.2.2.2.2
          clear hHeld hI
          cases hl : lessB y1 y2 x1 x2
          · have HN := noLater_step hno HX.out HY.out hl
            clear hno hl
            go_wp2
            exact ⟨⟨k + 1, by omega, by go_num, HN, hI2⟩, by simp [intOf]; omega⟩
          · have hf := hide (within_f HX.out HY.out hl)
            clear hl hno
            go_wp2
            go_ret
            exact ⟨ret_bool hf.out.symm, hI2.below⟩
    · have hk4 : k = 4 := by omega
      subst hk4
      clear hlt
      have hf := hide (within_t H4.out hno)
      clear hno
      go_wp2
      go_ret
      exact ⟨ret_bool hf.out.symm, hI.below⟩

set_option maxRecDepth 100000 in
set_option maxHeartbeats 2000000 in
theorem within_any (x0 x1 x2 x3 y0 y1 y2 y3 : Int × Int) (w : World) :
    Calls Try.prog 49 #[.agg #[.int .i64 x0.1, .int .i64 x0.2, .int .i64 x1.1, .int .i64 x1.2, .int .i64 x2.1, .int .i64 x2.2, .int .i64 x3.1, .int .i64 x3.2], .agg #[.int .i64 y0.1, .int .i64 y0.2, .int .i64 y1.1, .int .i64 y1.2, .int .i64 y2.1, .int .i64 y2.2, .int .i64 y3.1, .int .i64 y3.2]] w fun e w' => e = .returned (.bool (withinB [x0, x1, x2, x3] [y0, y1, y2, y3])) ∧ Below w.heap.size w w' := by
  have S0 := ((Inv.start w).box 76 #[.int .i64 x0.1, .int .i64 x0.2, .int .i64 x1.1, .int .i64 x1.2, .int .i64 x2.1, .int .i64 x2.2, .int .i64 x3.1, .int .i64 x3.2]).box 76 #[.int .i64 y0.1, .int .i64 y0.2, .int .i64 y1.1, .int .i64 y1.2, .int .i64 y2.1, .int .i64 y2.2, .int .i64 y3.1, .int .i64 y3.2]
  simp only [World.size_alloc] at S0
  have S1 : Inv w ((w.alloc (.cells #[.int .i64 x0.1, .int .i64 x0.2, .int .i64 x1.1, .int .i64 x1.2, .int .i64 x2.1, .int .i64 x2.2, .int .i64 x3.1, .int .i64 x3.2] 76)).alloc (.cells #[.int .i64 y0.1, .int .i64 y0.2, .int .i64 y1.1, .int .i64 y1.2, .int .i64 y2.1, .int .i64 y2.2, .int .i64 y3.1, .int .i64 y3.2] 76)).heap.size [(w.heap.size + 1, 76, #[.int .i64 y0.1, .int .i64 y0.2, .int .i64 y1.1, .int .i64 y1.2, .int .i64 y2.1, .int .i64 y2.2, .int .i64 y3.1, .int .i64 y3.2])] ((w.alloc (.cells #[.int .i64 x0.1, .int .i64 x0.2, .int .i64 x1.1, .int .i64 x1.2, .int .i64 x2.1, .int .i64 x2.2, .int .i64 x3.1, .int .i64 x3.2] 76)).alloc (.cells #[.int .i64 y0.1, .int .i64 y0.2, .int .i64 y1.1, .int .i64 y1.2, .int .i64 y2.1, .int .i64 y2.2, .int .i64 y3.1, .int .i64 y3.2] 76)) := (S0.top).sub (by simp)
  clear S0
  have i0 : ∀ W : World, (Instr.index 74 (.agg #[.int .i64 x0.1, .int .i64 x0.2, .int .i64 x1.1, .int .i64 x1.2, .int .i64 x2.1, .int .i64 x2.2, .int .i64 x3.1, .int .i64 x3.2]) (.int .i64 0)).run Try.prog W = .ok (.agg #[.int .i64 x0.1, .int .i64 x0.2]) W := fun _ => by kernel_rfl
  have i1 : ∀ W : World, (Instr.index 74 (.agg #[.int .i64 x0.1, .int .i64 x0.2, .int .i64 x1.1, .int .i64 x1.2, .int .i64 x2.1, .int .i64 x2.2, .int .i64 x3.1, .int .i64 x3.2]) (.int .i64 1)).run Try.prog W = .ok (.agg #[.int .i64 x1.1, .int .i64 x1.2]) W := fun _ => by kernel_rfl
  have i2 : ∀ W : World, (Instr.index 74 (.agg #[.int .i64 x0.1, .int .i64 x0.2, .int .i64 x1.1, .int .i64 x1.2, .int .i64 x2.1, .int .i64 x2.2, .int .i64 x3.1, .int .i64 x3.2]) (.int .i64 2)).run Try.prog W = .ok (.agg #[.int .i64 x2.1, .int .i64 x2.2]) W := fun _ => by kernel_rfl
  have i3 : ∀ W : World, (Instr.index 74 (.agg #[.int .i64 x0.1, .int .i64 x0.2, .int .i64 x1.1, .int .i64 x1.2, .int .i64 x2.1, .int .i64 x2.2, .int .i64 x3.1, .int .i64 x3.2]) (.int .i64 3)).run Try.prog W = .ok (.agg #[.int .i64 x3.1, .int .i64 x3.2]) W := fun _ => by kernel_rfl
  go_enter Try.func49, Try.ntmps49
  go_wp2
  go_loopw [9] (fun i wr => ∃ k : Int, 0 ≤ k ∧ k ≤ 4 ∧ i = .int .i64 k ∧ Hid (NoLater [x0, x1, x2, x3] [y0, y1, y2, y3] k.toNat) ∧ Inv w wr.heap.size [(w.heap.size + 1, 76, #[.int .i64 y0.1, .int .i64 y0.2, .int .i64 y1.1, .int .i64 y1.2, .int .i64 y2.1, .int .i64 y2.2, .int .i64 y3.1, .int .i64 y3.2])] wr) (fun i _ => 4 - (intOf i).toNat)
  case atStart => exact ⟨0, by omega, by omega, rfl, noLater_zero _ _, S1⟩
  case round =>
    obtain ⟨k, hk0, hk, rfl, hno, hI⟩ := hrel
    clear S1
    have hcase : k = 0 ∨ k = 1 ∨ k = 2 ∨ k = 3 ∨ k = 4 := by omega
    rcases hcase with rfl | rfl | rfl | rfl | rfl
    · have V0 := (hI.top).box 32 #[.int .i64 x0.1, .int .i64 x0.2]
      simp only [World.size_alloc] at V0
      go_wp2_with fail
      generalize wr.alloc (.cells #[.int .i64 x0.1, .int .i64 x0.2] 32) = W at V0 ⊢
      refine wp_region_noPanic ?_
      refine wp_region_held_drew (S := (fun w' => w'.cell? ⟨wr.heap.size, 0, none⟩ = some (.int .i64 x0.1) ∧ w'.cell? ⟨wr.heap.size, 1, none⟩ = some (.int .i64 x0.2) ∧ w'.cell? ⟨w.heap.size + 1, 0, none⟩ = some (.int .i64 y0.1) ∧ w'.cell? ⟨w.heap.size + 1, 1, none⟩ = some (.int .i64 y0.2) ∧ Inv w (wr.heap.size + 1) [(wr.heap.size, 32, #[.int .i64 x0.1, .int .i64 x0.2]), (w.heap.size + 1, 76, #[.int .i64 y0.1, .int .i64 y0.2, .int .i64 y1.1, .int .i64 y1.2, .int .i64 y2.1, .int .i64 y2.2, .int .i64 y3.1, .int .i64 y3.2])] w')) (by kernel_rfl) (by exact ⟨(V0.nth 0 rfl).at 0, (V0.nth 0 rfl).at 1, (V0.nth 1 rfl).at 0, (V0.nth 1 rfl).at 1, V0.drew⟩) (fun hHeld => ?_)
      refine take_run 0 (some 13) (v := ?_) rfl rfl (by kernel_rfl) (by kernel_rfl) (by kernel_rfl) (fun _ _ _ h => h) (by rfl) ?_ hHeld ?_
      rotate_left
      · ((intro w hSw); (try dsimp only at hSw); go_simp <;> with_reducible rfl)
      simp only [Act.put, List.setIfInBounds_toArray, List.set_cons_zero, List.set_cons_succ]
      refine take_run 1 (some 14) (v := ?_) rfl rfl (by kernel_rfl) (by kernel_rfl) (by kernel_rfl) (fun _ _ _ h => h) (by rfl) ?_ hHeld ?_
      rotate_left
      · ((intro w hSw); (try dsimp only at hSw); go_simp <;> with_reducible rfl)
      simp only [Act.put, List.setIfInBounds_toArray, List.set_cons_zero, List.set_cons_succ]
      refine take_run 2 (some 15) (v := ?_) rfl rfl (by kernel_rfl) (by kernel_rfl) (by kernel_rfl) (fun _ _ _ h => h) (by rfl) ?_ hHeld ?_
      rotate_left
      · ((intro w hSw); (try dsimp only at hSw); go_simp <;> with_reducible rfl)
      simp only [Act.put, List.setIfInBounds_toArray, List.set_cons_zero, List.set_cons_succ]
      refine take_run 3 (some 16) (v := ?_) rfl rfl (by kernel_rfl) (by kernel_rfl) (by kernel_rfl) (fun _ _ _ h => h) (by rfl) ?_ hHeld ?_
      rotate_left
      · ((intro w hSw); (try dsimp only at hSw); go_simp <;> with_reducible rfl)
      simp only [Act.put, List.setIfInBounds_toArray, List.set_cons_zero, List.set_cons_succ]
      refine take_run 4 (some 17) (v := ?_) rfl rfl (by kernel_rfl) (by kernel_rfl) (by kernel_rfl) (fun _ _ _ h => h) (by rfl) ?_ hHeld ?_
      rotate_left
      · ((intro w hSw); (try dsimp only at hSw); go_simp <;> with_reducible rfl)
      simp only [Act.put, List.setIfInBounds_toArray, List.set_cons_zero, List.set_cons_succ]
      refine take_one 5 (by kernel_rfl) rfl (fun K hK => ?_)
      go_simp
      (refine (less_any _ _ _ _ _).mono ?_; rintro e w1 ⟨rfl, hb1⟩)
      try go_wp2_with fail
      refine hK.out _ _ (by exact ⟨((hHeld.2.2.2.2.on hb1).nth 0 rfl).at 0, ((hHeld.2.2.2.2.on hb1).nth 0 rfl).at 1, ((hHeld.2.2.2.2.on hb1).nth 1 rfl).at 0, ((hHeld.2.2.2.2.on hb1).nth 1 rfl).at 1, hHeld.2.2.2.2.on hb1⟩) (fun hHeld => ?_)
      clear hK K
      refine wpAnyH_done (by kernel_rfl) ?_ _
      refine NoPanic.normal ?_
      have hI2 : Inv w (wr.heap.size + 1) [(w.heap.size + 1, 76, #[.int .i64 y0.1, .int .i64 y0.2, .int .i64 y1.1, .int .i64 y1.2, .int .i64 y2.1, .int .i64 y2.2, .int .i64 y3.1, .int .i64 y3.2])] w1 := hHeld.2.2.2.2.sub (by simp)
      clear hHeld V0
      have hz := hI.base
      cases hl : lessB y0.1 y0.2 x0.1 x0.2
      · have HN : Hid (NoLater [x0, x1, x2, x3] [y0, y1, y2, y3] (1 : Int).toNat) := noLater_step (ts := [x0, x1, x2, x3]) (us := [y0, y1, y2, y3]) (k := 0) hno.out rfl rfl hl
        clear hno hl
        go_wp2
        exact ⟨⟨1, by omega, by omega, by go_num, HN, hI2.top⟩, by simp [intOf]⟩
      · have hf := hide (within_f (ts := [x0, x1, x2, x3]) (us := [y0, y1, y2, y3]) (k := 0) rfl rfl hl)
        clear hl hno
        go_wp2
        go_ret
        exact ⟨ret_bool hf.out.symm, hI2.below⟩
    · have V0 := (hI.top).box 32 #[.int .i64 x1.1, .int .i64 x1.2]
      simp only [World.size_alloc] at V0
      go_wp2_with fail
      generalize wr.alloc (.cells #[.int .i64 x1.1, .int .i64 x1.2] 32) = W at V0 ⊢
      refine wp_region_noPanic ?_
      refine wp_region_held_drew (S := (fun w' => w'.cell? ⟨wr.heap.size, 0, none⟩ = some (.int .i64 x1.1) ∧ w'.cell? ⟨wr.heap.size, 1, none⟩ = some (.int .i64 x1.2) ∧ w'.cell? ⟨w.heap.size + 1, 2, none⟩ = some (.int .i64 y1.1) ∧ w'.cell? ⟨w.heap.size + 1, 3, none⟩ = some (.int .i64 y1.2) ∧ Inv w (wr.heap.size + 1) [(wr.heap.size, 32, #[.int .i64 x1.1, .int .i64 x1.2]), (w.heap.size + 1, 76, #[.int .i64 y0.1, .int .i64 y0.2, .int .i64 y1.1, .int .i64 y1.2, .int .i64 y2.1, .int .i64 y2.2, .int .i64 y3.1, .int .i64 y3.2])] w')) (by kernel_rfl) (by exact ⟨(V0.nth 0 rfl).at 0, (V0.nth 0 rfl).at 1, (V0.nth 1 rfl).at 2, (V0.nth 1 rfl).at 3, V0.drew⟩) (fun hHeld => ?_)
      refine take_run 0 (some 13) (v := ?_) rfl rfl (by kernel_rfl) (by kernel_rfl) (by kernel_rfl) (fun _ _ _ h => h) (by rfl) ?_ hHeld ?_
      rotate_left
      · ((intro w hSw); (try dsimp only at hSw); go_simp <;> with_reducible rfl)
      simp only [Act.put, List.setIfInBounds_toArray, List.set_cons_zero, List.set_cons_succ]
      refine take_run 1 (some 14) (v := ?_) rfl rfl (by kernel_rfl) (by kernel_rfl) (by kernel_rfl) (fun _ _ _ h => h) (by rfl) ?_ hHeld ?_
      rotate_left
      · ((intro w hSw); (try dsimp only at hSw); go_simp <;> with_reducible rfl)
      simp only [Act.put, List.setIfInBounds_toArray, List.set_cons_zero, List.set_cons_succ]
      refine take_run 2 (some 15) (v := ?_) rfl rfl (by kernel_rfl) (by kernel_rfl) (by kernel_rfl) (fun _ _ _ h => h) (by rfl) ?_ hHeld ?_
      rotate_left
      · ((intro w hSw); (try dsimp only at hSw); go_simp <;> with_reducible rfl)
      simp only [Act.put, List.setIfInBounds_toArray, List.set_cons_zero, List.set_cons_succ]
      refine take_run 3 (some 16) (v := ?_) rfl rfl (by kernel_rfl) (by kernel_rfl) (by kernel_rfl) (fun _ _ _ h => h) (by rfl) ?_ hHeld ?_
      rotate_left
      · ((intro w hSw); (try dsimp only at hSw); go_simp <;> with_reducible rfl)
      simp only [Act.put, List.setIfInBounds_toArray, List.set_cons_zero, List.set_cons_succ]
      refine take_run 4 (some 17) (v := ?_) rfl rfl (by kernel_rfl) (by kernel_rfl) (by kernel_rfl) (fun _ _ _ h => h) (by rfl) ?_ hHeld ?_
      rotate_left
      · ((intro w hSw); (try dsimp only at hSw); go_simp <;> with_reducible rfl)
      simp only [Act.put, List.setIfInBounds_toArray, List.set_cons_zero, List.set_cons_succ]
      refine take_one 5 (by kernel_rfl) rfl (fun K hK => ?_)
      go_simp
      (refine (less_any _ _ _ _ _).mono ?_; rintro e w1 ⟨rfl, hb1⟩)
      try go_wp2_with fail
      refine hK.out _ _ (by exact ⟨((hHeld.2.2.2.2.on hb1).nth 0 rfl).at 0, ((hHeld.2.2.2.2.on hb1).nth 0 rfl).at 1, ((hHeld.2.2.2.2.on hb1).nth 1 rfl).at 2, ((hHeld.2.2.2.2.on hb1).nth 1 rfl).at 3, hHeld.2.2.2.2.on hb1⟩) (fun hHeld => ?_)
      clear hK K
      refine wpAnyH_done (by kernel_rfl) ?_ _
      refine NoPanic.normal ?_
      have hI2 : Inv w (wr.heap.size + 1) [(w.heap.size + 1, 76, #[.int .i64 y0.1, .int .i64 y0.2, .int .i64 y1.1, .int .i64 y1.2, .int .i64 y2.1, .int .i64 y2.2, .int .i64 y3.1, .int .i64 y3.2])] w1 := hHeld.2.2.2.2.sub (by simp)
      clear hHeld V0
      have hz := hI.base
      cases hl : lessB y1.1 y1.2 x1.1 x1.2
      · have HN : Hid (NoLater [x0, x1, x2, x3] [y0, y1, y2, y3] (2 : Int).toNat) := noLater_step (ts := [x0, x1, x2, x3]) (us := [y0, y1, y2, y3]) (k := 1) hno.out rfl rfl hl
        clear hno hl
        go_wp2
        exact ⟨⟨2, by omega, by omega, by go_num, HN, hI2.top⟩, by simp [intOf]⟩
      · have hf := hide (within_f (ts := [x0, x1, x2, x3]) (us := [y0, y1, y2, y3]) (k := 1) rfl rfl hl)
        clear hl hno
        go_wp2
        go_ret
        exact ⟨ret_bool hf.out.symm, hI2.below⟩
    · have V0 := (hI.top).box 32 #[.int .i64 x2.1, .int .i64 x2.2]
      simp only [World.size_alloc] at V0
      go_wp2_with fail
      generalize wr.alloc (.cells #[.int .i64 x2.1, .int .i64 x2.2] 32) = W at V0 ⊢
      refine wp_region_noPanic ?_
      refine wp_region_held_drew (S := (fun w' => w'.cell? ⟨wr.heap.size, 0, none⟩ = some (.int .i64 x2.1) ∧ w'.cell? ⟨wr.heap.size, 1, none⟩ = some (.int .i64 x2.2) ∧ w'.cell? ⟨w.heap.size + 1, 4, none⟩ = some (.int .i64 y2.1) ∧ w'.cell? ⟨w.heap.size + 1, 5, none⟩ = some (.int .i64 y2.2) ∧ Inv w (wr.heap.size + 1) [(wr.heap.size, 32, #[.int .i64 x2.1, .int .i64 x2.2]), (w.heap.size + 1, 76, #[.int .i64 y0.1, .int .i64 y0.2, .int .i64 y1.1, .int .i64 y1.2, .int .i64 y2.1, .int .i64 y2.2, .int .i64 y3.1, .int .i64 y3.2])] w')) (by kernel_rfl) (by exact ⟨(V0.nth 0 rfl).at 0, (V0.nth 0 rfl).at 1, (V0.nth 1 rfl).at 4, (V0.nth 1 rfl).at 5, V0.drew⟩) (fun hHeld => ?_)
      refine take_run 0 (some 13) (v := ?_) rfl rfl (by kernel_rfl) (by kernel_rfl) (by kernel_rfl) (fun _ _ _ h => h) (by rfl) ?_ hHeld ?_
      rotate_left
      · ((intro w hSw); (try dsimp only at hSw); go_simp <;> with_reducible rfl)
      simp only [Act.put, List.setIfInBounds_toArray, List.set_cons_zero, List.set_cons_succ]
      refine take_run 1 (some 14) (v := ?_) rfl rfl (by kernel_rfl) (by kernel_rfl) (by kernel_rfl) (fun _ _ _ h => h) (by rfl) ?_ hHeld ?_
      rotate_left
      · ((intro w hSw); (try dsimp only at hSw); go_simp <;> with_reducible rfl)
      simp only [Act.put, List.setIfInBounds_toArray, List.set_cons_zero, List.set_cons_succ]
      refine take_run 2 (some 15) (v := ?_) rfl rfl (by kernel_rfl) (by kernel_rfl) (by kernel_rfl) (fun _ _ _ h => h) (by rfl) ?_ hHeld ?_
      rotate_left
      · ((intro w hSw); (try dsimp only at hSw); go_simp <;> with_reducible rfl)
      simp only [Act.put, List.setIfInBounds_toArray, List.set_cons_zero, List.set_cons_succ]
      refine take_run 3 (some 16) (v := ?_) rfl rfl (by kernel_rfl) (by kernel_rfl) (by kernel_rfl) (fun _ _ _ h => h) (by rfl) ?_ hHeld ?_
      rotate_left
      · ((intro w hSw); (try dsimp only at hSw); go_simp <;> with_reducible rfl)
      simp only [Act.put, List.setIfInBounds_toArray, List.set_cons_zero, List.set_cons_succ]
      refine take_run 4 (some 17) (v := ?_) rfl rfl (by kernel_rfl) (by kernel_rfl) (by kernel_rfl) (fun _ _ _ h => h) (by rfl) ?_ hHeld ?_
      rotate_left
      · ((intro w hSw); (try dsimp only at hSw); go_simp <;> with_reducible rfl)
      simp only [Act.put, List.setIfInBounds_toArray, List.set_cons_zero, List.set_cons_succ]
      refine take_one 5 (by kernel_rfl) rfl (fun K hK => ?_)
      go_simp
      (refine (less_any _ _ _ _ _).mono ?_; rintro e w1 ⟨rfl, hb1⟩)
      try go_wp2_with fail
      refine hK.out _ _ (by exact ⟨((hHeld.2.2.2.2.on hb1).nth 0 rfl).at 0, ((hHeld.2.2.2.2.on hb1).nth 0 rfl).at 1, ((hHeld.2.2.2.2.on hb1).nth 1 rfl).at 4, ((hHeld.2.2.2.2.on hb1).nth 1 rfl).at 5, hHeld.2.2.2.2.on hb1⟩) (fun hHeld => ?_)
      clear hK K
      refine wpAnyH_done (by kernel_rfl) ?_ _
      refine NoPanic.normal ?_
      have hI2 : Inv w (wr.heap.size + 1) [(w.heap.size + 1, 76, #[.int .i64 y0.1, .int .i64 y0.2, .int .i64 y1.1, .int .i64 y1.2, .int .i64 y2.1, .int .i64 y2.2, .int .i64 y3.1, .int .i64 y3.2])] w1 := hHeld.2.2.2.2.sub (by simp)
      clear hHeld V0
      have hz := hI.base
      cases hl : lessB y2.1 y2.2 x2.1 x2.2
      · have HN : Hid (NoLater [x0, x1, x2, x3] [y0, y1, y2, y3] (3 : Int).toNat) := noLater_step (ts := [x0, x1, x2, x3]) (us := [y0, y1, y2, y3]) (k := 2) hno.out rfl rfl hl
        clear hno hl
        go_wp2
        exact ⟨⟨3, by omega, by omega, by go_num, HN, hI2.top⟩, by simp [intOf]⟩
      · have hf := hide (within_f (ts := [x0, x1, x2, x3]) (us := [y0, y1, y2, y3]) (k := 2) rfl rfl hl)
        clear hl hno
        go_wp2
        go_ret
        exact ⟨ret_bool hf.out.symm, hI2.below⟩
    · have V0 := (hI.top).box 32 #[.int .i64 x3.1, .int .i64 x3.2]
      simp only [World.size_alloc] at V0
      go_wp2_with fail
      generalize wr.alloc (.cells #[.int .i64 x3.1, .int .i64 x3.2] 32) = W at V0 ⊢
      refine wp_region_noPanic ?_
      refine wp_region_held_drew (S := (fun w' => w'.cell? ⟨wr.heap.size, 0, none⟩ = some (.int .i64 x3.1) ∧ w'.cell? ⟨wr.heap.size, 1, none⟩ = some (.int .i64 x3.2) ∧ w'.cell? ⟨w.heap.size + 1, 6, none⟩ = some (.int .i64 y3.1) ∧ w'.cell? ⟨w.heap.size + 1, 7, none⟩ = some (.int .i64 y3.2) ∧ Inv w (wr.heap.size + 1) [(wr.heap.size, 32, #[.int .i64 x3.1, .int .i64 x3.2]), (w.heap.size + 1, 76, #[.int .i64 y0.1, .int .i64 y0.2, .int .i64 y1.1, .int .i64 y1.2, .int .i64 y2.1, .int .i64 y2.2, .int .i64 y3.1, .int .i64 y3.2])] w')) (by kernel_rfl) (by exact ⟨(V0.nth 0 rfl).at 0, (V0.nth 0 rfl).at 1, (V0.nth 1 rfl).at 6, (V0.nth 1 rfl).at 7, V0.drew⟩) (fun hHeld => ?_)
      refine take_run 0 (some 13) (v := ?_) rfl rfl (by kernel_rfl) (by kernel_rfl) (by kernel_rfl) (fun _ _ _ h => h) (by rfl) ?_ hHeld ?_
      rotate_left
      · ((intro w hSw); (try dsimp only at hSw); go_simp <;> with_reducible rfl)
      simp only [Act.put, List.setIfInBounds_toArray, List.set_cons_zero, List.set_cons_succ]
      refine take_run 1 (some 14) (v := ?_) rfl rfl (by kernel_rfl) (by kernel_rfl) (by kernel_rfl) (fun _ _ _ h => h) (by rfl) ?_ hHeld ?_
      rotate_left
      · ((intro w hSw); (try dsimp only at hSw); go_simp <;> with_reducible rfl)
      simp only [Act.put, List.setIfInBounds_toArray, List.set_cons_zero, List.set_cons_succ]
      refine take_run 2 (some 15) (v := ?_) rfl rfl (by kernel_rfl) (by kernel_rfl) (by kernel_rfl) (fun _ _ _ h => h) (by rfl) ?_ hHeld ?_
      rotate_left
      · ((intro w hSw); (try dsimp only at hSw); go_simp <;> with_reducible rfl)
      simp only [Act.put, List.setIfInBounds_toArray, List.set_cons_zero, List.set_cons_succ]
      refine take_run 3 (some 16) (v := ?_) rfl rfl (by kernel_rfl) (by kernel_rfl) (by kernel_rfl) (fun _ _ _ h => h) (by rfl) ?_ hHeld ?_
      rotate_left
      · ((intro w hSw); (try dsimp only at hSw); go_simp <;> with_reducible rfl)
      simp only [Act.put, List.setIfInBounds_toArray, List.set_cons_zero, List.set_cons_succ]
      refine take_run 4 (some 17) (v := ?_) rfl rfl (by kernel_rfl) (by kernel_rfl) (by kernel_rfl) (fun _ _ _ h => h) (by rfl) ?_ hHeld ?_
      rotate_left
      · ((intro w hSw); (try dsimp only at hSw); go_simp <;> with_reducible rfl)
      simp only [Act.put, List.setIfInBounds_toArray, List.set_cons_zero, List.set_cons_succ]
      refine take_one 5 (by kernel_rfl) rfl (fun K hK => ?_)
      go_simp
      (refine (less_any _ _ _ _ _).mono ?_; rintro e w1 ⟨rfl, hb1⟩)
      try go_wp2_with fail
      refine hK.out _ _ (by exact ⟨((hHeld.2.2.2.2.on hb1).nth 0 rfl).at 0, ((hHeld.2.2.2.2.on hb1).nth 0 rfl).at 1, ((hHeld.2.2.2.2.on hb1).nth 1 rfl).at 6, ((hHeld.2.2.2.2.on hb1).nth 1 rfl).at 7, hHeld.2.2.2.2.on hb1⟩) (fun hHeld => ?_)
      clear hK K
      refine wpAnyH_done (by kernel_rfl) ?_ _
      refine NoPanic.normal ?_
      have hI2 : Inv w (wr.heap.size + 1) [(w.heap.size + 1, 76, #[.int .i64 y0.1, .int .i64 y0.2, .int .i64 y1.1, .int .i64 y1.2, .int .i64 y2.1, .int .i64 y2.2, .int .i64 y3.1, .int .i64 y3.2])] w1 := hHeld.2.2.2.2.sub (by simp)
      clear hHeld V0
      have hz := hI.base
      cases hl : lessB y3.1 y3.2 x3.1 x3.2
      · have HN : Hid (NoLater [x0, x1, x2, x3] [y0, y1, y2, y3] (4 : Int).toNat) := noLater_step (ts := [x0, x1, x2, x3]) (us := [y0, y1, y2, y3]) (k := 3) hno.out rfl rfl hl
        clear hno hl
        go_wp2
        exact ⟨⟨4, by omega, by omega, by go_num, HN, hI2.top⟩, by simp [intOf]⟩
      · have hf := hide (within_f (ts := [x0, x1, x2, x3]) (us := [y0, y1, y2, y3]) (k := 3) rfl rfl hl)
        clear hl hno
        go_wp2
        go_ret
        exact ⟨ret_bool hf.out.symm, hI2.below⟩
    · have hf := hide (within_t (ts := [x0, x1, x2, x3]) (us := [y0, y1, y2, y3]) rfl hno.out)
      clear hno
      go_wp2
      go_ret
      exact ⟨ret_bool hf.out.symm, hI.below⟩

/-- What PastWithin answers. -/
def pwB (ts us : List (Int × Int)) : Bool := pastB ts && pastB us && withinB ts us
theorem pwB_1 {ts us : List (Int × Int)} (h : pastB ts = false) : pwB ts us = false := by unfold pwB; simp [h]
theorem pwB_2 {ts us : List (Int × Int)} (h : pastB us = false) : pwB ts us = false := by unfold pwB; simp [h]
theorem pwB_3 {ts us : List (Int × Int)} (h : pastB ts = true) (h' : pastB us = true) : pwB ts us = withinB ts us := by unfold pwB; simp [h, h']

set_option maxHeartbeats 1000000 in
theorem specPastWithin_any (a a' : Option Addr) (c c' : Nat) (ts us : List (Int × Int)) (w : World) (hn : ts.length ≤ 1048576) (hn' : us.length ≤ 1048576) (ht : Tg w w.heap.size a ts) (hu : Tg w w.heap.size a' us) :
    Calls Try.prog 18 #[.agg #[.slice a ts.length c], .agg #[.slice a' us.length c']] w fun e w' => e = .returned (.bool (pwB ts us)) ∧ Below w.heap.size w w' := by
  have S0 := ((Inv.start w).box 25 #[.slice a ts.length c]).box 25 #[.slice a' us.length c']
  simp only [World.size_alloc] at S0
  go_enter Try.func18, Try.ntmps18
  go_wp2_with fail
  generalize (w.alloc (.cells #[.slice a ts.length c] 25)).alloc (.cells #[.slice a' us.length c'] 25) = W at S0 ⊢
  refine (l1PastOk_any a c ts W hn ((ht.on S0.below).up S0.base)).mono ?_
  rintro e w1 ⟨rfl, hb1⟩
  have S1 := S0.on hb1
  cases hp : pastB ts
  · have hf := hide (pwB_1 (us := us) hp)
    clear S0 hp
    go_wp2
    go_ret
    exact ⟨ret_bool hf.out.symm, S1.below⟩
  · have k1 := (S1.nth 0 rfl).one.1
    clear S0
    go_wp2_with fail
    refine (l1PastOk_any a' c' us w1 hn' ((hu.on S1.below).up S1.base)).mono ?_
    rintro e w2 ⟨rfl, hb2⟩
    have S2 := S1.on hb2
    clear k1 S1
    cases hq : pastB us
    · have hf := hide (pwB_2 (ts := ts) hq)
      clear hp hq
      go_wp2
      go_ret
      exact ⟨ret_bool hf.out.symm, S2.below⟩
    · have k1 := (S2.nth 0 rfl).one.1
      have k2 := (S2.nth 1 rfl).one.1
      have hf := hide (pwB_3 hp hq)
      obtain ⟨x0, x1, x2, x3, rfl⟩ := four_of hp
      obtain ⟨y0, y1, y2, y3, rfl⟩ := four_of hq
      clear hp hq
      go_wp2_with fail
      refine (l1Within_any a a' c c' [x0, x1, x2, x3] [y0, y1, y2, y3] w2 rfl rfl ((ht.on S2.below).up S2.base) ((hu.on S2.below).up S2.base)).mono ?_
      rintro e w3 ⟨rfl, hb3⟩
      have S3 := S2.on hb3
      clear S2
      go_wp2
      go_ret
      exact ⟨ret_bool hf.out.symm, S3.below⟩

set_option maxHeartbeats 1000000 in
theorem implPastWithin_any (a a' : Option Addr) (c c' : Nat) (ts us : List (Int × Int)) (w : World) (hn : ts.length ≤ 1048576) (hn' : us.length ≤ 1048576) (ht : Tg w w.heap.size a ts) (hu : Tg w w.heap.size a' us) :
    Calls Try.prog 15 #[.agg #[.slice a ts.length c], .agg #[.slice a' us.length c']] w fun e w' => e = .returned (.bool (pwB ts us)) ∧ Below w.heap.size w w' := by
  have S0 := ((Inv.start w).box 25 #[.slice a ts.length c]).box 25 #[.slice a' us.length c']
  simp only [World.size_alloc] at S0
  go_enter Try.func15, Try.ntmps15
  go_wp2_with fail
  generalize (w.alloc (.cells #[.slice a ts.length c] 25)).alloc (.cells #[.slice a' us.length c'] 25) = W at S0 ⊢
  refine (vectorOf_any a c ts W hn ((ht.on S0.below).up S0.base)).mono ?_
  rintro e w1 ⟨h1, h2, hb1⟩
  cases hp : pastB ts
  · have he := h2 hp
    have hf := hide (pwB_1 (us := us) hp)
    subst he
    have S1 := ((S0.on hb1).top).box 76 zero8
    have k1 := (S1.nth 1 rfl).one.1
    clear h1 h2 hp S0
    go_wp2_with fail
    generalize w1.alloc (.cells zero8 76) = W1 at S1 k1 ⊢
    refine (vectorOf_any a' c' us W1 hn' ((hu.on S1.below).up S1.base)).mono ?_
    rintro e w2 ⟨h1, h2, hb2⟩
    have S2 := S1.on hb2
    clear k1 S1
    cases hq : pastB us
    · have he := h2 hq
      subst he
      clear h1 h2 hq
      go_wp2
      go_ret
      exact ⟨ret_bool hf.out.symm, (S2.alloc _).below⟩
    · have he := h1 hq
      obtain ⟨y0, y1, y2, y3, rfl⟩ := four_of hq
      rw [cells4_eq] at he
      subst he
      clear h1 h2 hq
      go_wp2
      go_ret
      exact ⟨ret_bool hf.out.symm, (S2.alloc _).below⟩
  · have he := h1 hp
    obtain ⟨x0, x1, x2, x3, rfl⟩ := four_of hp
    rw [cells4_eq] at he
    subst he
    have S1 := ((S0.on hb1).top).box 76 #[.int .i64 x0.1, .int .i64 x0.2, .int .i64 x1.1, .int .i64 x1.2, .int .i64 x2.1, .int .i64 x2.2, .int .i64 x3.1, .int .i64 x3.2]
    have k1 := (S1.nth 1 rfl).one.1
    clear h1 h2 S0
    go_wp2_with fail
    generalize w1.alloc (.cells #[.int .i64 x0.1, .int .i64 x0.2, .int .i64 x1.1, .int .i64 x1.2, .int .i64 x2.1, .int .i64 x2.2, .int .i64 x3.1, .int .i64 x3.2] 76) = W1 at S1 k1 ⊢
    refine (vectorOf_any a' c' us W1 hn' ((hu.on S1.below).up S1.base)).mono ?_
    rintro e w2 ⟨h1, h2, hb2⟩
    have S2 := S1.on hb2
    clear k1 S1
    cases hq : pastB us
    · have he := h2 hq
      have hf := hide (pwB_2 (ts := [x0, x1, x2, x3]) hq)
      subst he
      clear h1 h2 hq hp
      go_wp2
      go_ret
      exact ⟨ret_bool hf.out.symm, (S2.alloc _).below⟩
    · have he := h1 hq
      have hf := hide (pwB_3 hp hq)
      obtain ⟨y0, y1, y2, y3, rfl⟩ := four_of hq
      rw [cells4_eq] at he
      subst he
      have S3 := (S2.top).box 76 #[.int .i64 y0.1, .int .i64 y0.2, .int .i64 y1.1, .int .i64 y1.2, .int .i64 y2.1, .int .i64 y2.2, .int .i64 y3.1, .int .i64 y3.2]
      have E1 := (S3.nth 1 rfl).eight.1
      clear h1 h2 hq hp S2
      go_wp2_with fail
      generalize w2.alloc (.cells #[.int .i64 y0.1, .int .i64 y0.2, .int .i64 y1.1, .int .i64 y1.2, .int .i64 y2.1, .int .i64 y2.2, .int .i64 y3.1, .int .i64 y3.2] 76) = W2 at S3 E1 ⊢
      refine (within_any x0 x1 x2 x3 y0 y1 y2 y3 W2).mono ?_
      rintro e w3 ⟨rfl, hb3⟩
      have S4 := S3.on hb3
      clear S3 E1
      go_wp2
      go_ret
      exact ⟨ret_bool hf.out.symm, S4.below⟩
end Go.Proofs.Ytkkjhfgjjakmfaa
