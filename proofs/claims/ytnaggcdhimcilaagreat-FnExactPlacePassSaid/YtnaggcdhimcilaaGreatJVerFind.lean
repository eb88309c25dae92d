/- Contracts of the functions that compare vectors of tags, in the program and in the model. Condition: at most 1048576 tags. -/
import Derived.Test.YtnaggcdhimcilaaGreatJPastOk
import Derived.Test.YtnaggcdhimcilaaGreatJVerCopy
import Derived.Test.YtnaggcdhimcilaaGreatJChainSpec3
import Derived.Test.YtnaggcdhimcilaaGreatJChainPure
import Derived.Test.YtnaggcdhimcilaaGreatJChainPass
import Derived.Test.YtnaggcdhimcilaaGreatJChainApply2
import Derived.Test.YtnaggcdhimcilaaGreatJChainRow
import Derived.Test.YtnaggcdhimcilaaGreatJLogMark
namespace Go.Proofs.YtnaggcdhimcilaaGreat
open Go.RowKit Go.Joins
attribute [local go_sem ↓] Go.wp_at_zero Go.wp_at_succ

/-- Whether no tag of the first list is later than the other's at its place. -/
def withinB (ts us : List (Int × Int)) : Bool := (ts.zip us).all fun p => !lessB p.2.1 p.2.2 p.1.1 p.1.2
/-- Up to place k none is later. -/
def NoLater (ts us : List (Int × Int)) (k : Nat) : Prop := ∀ (j : Nat) (x y : Int × Int), j < k → ts[j]? = some x → us[j]? = some y → lessB y.1 y.2 x.1 x.2 = false
theorem noLater_zero (ts us : List (Int × Int)) : NoLater ts us 0 := fun j _ _ hj => absurd hj (by omega)
theorem noLater_step {ts us : List (Int × Int)} {k : Nat} {x y : Int × Int} (h : NoLater ts us k) (hx : ts[k]? = some x) (hy : us[k]? = some y) (hl : lessB y.1 y.2 x.1 x.2 = false) : NoLater ts us (k + 1) := by
  intro j x' y' hj hx' hy'
  by_cases e : j = k
  · subst e
    rw [hx] at hx'
    rw [hy] at hy'
    injection hx' with hx'
    injection hy' with hy'
    subst hx' hy'
    exact hl
  · exact h j x' y' (by omega) hx' hy'
theorem within_t {ts us : List (Int × Int)} (hl : ts.length = 4) (h : NoLater ts us 4) : withinB ts us = true := by
  unfold withinB
  rw [List.all_eq_true]
  intro p hp
  obtain ⟨j, hj⟩ := List.getElem?_of_mem hp
  rw [List.getElem?_zip_eq_some] at hj
  have hlt := (List.getElem?_eq_some_iff.1 hj.1).1
  have := h j p.1 p.2 (by omega) hj.1 hj.2
  simp [this]
theorem within_f {ts us : List (Int × Int)} {k : Nat} {x y : Int × Int} (hx : ts[k]? = some x) (hy : us[k]? = some y) (hl : lessB y.1 y.2 x.1 x.2 = true) : withinB ts us = false := by
  unfold withinB
  rw [List.all_eq_false]
  refine ⟨(x, y), List.mem_of_getElem? (i := k) ?_, by simp [hl]⟩
  rw [List.getElem?_zip_eq_some]
  exact ⟨hx, hy⟩

set_option maxRecDepth 100000 in
set_option maxHeartbeats 1000000 in
theorem l1Within_any (a a' : Option Addr) (c c' : Nat) (ts us : List (Int × Int)) (w : World) (h4 : ts.length = 4) (h4' : us.length = 4) (ht : Tg w w.heap.size a ts) (hu : Tg w w.heap.size a' us) :
    Calls Tryz.prog 96 #[.agg #[.slice a 4 c], .agg #[.slice a' 4 c']] w fun e w' => e = .returned (.bool (withinB ts us)) ∧ Below w.heap.size w w' := by
  have S0 := ((Inv.start w).box 94 #[.slice a 4 c]).box 94 #[.slice a' 4 c']
  simp only [World.size_alloc] at S0
  have H4 := hide h4
  have H4' := hide h4'
  clear h4 h4'
  go_enter Tryz.func96, Tryz.ntmps96
  go_wp2
  go_loopw [5] (fun i wr => ∃ k : Nat, k ≤ 4 ∧ i = .int .i64 (k : Int) ∧ NoLater ts us k ∧ Inv w (w.heap.size + 1 + 1) [(w.heap.size + 1, 94, #[.slice a' 4 c']), (w.heap.size, 94, #[.slice a 4 c])] wr) (fun i _ => 4 - (intOf i).toNat)
  case atStart => exact ⟨0, Nat.zero_le _, rfl, noLater_zero _ _, S0⟩
  case round =>
    obtain ⟨k, hk, rfl, hno, hI⟩ := hrel
    clear S0
    by_cases hlt : k < 4
    · rcases ht with h0 | ⟨b, off, rfl, hb, hx⟩
      · have := H4.out; subst h0; simp at this
      · rcases hu with h0 | ⟨b', off', rfl, hb', hx'⟩
        · have := H4'.out; subst h0; simp at this
        · have hkl : k < ts.length := by have := H4.out; omega
          have hkl' : k < us.length := by have := H4'.out; omega
          obtain ⟨hc0, hc1⟩ := hx k _ (List.getElem?_eq_getElem hkl)
          obtain ⟨hd0, hd1⟩ := hx' k _ (List.getElem?_eq_getElem hkl')
          have HX := hide (List.getElem?_eq_getElem hkl)
          have HY := hide (List.getElem?_eq_getElem hkl')
          generalize ts[k] = x at hc0 hc1 HX
          generalize us[k] = y at hd0 hd1 HY
          obtain ⟨x1, x2⟩ := x
          obtain ⟨y1, y2⟩ := y
          simp only at hc0 hc1 hd0 hd1
          have C0 := hide hc0
          have C1 := hide hc1
          have D0 := hide hd0
          have D1 := hide hd1
          clear hx hx' hc0 hc1 hd0 hd1
          have i1 : (0 : Int) ≤ (k : Int) := by omega
          have i2 : (k : Int) < 4 := by omega
          go_wp2_with fail
          refine wp_region_noPanic ?_
          refine wp_region_held_drew (S := (fun w' => w'.cell? ⟨b, off + k * 2, none⟩ = some (.int .i64 x1) ∧ w'.cell? ⟨b, off + k * 2 + 1, none⟩ = some (.int .i64 x2) ∧ w'.cell? ⟨b', off' + k * 2, none⟩ = some (.int .i64 y1) ∧ w'.cell? ⟨b', off' + k * 2 + 1, none⟩ = some (.int .i64 y2) ∧ w'.cell? ⟨w.heap.size, 0, none⟩ = some (.slice (some ⟨b, off, none⟩) 4 c) ∧ w'.cell? ⟨w.heap.size + 1, 0, none⟩ = some (.slice (some ⟨b', off', none⟩) 4 c') ∧ Inv w (w.heap.size + 1 + 1) [(w.heap.size + 1, 94, #[.slice (some ⟨b', off', none⟩) 4 c']), (w.heap.size, 94, #[.slice (some ⟨b, off, none⟩) 4 c])] w')) (by kernel_rfl) (by exact ⟨(hI.below.cell (p := ⟨b, off + k * 2, none⟩) hb).trans C0.out, (hI.below.cell (p := ⟨b, off + k * 2 + 1, none⟩) hb).trans C1.out, (hI.below.cell (p := ⟨b', off' + k * 2, none⟩) hb').trans D0.out, (hI.below.cell (p := ⟨b', off' + k * 2 + 1, none⟩) hb').trans D1.out, (hI.nth 1 rfl).at 0, (hI.nth 0 rfl).at 0, hI.drew⟩) (fun hHeld => ?_)
          refine mvR 0 (some 10) hHeld ?_
          refine mvR 1 (some 11) hHeld ?_
          refine mvR 2 (some 12) hHeld ?_
          refine mvR 3 (some 13) hHeld ?_
          refine mvR 4 (some 14) hHeld ?_
          refine mvR 5 (some 15) hHeld ?_
          refine mvR 6 (some 16) hHeld ?_
          refine mvR 7 (some 17) hHeld ?_
          refine mvR 8 (some 18) hHeld ?_
          refine mvR 9 (some 19) hHeld ?_
          refine take_one 10 (by kernel_rfl) rfl (fun K hK => ?_)
          go_simp
          (refine (l1Less_any _ _ _ _ _).mono ?_; rintro e w1 ⟨rfl, hb1⟩)
          try go_wp2_with fail
          refine hK.out _ _ (by exact ⟨((hHeld.2.2.2.2.2.2.on hb1).below.cell (p := ⟨b, off + k * 2, none⟩) hb).trans C0.out, ((hHeld.2.2.2.2.2.2.on hb1).below.cell (p := ⟨b, off + k * 2 + 1, none⟩) hb).trans C1.out, ((hHeld.2.2.2.2.2.2.on hb1).below.cell (p := ⟨b', off' + k * 2, none⟩) hb').trans D0.out, ((hHeld.2.2.2.2.2.2.on hb1).below.cell (p := ⟨b', off' + k * 2 + 1, none⟩) hb').trans D1.out, ((hHeld.2.2.2.2.2.2.on hb1).nth 1 rfl).at 0, ((hHeld.2.2.2.2.2.2.on hb1).nth 0 rfl).at 0, hHeld.2.2.2.2.2.2.on hb1⟩) (fun hHeld => ?_)
          clear hK K
          refine wpAnyH_done (by kernel_rfl) ?_ _
          refine NoPanic.normal ?_
          have hI2 := hHeld.2.2.2.2.2.2
          clear hHeld hI
          cases hl : lessB y1 y2 x1 x2
          · have HN := noLater_step hno HX.out HY.out hl
            clear hno hl
            go_wp2
            exact ⟨⟨k + 1, by omega, by go_num, HN, hI2⟩, by simp [intOf]; omega⟩
          · have hf := hide (within_f HX.out HY.out hl)
            clear hl hno
            go_wp2
            go_ret
            exact ⟨ret_bool hf.out.symm, hI2.below⟩
    · have hk4 : k = 4 := by omega
      subst hk4
      clear hlt
      have hf := hide (within_t H4.out hno)
      clear hno
      go_wp2
      go_ret
      exact ⟨ret_bool hf.out.symm, hI.below⟩

set_option maxRecDepth 100000 in
set_option maxHeartbeats 2000000 in
theorem within_any (x0 x1 x2 x3 y0 y1 y2 y3 : Int × Int) (w : World) :
    Calls Tryz.prog 158 #[.agg #[.int .i64 x0.1, .int .i64 x0.2, .int .i64 x1.1, .int .i64 x1.2, .int .i64 x2.1, .int .i64 x2.2, .int .i64 x3.1, .int .i64 x3.2], .agg #[.int .i64 y0.1, .int .i64 y0.2, .int .i64 y1.1, .int .i64 y1.2, .int .i64 y2.1, .int .i64 y2.2, .int .i64 y3.1, .int .i64 y3.2]] w fun e w' => e = .returned (.bool (withinB [x0, x1, x2, x3] [y0, y1, y2, y3])) ∧ Below w.heap.size w w' := by
  have S0 := ((Inv.start w).box 176 #[.int .i64 x0.1, .int .i64 x0.2, .int .i64 x1.1, .int .i64 x1.2, .int .i64 x2.1, .int .i64 x2.2, .int .i64 x3.1, .int .i64 x3.2]).box 176 #[.int .i64 y0.1, .int .i64 y0.2, .int .i64 y1.1, .int .i64 y1.2, .int .i64 y2.1, .int .i64 y2.2, .int .i64 y3.1, .int .i64 y3.2]
  simp only [World.size_alloc] at S0
  have S1 : Inv w ((w.alloc (.cells #[.int .i64 x0.1, .int .i64 x0.2, .int .i64 x1.1, .int .i64 x1.2, .int .i64 x2.1, .int .i64 x2.2, .int .i64 x3.1, .int .i64 x3.2] 176)).alloc (.cells #[.int .i64 y0.1, .int .i64 y0.2, .int .i64 y1.1, .int .i64 y1.2, .int .i64 y2.1, .int .i64 y2.2, .int .i64 y3.1, .int .i64 y3.2] 176)).heap.size [(w.heap.size + 1, 176, #[.int .i64 y0.1, .int .i64 y0.2, .int .i64 y1.1, .int .i64 y1.2, .int .i64 y2.1, .int .i64 y2.2, .int .i64 y3.1, .int .i64 y3.2])] ((w.alloc (.cells #[.int .i64 x0.1, .int .i64 x0.2, .int .i64 x1.1, .int .i64 x1.2, .int .i64 x2.1, .int .i64 x2.2, .int .i64 x3.1, .int .i64 x3.2] 176)).alloc (.cells #[.int .i64 y0.1, .int .i64 y0.2, .int .i64 y1.1, .int .i64 y1.2, .int .i64 y2.1, .int .i64 y2.2, .int .i64 y3.1, .int .i64 y3.2] 176)) := (S0.top).sub (by simp)
  clear S0
  have i0 : ∀ W : World, (Instr.index 174 (.agg #[.int .i64 x0.1, .int .i64 x0.2, .int .i64 x1.1, .int .i64 x1.2, .int .i64 x2.1, .int .i64 x2.2, .int .i64 x3.1, .int .i64 x3.2]) (.int .i64 0)).run Tryz.prog W = .ok (.agg #[.int .i64 x0.1, .int .i64 x0.2]) W := fun _ => by kernel_rfl
  have i1 : ∀ W : World, (Instr.index 174 (.agg #[.int .i64 x0.1, .int .i64 x0.2, .int .i64 x1.1, .int .i64 x1.2, .int .i64 x2.1, .int .i64 x2.2, .int .i64 x3.1, .int .i64 x3.2]) (.int .i64 1)).run Tryz.prog W = .ok (.agg #[.int .i64 x1.1, .int .i64 x1.2]) W := fun _ => by kernel_rfl
  have i2 : ∀ W : World, (Instr.index 174 (.agg #[.int .i64 x0.1, .int .i64 x0.2, .int .i64 x1.1, .int .i64 x1.2, .int .i64 x2.1, .int .i64 x2.2, .int .i64 x3.1, .int .i64 x3.2]) (.int .i64 2)).run Tryz.prog W = .ok (.agg #[.int .i64 x2.1, .int .i64 x2.2]) W := fun _ => by kernel_rfl
  have i3 : ∀ W : World, (Instr.index 174 (.agg #[.int .i64 x0.1, .int .i64 x0.2, .int .i64 x1.1, .int .i64 x1.2, .int .i64 x2.1, .int .i64 x2.2, .int .i64 x3.1, .int .i64 x3.2]) (.int .i64 3)).run Tryz.prog W = .ok (.agg #[.int .i64 x3.1, .int .i64 x3.2]) W := fun _ => by kernel_rfl
  go_enter Tryz.func158, Tryz.ntmps158
  go_wp2
  go_loopw [9] (fun i wr => ∃ k : Int, 0 ≤ k ∧ k ≤ 4 ∧ i = .int .i64 k ∧ Hid (NoLater [x0, x1, x2, x3] [y0, y1, y2, y3] k.toNat) ∧ Inv w wr.heap.size [(w.heap.size + 1, 176, #[.int .i64 y0.1, .int .i64 y0.2, .int .i64 y1.1, .int .i64 y1.2, .int .i64 y2.1, .int .i64 y2.2, .int .i64 y3.1, .int .i64 y3.2])] wr) (fun i _ => 4 - (intOf i).toNat)
  case atStart => exact ⟨0, by omega, by omega, rfl, noLater_zero _ _, S1⟩
  case round =>
    obtain ⟨k, hk0, hk, rfl, hno, hI⟩ := hrel
    clear S1
    have hcase : k = 0 ∨ k = 1 ∨ k = 2 ∨ k = 3 ∨ k = 4 := by omega
    rcases hcase with rfl | rfl | rfl | rfl | rfl
    · have V0 := (hI.top).box 91 #[.int .i64 x0.1, .int .i64 x0.2]
      simp only [World.size_alloc] at V0
      go_wp2_with fail
      generalize wr.alloc (.cells #[.int .i64 x0.1, .int .i64 x0.2] 91) = W at V0 ⊢
      refine wp_region_noPanic ?_
      refine wp_region_held_drew (S := (fun w' => w'.cell? ⟨wr.heap.size, 0, none⟩ = some (.int .i64 x0.1) ∧ w'.cell? ⟨wr.heap.size, 1, none⟩ = some (.int .i64 x0.2) ∧ w'.cell? ⟨w.heap.size + 1, 0, none⟩ = some (.int .i64 y0.1) ∧ w'.cell? ⟨w.heap.size + 1, 1, none⟩ = some (.int .i64 y0.2) ∧ Inv w (wr.heap.size + 1) [(wr.heap.size, 91, #[.int .i64 x0.1, .int .i64 x0.2]), (w.heap.size + 1, 176, #[.int .i64 y0.1, .int .i64 y0.2, .int .i64 y1.1, .int .i64 y1.2, .int .i64 y2.1, .int .i64 y2.2, .int .i64 y3.1, .int .i64 y3.2])] w')) (by kernel_rfl) (by exact ⟨(V0.nth 0 rfl).at 0, (V0.nth 0 rfl).at 1, (V0.nth 1 rfl).at 0, (V0.nth 1 rfl).at 1, V0.drew⟩) (fun hHeld => ?_)
      refine mvR 0 (some 13) hHeld ?_
      refine mvR 1 (some 14) hHeld ?_
      refine mvR 2 (some 15) hHeld ?_
      refine mvR 3 (some 16) hHeld ?_
      refine mvR 4 (some 17) hHeld ?_
      refine take_one 5 (by kernel_rfl) rfl (fun K hK => ?_)
      go_simp
      (refine (less_any _ _ _ _ _).mono ?_; rintro e w1 ⟨rfl, hb1⟩)
      try go_wp2_with fail
      refine hK.out _ _ (by exact ⟨((hHeld.2.2.2.2.on hb1).nth 0 rfl).at 0, ((hHeld.2.2.2.2.on hb1).nth 0 rfl).at 1, ((hHeld.2.2.2.2.on hb1).nth 1 rfl).at 0, ((hHeld.2.2.2.2.on hb1).nth 1 rfl).at 1, hHeld.2.2.2.2.on hb1⟩) (fun hHeld => ?_)
      clear hK K
      refine wpAnyH_done (by kernel_rfl) ?_ _
      refine NoPanic.normal ?_
      have hI2 : Inv w (wr.heap.size + 1) [(w.heap.size + 1, 176, #[.int .i64 y0.1, .int .i64 y0.2, .int .i64 y1.1, .int .i64 y1.2, .int .i64 y2.1, .int .i64 y2.2, .int .i64 y3.1, .int .i64 y3.2])] w1 := hHeld.2.2.2.2.sub (by simp)
      clear hHeld V0
      have hz := hI.base
      cases hl : lessB y0.1 y0.2 x0.1 x0.2
      · have HN : Hid (NoLater [x0, x1, x2, x3] [y0, y1, y2, y3] (1 : Int).toNat) := noLater_step (ts := [x0, x1, x2, x3]) (us := [y0, y1, y2, y3]) (k := 0) hno.out rfl rfl hl
        clear hno hl
        go_wp2
        exact ⟨⟨1, by omega, by omega, by go_num, HN, hI2.top⟩, by simp [intOf]⟩
      · have hf := hide (within_f (ts := [x0, x1, x2, x3]) (us := [y0, y1, y2, y3]) (k := 0) rfl rfl hl)
        clear hl hno
        go_wp2
        go_ret
        exact ⟨ret_bool hf.out.symm, hI2.below⟩
    · have V0 := (hI.top).box 91 #[.int .i64 x1.1, .int .i64 x1.2]
      simp only [World.size_alloc] at V0
      go_wp2_with fail
      generalize wr.alloc (.cells #[.int .i64 x1.1, .int .i64 x1.2] 91) = W at V0 ⊢
      refine wp_region_noPanic ?_
      refine wp_region_held_drew (S := (fun w' => w'.cell? ⟨wr.heap.size, 0, none⟩ = some (.int .i64 x1.1) ∧ w'.cell? ⟨wr.heap.size, 1, none⟩ = some (.int .i64 x1.2) ∧ w'.cell? ⟨w.heap.size + 1, 2, none⟩ = some (.int .i64 y1.1) ∧ w'.cell? ⟨w.heap.size + 1, 3, none⟩ = some (.int .i64 y1.2) ∧ Inv w (wr.heap.size + 1) [(wr.heap.size, 91, #[.int .i64 x1.1, .int .i64 x1.2]), (w.heap.size + 1, 176, #[.int .i64 y0.1, .int .i64 y0.2, .int .i64 y1.1, .int .i64 y1.2, .int .i64 y2.1, .int .i64 y2.2, .int .i64 y3.1, .int .i64 y3.2])] w')) (by kernel_rfl) (by exact ⟨(V0.nth 0 rfl).at 0, (V0.nth 0 rfl).at 1, (V0.nth 1 rfl).at 2, (V0.nth 1 rfl).at 3, V0.drew⟩) (fun hHeld => ?_)
      refine mvR 0 (some 13) hHeld ?_
      refine mvR 1 (some 14) hHeld ?_
      refine mvR 2 (some 15) hHeld ?_
      refine mvR 3 (some 16) hHeld ?_
      refine mvR 4 (some 17) hHeld ?_
      refine take_one 5 (by kernel_rfl) rfl (fun K hK => ?_)
      go_simp
      (refine (less_any _ _ _ _ _).mono ?_; rintro e w1 ⟨rfl, hb1⟩)
      try go_wp2_with fail
      refine hK.out _ _ (by exact ⟨((hHeld.2.2.2.2.on hb1).nth 0 rfl).at 0, ((hHeld.2.2.2.2.on hb1).nth 0 rfl).at 1, ((hHeld.2.2.2.2.on hb1).nth 1 rfl).at 2, ((hHeld.2.2.2.2.on hb1).nth 1 rfl).at 3, hHeld.2.2.2.2.on hb1⟩) (fun hHeld => ?_)
      clear hK K
      refine wpAnyH_done (by kernel_rfl) ?_ _
      refine NoPanic.normal ?_
      have hI2 : Inv w (wr.heap.size + 1) [(w.heap.size + 1, 176, #[.int .i64 y0.1, .int .i64 y0.2, .int .i64 y1.1, .int .i64 y1.2, .int .i64 y2.1, .int .i64 y2.2, .int .i64 y3.1, .int .i64 y3.2])] w1 := hHeld.2.2.2.2.sub (by simp)
      clear hHeld V0
      have hz := hI.base
      cases hl : lessB y1.1 y1.2 x1.1 x1.2
      · have HN : Hid (NoLater [x0, x1, x2, x3] [y0, y1, y2, y3] (2 : Int).toNat) := noLater_step (ts := [x0, x1, x2, x3]) (us := [y0, y1, y2, y3]) (k := 1) hno.out rfl rfl hl
        clear hno hl
        go_wp2
        exact ⟨⟨2, by omega, by omega, by go_num, HN, hI2.top⟩, by simp [intOf]⟩
      · have hf := hide (within_f (ts := [x0, x1, x2, x3]) (us := [y0, y1, y2, y3]) (k := 1) rfl rfl hl)
        clear hl hno
        go_wp2
        go_ret
        exact ⟨ret_bool hf.out.symm, hI2.below⟩
    · have V0 := (hI.top).box 91 #[.int .i64 x2.1, .int .i64 x2.2]
      simp only [World.size_alloc] at V0
      go_wp2_with fail
      generalize wr.alloc (.cells #[.int .i64 x2.1, .int .i64 x2.2] 91) = W at V0 ⊢
      refine wp_region_noPanic ?_
      refine wp_region_held_drew (S := (fun w' => w'.cell? ⟨wr.heap.size, 0, none⟩ = some (.int .i64 x2.1) ∧ w'.cell? ⟨wr.heap.size, 1, none⟩ = some (.int .i64 x2.2) ∧ w'.cell? ⟨w.heap.size + 1, 4, none⟩ = some (.int .i64 y2.1) ∧ w'.cell? ⟨w.heap.size + 1, 5, none⟩ = some (.int .i64 y2.2) ∧ Inv w (wr.heap.size + 1) [(wr.heap.size, 91, #[.int .i64 x2.1, .int .i64 x2.2]), (w.heap.size + 1, 176, #[.int .i64 y0.1, .int .i64 y0.2, .int .i64 y1.1, .int .i64 y1.2, .int .i64 y2.1, .int .i64 y2.2, .int .i64 y3.1, .int .i64 y3.2])] w')) (by kernel_rfl) (by exact ⟨(V0.nth 0 rfl).at 0, (V0.nth 0 rfl).at 1, (V0.nth 1 rfl).at 4, (V0.nth 1 rfl).at 5, V0.drew⟩) (fun hHeld => ?_)
      refine mvR 0 (some 13) hHeld ?_
      refine mvR 1 (some 14) hHeld ?_
      refine mvR 2 (some 15) hHeld ?_
      refine mvR 3 (some 16) hHeld ?_
      refine mvR 4 (some 17) hHeld ?_
      refine take_one 5 (by kernel_rfl) rfl (fun K hK => ?_)
      go_simp
      (refine (less_any _ _ _ _ _).mono ?_; rintro e w1 ⟨rfl, hb1⟩)
      try go_wp2_with fail
      refine hK.out _ _ (by exact ⟨((hHeld.2.2.2.2.on hb1).nth 0 rfl).at 0, ((hHeld.2.2.2.2.on hb1).nth 0 rfl).at 1, ((hHeld.2.2.2.2.on hb1).nth 1 rfl).at 4, ((hHeld.2.2.2.2.on hb1).nth 1 rfl).at 5, hHeld.2.2.2.2.on hb1⟩) (fun hHeld => ?_)
      clear hK K
      refine wpAnyH_done (by kernel_rfl) ?_ _
      refine NoPanic.normal ?_
      have hI2 : Inv w (wr.heap.size + 1) [(w.heap.size + 1, 176, #[.int .i64 y0.1, .int .i64 y0.2, .int .i64 y1.1, .int .i64 y1.2, .int .i64 y2.1, .int .i64 y2.2, .int .i64 y3.1, .int .i64 y3.2])] w1 := hHeld.2.2.2.2.sub (by simp)
      clear hHeld V0
      have hz := hI.base
      cases hl : lessB y2.1 y2.2 x2.1 x2.2
      · have HN : Hid (NoLater [x0, x1, x2, x3] [y0, y1, y2, y3] (3 : Int).toNat) := noLater_step (ts := [x0, x1, x2, x3]) (us := [y0, y1, y2, y3]) (k := 2) hno.out rfl rfl hl
        clear hno hl
        go_wp2
        exact ⟨⟨3, by omega, by omega, by go_num, HN, hI2.top⟩, by simp [intOf]⟩
      · have hf := hide (within_f (ts := [x0, x1, x2, x3]) (us := [y0, y1, y2, y3]) (k := 2) rfl rfl hl)
        clear hl hno
        go_wp2
        go_ret
        exact ⟨ret_bool hf.out.symm, hI2.below⟩
    · have V0 := (hI.top).box 91 #[.int .i64 x3.1, .int .i64 x3.2]
      simp only [World.size_alloc] at V0
      go_wp2_with fail
      generalize wr.alloc (.cells #[.int .i64 x3.1, .int .i64 x3.2] 91) = W at V0 ⊢
      refine wp_region_noPanic ?_
      refine wp_region_held_drew (S := (fun w' => w'.cell? ⟨wr.heap.size, 0, none⟩ = some (.int .i64 x3.1) ∧ w'.cell? ⟨wr.heap.size, 1, none⟩ = some (.int .i64 x3.2) ∧ w'.cell? ⟨w.heap.size + 1, 6, none⟩ = some (.int .i64 y3.1) ∧ w'.cell? ⟨w.heap.size + 1, 7, none⟩ = some (.int .i64 y3.2) ∧ Inv w (wr.heap.size + 1) [(wr.heap.size, 91, #[.int .i64 x3.1, .int .i64 x3.2]), (w.heap.size + 1, 176, #[.int .i64 y0.1, .int .i64 y0.2, .int .i64 y1.1, .int .i64 y1.2, .int .i64 y2.1, .int .i64 y2.2, .int .i64 y3.1, .int .i64 y3.2])] w')) (by kernel_rfl) (by exact ⟨(V0.nth 0 rfl).at 0, (V0.nth 0 rfl).at 1, (V0.nth 1 rfl).at 6, (V0.nth 1 rfl).at 7, V0.drew⟩) (fun hHeld => ?_)
      refine mvR 0 (some 13) hHeld ?_
      refine mvR 1 (some 14) hHeld ?_
      refine mvR 2 (some 15) hHeld ?_
      refine mvR 3 (some 16) hHeld ?_
      refine mvR 4 (some 17) hHeld ?_
      refine take_one 5 (by kernel_rfl) rfl (fun K hK => ?_)
      go_simp
      (refine (less_any _ _ _ _ _).mono ?_; rintro e w1 ⟨rfl, hb1⟩)
      try go_wp2_with fail
      refine hK.out _ _ (by exact ⟨((hHeld.2.2.2.2.on hb1).nth 0 rfl).at 0, ((hHeld.2.2.2.2.on hb1).nth 0 rfl).at 1, ((hHeld.2.2.2.2.on hb1).nth 1 rfl).at 6, ((hHeld.2.2.2.2.on hb1).nth 1 rfl).at 7, hHeld.2.2.2.2.on hb1⟩) (fun hHeld => ?_)
      clear hK K
      refine wpAnyH_done (by kernel_rfl) ?_ _
      refine NoPanic.normal ?_
      have hI2 : Inv w (wr.heap.size + 1) [(w.heap.size + 1, 176, #[.int .i64 y0.1, .int .i64 y0.2, .int .i64 y1.1, .int .i64 y1.2, .int .i64 y2.1, .int .i64 y2.2, .int .i64 y3.1, .int .i64 y3.2])] w1 := hHeld.2.2.2.2.sub (by simp)
      clear hHeld V0
      have hz := hI.base
      cases hl : lessB y3.1 y3.2 x3.1 x3.2
      · have HN : Hid (NoLater [x0, x1, x2, x3] [y0, y1, y2, y3] (4 : Int).toNat) := noLater_step (ts := [x0, x1, x2, x3]) (us := [y0, y1, y2, y3]) (k := 3) hno.out rfl rfl hl
        clear hno hl
        go_wp2
        exact ⟨⟨4, by omega, by omega, by go_num, HN, hI2.top⟩, by simp [intOf]⟩
      · have hf := hide (within_f (ts := [x0, x1, x2, x3]) (us := [y0, y1, y2, y3]) (k := 3) rfl rfl hl)
        clear hl hno
        go_wp2
        go_ret
        exact ⟨ret_bool hf.out.symm, hI2.below⟩
    · have hf := hide (within_t (ts := [x0, x1, x2, x3]) (us := [y0, y1, y2, y3]) rfl hno.out)
      clear hno
      go_wp2
      go_ret
      exact ⟨ret_bool hf.out.symm, hI.below⟩

/-- What PastWithin answers. -/
def pwB (ts us : List (Int × Int)) : Bool := pastB ts && pastB us && withinB ts us
theorem pwB_1 {ts us : List (Int × Int)} (h : pastB ts = false) : pwB ts us = false := by unfold pwB; simp [h]
theorem pwB_2 {ts us : List (Int × Int)} (h : pastB us = false) : pwB ts us = false := by unfold pwB; simp [h]
theorem pwB_3 {ts us : List (Int × Int)} (h : pastB ts = true) (h' : pastB us = true) : pwB ts us = withinB ts us := by unfold pwB; simp [h, h']

set_option maxHeartbeats 1000000 in
theorem implPastWithin_any (a a' : Option Addr) (c c' : Nat) (ts us : List (Int × Int)) (w : World) (hn : ts.length ≤ 1048576) (hn' : us.length ≤ 1048576) (ht : Tg w w.heap.size a ts) (hu : Tg w w.heap.size a' us) :
    Calls Tryz.prog 139 #[.agg #[.slice a ts.length c], .agg #[.slice a' us.length c']] w fun e w' => e = .returned (.bool (pwB ts us)) ∧ Below w.heap.size w w' := by
  have S0 := ((Inv.start w).box 94 #[.slice a ts.length c]).box 94 #[.slice a' us.length c']
  simp only [World.size_alloc] at S0
  go_enter Tryz.func139, Tryz.ntmps139
  go_wp2_with fail
  generalize (w.alloc (.cells #[.slice a ts.length c] 94)).alloc (.cells #[.slice a' us.length c'] 94) = W at S0 ⊢
  refine (vectorOf_any a c ts W hn ((ht.on S0.below).up S0.base)).mono ?_
  rintro e w1 ⟨h1, h2, hb1⟩
  cases hp : pastB ts
  · have he := h2 hp
    have hf := hide (pwB_1 (us := us) hp)
    subst he
    have S1 := ((S0.on hb1).top).box 176 zero8
    have k1 := (S1.nth 1 rfl).one.1
    clear h1 h2 hp S0
    go_wp2_with fail
    generalize w1.alloc (.cells zero8 176) = W1 at S1 k1 ⊢
    refine (vectorOf_any a' c' us W1 hn' ((hu.on S1.below).up S1.base)).mono ?_
    rintro e w2 ⟨h1, h2, hb2⟩
    have S2 := S1.on hb2
    clear k1 S1
    cases hq : pastB us
    · have he := h2 hq
      subst he
      clear h1 h2 hq
      go_wp2
      go_ret
      exact ⟨ret_bool hf.out.symm, (S2.alloc _).below⟩
    · have he := h1 hq
      obtain ⟨y0, y1, y2, y3, rfl⟩ := four_of hq
      rw [cells4_eq] at he
      subst he
      clear h1 h2 hq
      go_wp2
      go_ret
      exact ⟨ret_bool hf.out.symm, (S2.alloc _).below⟩
  · have he := h1 hp
    obtain ⟨x0, x1, x2, x3, rfl⟩ := four_of hp
    rw [cells4_eq] at he
    subst he
    have S1 := ((S0.on hb1).top).box 176 #[.int .i64 x0.1, .int .i64 x0.2, .int .i64 x1.1, .int .i64 x1.2, .int .i64 x2.1, .int .i64 x2.2, .int .i64 x3.1, .int .i64 x3.2]
    have k1 := (S1.nth 1 rfl).one.1
    clear h1 h2 S0
    go_wp2_with fail
    generalize w1.alloc (.cells #[.int .i64 x0.1, .int .i64 x0.2, .int .i64 x1.1, .int .i64 x1.2, .int .i64 x2.1, .int .i64 x2.2, .int .i64 x3.1, .int .i64 x3.2] 176) = W1 at S1 k1 ⊢
    refine (vectorOf_any a' c' us W1 hn' ((hu.on S1.below).up S1.base)).mono ?_
    rintro e w2 ⟨h1, h2, hb2⟩
    have S2 := S1.on hb2
    clear k1 S1
    cases hq : pastB us
    · have he := h2 hq
      have hf := hide (pwB_2 (ts := [x0, x1, x2, x3]) hq)
      subst he
      clear h1 h2 hq hp
      go_wp2
      go_ret
      exact ⟨ret_bool hf.out.symm, (S2.alloc _).below⟩
    · have he := h1 hq
      have hf := hide (pwB_3 hp hq)
      obtain ⟨y0, y1, y2, y3, rfl⟩ := four_of hq
      rw [cells4_eq] at he
      subst he
      have S3 := (S2.top).box 176 #[.int .i64 y0.1, .int .i64 y0.2, .int .i64 y1.1, .int .i64 y1.2, .int .i64 y2.1, .int .i64 y2.2, .int .i64 y3.1, .int .i64 y3.2]
      have E1 := (S3.nth 1 rfl).eight.1
      clear h1 h2 hq hp S2
      go_wp2_with fail
      generalize w2.alloc (.cells #[.int .i64 y0.1, .int .i64 y0.2, .int .i64 y1.1, .int .i64 y1.2, .int .i64 y2.1, .int .i64 y2.2, .int .i64 y3.1, .int .i64 y3.2] 176) = W2 at S3 E1 ⊢
      refine (within_any x0 x1 x2 x3 y0 y1 y2 y3 W2).mono ?_
      rintro e w3 ⟨rfl, hb3⟩
      have S4 := S3.on hb3
      clear S3 E1
      go_wp2
      go_ret
      exact ⟨ret_bool hf.out.symm, S4.below⟩
end Go.Proofs.YtnaggcdhimcilaaGreat
/- Plain facts on vectors: within, joined, the same. -/
namespace Go.Proofs.YtnaggcdhimcilaaGreat

end Go.Proofs.YtnaggcdhimcilaaGreat
/- Plain facts on vectors that are joined. -/
namespace Go.Proofs.YtnaggcdhimcilaaGreat

end Go.Proofs.YtnaggcdhimcilaaGreat
/- Plain facts on stores that are added to and joined. -/
namespace Go.Proofs.YtnaggcdhimcilaaGreat

/-- The later one of two versions. -/
def later (x y : V) : V := if lessB x.t x.u y.t y.u = true then y else x
theorem slot_tag {i : Nat} {v : V} (h : slotB i v = true) : okB v.t v.u = true := by
  cases hn : noneC v.k v.t v.u v.ts.length v.s v.g with
  | true =>
    unfold noneC at hn
    simp at hn
    rw [hn.1.1.1.2.1, hn.1.1.1.2.2]
    decide
  | false =>
    cases ho : okB v.t v.u with
    | true => rfl
    | false =>
      rw [slotB_bad hn (verB_f (.inr (.inr (.inl ho))))] at h
      cases h
theorem past_tags {vs : List V} (hv : storeB vs = true) : pastB (tagsL vs) = true := by
  unfold pastB
  rw [decide_eq_true (by rw [tagsL_len]; exact storeB_four hv), Bool.true_and, List.all_eq_true]
  intro x hx
  unfold tagsL at hx
  rw [List.mem_map] at hx
  obtain ⟨v, hv', rfl⟩ := hx
  obtain ⟨i, hi⟩ := List.getElem?_of_mem hv'
  exact slot_tag (store_slot hv hi)
end Go.Proofs.YtnaggcdhimcilaaGreat
/- A version that comes to a valid chain, or is passed on in one, leaves it valid; what all nodes have is no less. No condition. -/
namespace Go.Proofs.YtnaggcdhimcilaaGreat
open Go.RowKit Go.Joins

end Go.Proofs.YtnaggcdhimcilaaGreat
/- Whether a place is valid, said plainly; such as say the same are alike in that. No condition. -/
namespace Go.Proofs.YtnaggcdhimcilaaGreat
open Go.RowKit Go.Joins

/-- One entry of a log: a valid version of its place, with a tag that none ahead of it has. -/
def entryB (us : List V) (p : Int) (i : Nat) : Bool := match us[i]? with | some v => verV v && decide (v.u = p) && !(us.take i).any (fun x => decide (x.t = v.t ∧ x.u = v.u)) | none => true
/-- Whether these versions are what a place told. -/
def logB (us : List V) (p : Int) : Bool := decide (us.length ≤ 60) && (List.range us.length).all (entryB us p)
theorem logB_long {us : List V} {p : Int} (h : ¬ us.length ≤ 60) : logB us p = false := by
  unfold logB
  rw [decide_eq_false h]
  rfl
theorem logB_bad {us : List V} {p : Int} {i : Nat} (hi : i < us.length) (h : entryB us p i = false) : logB us p = false := by
  unfold logB
  have : (List.range us.length).all (entryB us p) = false := by
    rw [List.all_eq_false]
    exact ⟨i, List.mem_range.2 hi, by rw [h]; decide⟩
  rw [this, Bool.and_false]
theorem logB_ok {us : List V} {p : Int} (h0 : us.length ≤ 60) (h : ∀ i, i < us.length → entryB us p i = true) : logB us p = true := by
  unfold logB
  rw [decide_eq_true h0, Bool.true_and, List.all_eq_true]
  exact fun i hi => h i (List.mem_range.1 hi)
theorem logB_parts {us : List V} {p : Int} (h : logB us p = true) : us.length ≤ 60 ∧ ∀ i, i < us.length → entryB us p i = true := by
  unfold logB at h
  rw [Bool.and_eq_true, decide_eq_true_eq, List.all_eq_true] at h
  exact ⟨h.1, fun i hi => h.2 i (List.mem_range.2 hi)⟩
theorem entryB_at {us : List V} {p : Int} {i : Nat} {v : V} (h : us[i]? = some v) : entryB us p i = (verV v && decide (v.u = p) && !(us.take i).any (fun x => decide (x.t = v.t ∧ x.u = v.u))) := by unfold entryB; rw [h]
theorem any_tag_like {t u : Int} : ∀ {us vs : List V}, LL us vs → us.any (fun x => decide (x.t = t ∧ x.u = u)) = vs.any (fun x => decide (x.t = t ∧ x.u = u))
  | [], [], _ => rfl
  | [], _ :: _, h => by simp [LL] at h
  | _ :: _, [], h => by simp [LL] at h
  | a :: r, b :: r', h => by
    obtain ⟨h1, h2⟩ := ll_cons h
    rw [List.any_cons, List.any_cons, h1.2.1, h1.2.2.1, any_tag_like h2]
theorem ll_take {us vs : List V} (h : LL us vs) (k : Nat) : LL (us.take k) (vs.take k) := by
  refine ⟨by rw [List.length_take, List.length_take, h.1], fun i x y hx hy => ?_⟩
  rw [List.getElem?_take] at hx hy
  split at hx
  · rename_i q
    rw [if_pos q] at hy
    exact h.2 i x y hx hy
  · cases hx
theorem entryB_like {us vs : List V} (h : LL us vs) (p : Int) (i : Nat) : entryB us p i = entryB vs p i := by
  cases hx : us[i]? with
  | none =>
    have hy := ll_none h hx
    unfold entryB
    rw [hx, hy]
  | some x =>
    obtain ⟨y, hy, hl⟩ := ll_at h hx
    rw [entryB_at hx, entryB_at hy, verV_like hl, hl.2.1, hl.2.2.1, any_tag_like (ll_take h i)]
theorem logB_like {us vs : List V} (h : LL us vs) (p : Int) : logB us p = logB vs p := by
  unfold logB
  rw [h.1]
  congr 1
  congr 1
  exact funext fun i => entryB_like h p i
/-- Whether a version that is one hangs on what all nodes have. -/
def hangsB (st : List (Int × Int)) (v : V) : Bool := decide (v.t ≤ 0) || pwB v.ts st
/-- Whether all that nodes have, and all that waits, hangs on what all nodes have. -/
def causesB (ns : List Nd) : Bool := ns.all fun n => n.ss.all (hangsB (stableR ns)) && n.ws.all (hangsB (stableR ns))
theorem causesB_bad {ns : List Nd} {i j : Nat} {n : Nd} {v : V} (hn : ns[i]? = some n) (hv : n.ss[j]? = some v ∨ n.ws[j]? = some v) (h : hangsB (stableR ns) v = false) : causesB ns = false := by
  unfold causesB
  rw [List.all_eq_false]
  refine ⟨n, List.mem_of_getElem? hn, ?_⟩
  intro hq
  rw [Bool.and_eq_true, List.all_eq_true, List.all_eq_true] at hq
  rcases hv with hv | hv
  · rw [hq.1 v (List.mem_of_getElem? hv)] at h; cases h
  · rw [hq.2 v (List.mem_of_getElem? hv)] at h; cases h
theorem causesB_ok {ns : List Nd} (h : ∀ (i : Nat) n, ns[i]? = some n → (∀ v ∈ n.ss, hangsB (stableR ns) v = true) ∧ ∀ v ∈ n.ws, hangsB (stableR ns) v = true) : causesB ns = true := by
  unfold causesB
  rw [List.all_eq_true]
  intro n hn
  obtain ⟨i, hi⟩ := List.getElem?_of_mem hn
  rw [Bool.and_eq_true, List.all_eq_true, List.all_eq_true]
  exact h i n hi
/-- Whether a clock is no earlier than what the head has. -/
def clockB (c : Int) (ns : List Nd) : Bool := decide (0 ≤ c ∧ c ≤ 999) && match ns[0]? with | some n => n.ss.all (fun v => decide (v.t ≤ c)) | none => true
/-- Whether what was told to a place is so. -/
def gotB (me : Int) (gs : List (List V)) : Bool := decide (gs.length = 3) && (List.range gs.length).all fun i => match gs[i]? with | some g => logB g (i : Int) && (decide ((i : Int) ≠ me) || decide (g.length = 0)) | none => true
/-- Whether a place is valid. -/
def placeB (me c : Int) (ns : List Nd) (log : List V) (gs : List (List V)) : Bool := decide (0 ≤ me ∧ me ≤ 2) && chainB ns && clockB c ns && causesB ns && logB log me && gotB me gs
end Go.Proofs.YtnaggcdhimcilaaGreat
/- Places that can be read, and what is like them. No condition. -/
namespace Go.Proofs.YtnaggcdhimcilaaGreat
open Go.RowKit Go.Joins

/-- A place that can be read: its nodes from the beginning of a block. -/
def Cp (w : World) (p : Pl) : Prop := CgA w p.ca p.ns ∧ Vg w w.heap.size p.la p.log ∧ Lgs w w.heap.size p.ga p.gs
theorem Cp.on {w w' : World} {p : Pl} (h : Cp w p) (hb : Below w.heap.size w w') : Cp w' p := ⟨h.1.on hb, (h.2.1.on hb).up hb.size, (h.2.2.on hb).up hb.size⟩
theorem PRes.cp {w : World} {B U : Nat} {p : Pl} (h : PRes w B U p) : Cp w p := ⟨h.chain.cg, h.log.vg, h.got.lgs⟩
theorem lls_at {us ls : List Lg} (h : LLs us ls) {i : Nat} {u : Lg} (hi : us[i]? = some u) : ∃ l, ls[i]? = some l ∧ LL u.vs l.vs := by
  have hl := (List.getElem?_eq_some_iff.1 hi).1
  obtain ⟨l, hx⟩ : ∃ l, ls[i]? = some l := ⟨_, List.getElem?_eq_getElem (by rw [← h.1]; exact hl)⟩
  exact ⟨l, hx, h.2 i u l hi hx⟩
theorem smP_like {p q : Pl} (h : LP p q) (hs : SmP q) : SmP p := by
  obtain ⟨⟨a1, a2⟩, ⟨b1, b2⟩, c1, c2⟩ := hs
  obtain ⟨-, -, hn, hl, hg, -⟩ := h
  refine ⟨⟨by rw [hn.1]; exact a1, smN_like hn a2⟩, ⟨by rw [hl.1]; exact b1, small_ll hl b2⟩, by rw [hg.1]; exact c1, fun l hm => ?_⟩
  obtain ⟨i, hi⟩ := List.getElem?_of_mem hm
  obtain ⟨l', hi', hx⟩ := lls_at hg hi
  obtain ⟨d1, d2⟩ := c2 l' (List.mem_of_getElem? hi')
  exact ⟨by rw [hx.1]; exact d1, small_ll hx d2⟩
theorem small_fits {vs : List V} (hB : BigV vs) (h : vs.length + tot vs ≤ 1048576) : Small vs := fun v hv => by
  have h1 := tot_mem hv
  exact ⟨by omega, (hB.2 v hv).2⟩
theorem smP_fits {p : Pl} (hB : BigP p) (h : totP p ≤ 1048576) : SmP p := by
  unfold totP totC totLg totGt at h
  obtain ⟨⟨-, b1⟩, b2, -, b3⟩ := hB
  refine ⟨⟨by omega, smN_fits b1 (by omega)⟩, ⟨by omega, small_fits b2 (by omega)⟩, by omega, fun l hl => ?_⟩
  have h1 := totL_mem hl
  unfold totG at h1
  exact ⟨by omega, small_fits (b3 l hl) (by omega)⟩
theorem smP_few {p : Pl} (h : SmP p) : FewP p := ⟨⟨h.1.1, smN_small h.1.2⟩, ⟨h.2.1.1, small_tags h.2.1.2⟩, h.2.2.1, fun l hl => ⟨(h.2.2.2 l hl).1, small_tags (h.2.2.2 l hl).2⟩⟩
/-- Whether a place is valid. -/
def plB (p : Pl) : Bool := placeB p.me p.ck p.ns p.log (p.gs.map Lg.vs)
theorem slots_like {us vs : List V} (h : LL us vs) {q : V → Bool} {q' : V → Bool} (hq : ∀ x y, V.like x y → q x = q' y) : us.all q = vs.all q' := by
  rw [Bool.eq_iff_iff, List.all_eq_true, List.all_eq_true]
  constructor
  · intro hx y hy
    obtain ⟨i, hi⟩ := List.getElem?_of_mem hy
    obtain ⟨x, hxi, hl⟩ := ll_at ⟨h.1.symm, fun i a b ha hb => vlike_symm (h.2 i b a hb ha)⟩ hi
    rw [← hq x y (vlike_symm hl)]
    exact hx x (List.mem_of_getElem? hxi)
  · intro hx y hy
    obtain ⟨i, hi⟩ := List.getElem?_of_mem hy
    obtain ⟨x, hxi, hl⟩ := ll_at h hi
    rw [hq y x hl]
    exact hx x (List.mem_of_getElem? hxi)
theorem hangsB_like {st : List (Int × Int)} {v v' : V} (h : V.like v v') : hangsB st v = hangsB st v' := by
  unfold hangsB
  rw [h.2.1, h.2.2.2.1]
theorem causesB_like {ns us : List Nd} (h : NL ns us) : causesB ns = causesB us := by
  have key : ∀ ns us : List Nd, NL ns us → causesB us = true → causesB ns = true := by
    intro ns us h hc
    refine causesB_ok fun i n hn => ?_
    obtain ⟨m, hm, hl⟩ := nl_at h hn
    unfold causesB at hc
    rw [List.all_eq_true] at hc
    have := hc m (List.mem_of_getElem? hm)
    rw [Bool.and_eq_true, ← slots_like (us := n.ss) ⟨hl.1, hl.2.1⟩ (q := hangsB (stableR us)) (fun x y => hangsB_like), ← slots_like (us := n.ws) ⟨hl.2.2.1, hl.2.2.2⟩ (q := hangsB (stableR us)) (fun x y => hangsB_like), List.all_eq_true, List.all_eq_true] at this
    rw [stableR_like h]
    exact this
  cases hx : causesB us with
  | true => exact key ns us h hx
  | false =>
    cases hy : causesB ns with
    | false => rfl
    | true => rw [key us ns (nl_symm h) hy] at hx; cases hx
theorem clockB_like {c : Int} {ns us : List Nd} (h : NL ns us) : clockB c ns = clockB c us := by
  unfold clockB
  cases hx : ns[0]? with
  | none => rw [nl_none h hx]
  | some n =>
    obtain ⟨m, hm, hl⟩ := nl_at h hx
    rw [hm]
    simp only
    rw [slots_like (us := n.ss) ⟨hl.1, hl.2.1⟩ (q := fun v => decide (v.t ≤ c)) (q' := fun v => decide (v.t ≤ c)) (fun x y h => by rw [h.2.1])]
theorem gotB_like {me : Int} {us ls : List Lg} (h : LLs us ls) : gotB me (us.map Lg.vs) = gotB me (ls.map Lg.vs) := by
  unfold gotB
  rw [List.length_map, List.length_map, h.1]
  congr 2
  funext i
  rw [List.getElem?_map, List.getElem?_map]
  cases hx : us[i]? with
  | none =>
    have : ls[i]? = none := by
      rw [List.getElem?_eq_none_iff] at hx ⊢
      rw [← h.1]; exact hx
    rw [this]
  | some u =>
    obtain ⟨l, hl, hxl⟩ := lls_at h hx
    rw [hl]
    simp only [Option.map_some]
    rw [logB_like hxl, hxl.1]
theorem plB_like {p q : Pl} (h : LP p q) : plB p = plB q := by
  obtain ⟨h1, h2, h3, h4, h5, -⟩ := h
  unfold plB placeB
  rw [h1, h2, chainB_like h3, clockB_like h3, causesB_like h3, logB_like h4, gotB_like h5]
theorem plB_parts {p : Pl} (h : plB p = true) : (0 ≤ p.me ∧ p.me ≤ 2) ∧ chainB p.ns = true ∧ clockB p.ck p.ns = true ∧ causesB p.ns = true ∧ logB p.log p.me = true ∧ gotB p.me (p.gs.map Lg.vs) = true := by
  unfold plB placeB at h
  simp only [Bool.and_eq_true, decide_eq_true_eq] at h
  obtain ⟨⟨⟨⟨⟨h1, h2⟩, h3⟩, h4⟩, h5⟩, h6⟩ := h
  exact ⟨h1, h2, h3, h4, h5, h6⟩
end Go.Proofs.YtnaggcdhimcilaaGreat
/- Contracts of the library's search among versions and among nodes with any function value, and of what is built on it: whether a log has a tag. Condition: what is said of each. -/
namespace Go.Proofs.YtnaggcdhimcilaaGreat
open Go.RowKit Go.Joins
attribute [local go_sem ↓] Go.wp_at_zero Go.wp_at_succ

/-- A function that is entered whenever it is called. -/
def EnteredV (N : Nat) : Prop := ∀ (args : Array Value) (W : World), (callFunc N args).run Tryz.prog W = .ok (.enter N args) W
theorem Vg.take {w : World} {B : Nat} {a : Option Addr} {vs : List V} (h : Vg w B a vs) (k : Nat) : Vg w B a (vs.take k) := by
  rcases h with h | ⟨b, off, h1, h2, h3⟩
  · exact .inl (by rw [h]; simp)
  · refine .inr ⟨b, off, h1, h2, fun i v hi => ?_⟩
    rw [List.getElem?_take] at hi
    split at hi
    · exact h3 i v hi
    · cases hi
set_option maxRecDepth 100000 in
set_option maxHeartbeats 2000000 in
theorem indexVers_any (N : Nat) (caps : Array Value) (p : V → Bool) (a : Option Addr) (c : Nat) (vs : List V) (w : World) (hn : vs.length ≤ 1048576) (hv : Vg w w.heap.size a vs) (hc : EnteredV N)
    (hp : ∀ (k : Nat) v, vs[k]? = some v → ∀ W, Below w.heap.size w W → Calls Tryz.prog N (#[.agg (verC v.k v.t v.u v.a v.ts.length v.c v.s v.g)] ++ caps) W fun e w' => e = .returned (.bool (p v)) ∧ Below W.heap.size W w') :
    Calls Tryz.prog 143 #[.slice a vs.length c, .func (.func N) #[] caps] w fun e w' => e = .returned (.int .i64 (findV p vs)) ∧ Below w.heap.size w w' := by
  have HP := hide hp
  clear hp
  unfold EnteredV at hc
  generalize hnn : vs.length = n at *
  have HN := hide hnn
  clear hnn
  go_enter Tryz.func143, Tryz.ntmps143
  go_wp2
  go_loopw [8] (fun i wr => ∃ k : Nat, k ≤ n ∧ i = .int .i64 (k : Int) ∧ Hid (∀ (j : Nat) y, j < k → vs[j]? = some y → p y = false) ∧ Below w.heap.size w wr) (fun i _ => n - (intOf i).toNat)
  case atStart => exact ⟨0, Nat.zero_le _, rfl, fun j x hj => absurd hj (by omega), Below.refl _ _⟩
  case round =>
    obtain ⟨k, hk, rfl, hno, hL⟩ := hrel
    by_cases hlt : k < n
    · rcases hv with h0 | ⟨b, off, rfl, hb, hx⟩
      · have := HN.out; subst h0; simp at this; omega
      · have hkl : k < vs.length := by have := HN.out; omega
        obtain ⟨hS, hT⟩ := hx k _ (List.getElem?_eq_getElem hkl)
        have HY := hide (List.getElem?_eq_getElem hkl)
        generalize vs[k] = v at hS hT HY
        have Q1 := (hS.keep hb fun _ hp => hL.cell hp)
        have CT := hide (HP.out k v HY.out wr hL)
        obtain ⟨vk, vt, vu, va, vc, vts, vs', vg⟩ := v
        simp only at Q1 CT
        clear hS hT hx
        have i1 : (0 : Int) ≤ (k : Int) := by omega
        have i2 : (k : Int) < (n : Int) := by omega
        go_wp2_with fail
        with_reducible refine CT.out.mono ?_
        rintro e w1 ⟨rfl, hb1⟩
        have hL1 := hL.trans (hb1.mono hL.size)
        clear CT
        cases hpy : p ⟨vk, vt, vu, va, vc, vts, vs', vg⟩
        · have HN1 : Hid (∀ (j : Nat) y, j < k + 1 → vs[j]? = some y → p y = false) := fun j x hj hx => by
            by_cases e : j = k
            · subst e
              have h1 := HY.out
              rw [h1] at hx
              injection hx with hx
              subst hx
              exact hpy
            · exact hno.out j x (by omega) hx
          clear hpy Q1
          go_wp2
          exact ⟨⟨k + 1, by omega, by go_num, HN1, hL1⟩, by simp [intOf]; omega⟩
        · have hf := hide (findV_at HY.out hpy hno.out)
          clear hpy Q1
          go_wp2
          go_ret
          exact ⟨ret_int hf.out.symm, hL1⟩
    · have hkn : k = n := by omega
      subst hkn
      clear hlt
      have hf := hide (findV_not (p := p) (ds := vs) fun j y hy => hno.out j y (by have := (List.getElem?_eq_some_iff.1 hy).1; have := HN.out; omega) hy)
      go_wp2
      go_ret
      exact ⟨ret_int hf.out.symm, hL⟩
set_option maxHeartbeats 1000000 in
theorem containsVers_any (N : Nat) (caps : Array Value) (p : V → Bool) (a : Option Addr) (c : Nat) (vs : List V) (w : World) (hn : vs.length ≤ 1048576) (hv : Vg w w.heap.size a vs) (hc : EnteredV N)
    (hp : ∀ (k : Nat) v, vs[k]? = some v → ∀ W, Below w.heap.size w W → Calls Tryz.prog N (#[.agg (verC v.k v.t v.u v.a v.ts.length v.c v.s v.g)] ++ caps) W fun e w' => e = .returned (.bool (p v)) ∧ Below W.heap.size W w') :
    Calls Tryz.prog 112 #[.slice a vs.length c, .func (.func N) #[] caps] w fun e w' => e = .returned (.bool (vs.any p)) ∧ Below w.heap.size w w' := by
  have H := hide (findV_any p vs)
  have C0 := hide (indexVers_any N caps p a c vs w hn hv hc hp)
  clear hp
  go_enter Tryz.func112, Tryz.ntmps112
  go_wp2_with fail
  with_reducible refine C0.out.mono ?_
  rintro e w1 ⟨rfl, hb1⟩
  generalize findV p vs = x at H ⊢
  go_wp2
  go_ret
  exact ⟨ret_bool H.out, hb1⟩
/-- The place of the first node that is such, or -1. -/
def findN (p : Nd → Bool) (ns : List Nd) : Int := match ns.findIdx? p with | some i => (i : Int) | none => -1
theorem findN_at {p : Nd → Bool} {ds : List Nd} {k : Nat} {x : Nd} (hx : ds[k]? = some x) (hp : p x = true) (hb : ∀ j y, j < k → ds[j]? = some y → p y = false) : findN p ds = (k : Int) := by
  have hk := (List.getElem?_eq_some_iff.1 hx).1
  have : ds.findIdx? p = some k := by
    rw [List.findIdx?_eq_some_iff_getElem]
    refine ⟨hk, by rw [(List.getElem?_eq_some_iff.1 hx).2]; exact hp, fun j hj => ?_⟩
    have := hb j ds[j] hj (List.getElem?_eq_getElem (by omega))
    simp [this]
  unfold findN
  rw [this]
theorem findN_not {p : Nd → Bool} {ds : List Nd} (hb : ∀ (j : Nat) y, ds[j]? = some y → p y = false) : findN p ds = -1 := by
  have : ds.findIdx? p = none := by
    rw [List.findIdx?_eq_none_iff]
    intro x hx
    obtain ⟨j, hj⟩ := List.getElem?_of_mem hx
    exact hb j x hj
  unfold findN
  rw [this]
theorem findN_any (p : Nd → Bool) (ds : List Nd) : decide (0 ≤ findN p ds) = ds.any p := by
  unfold findN
  cases h : ds.findIdx? p with
  | none =>
    rw [List.findIdx?_eq_none_iff] at h
    have : ds.any p = false := by
      rw [List.any_eq_false]
      intro x hx
      rw [h x hx]
      decide
    rw [this]
    simp
  | some i =>
    rw [List.findIdx?_eq_some_iff_getElem] at h
    obtain ⟨hi, hp, _⟩ := h
    have : ds.any p = true := by
      rw [List.any_eq_true]
      exact ⟨_, List.getElem_mem hi, hp⟩
    rw [this]
    simp
set_option maxRecDepth 100000 in
set_option maxHeartbeats 2000000 in
theorem indexNodes_any (N : Nat) (caps : Array Value) (p : Nd → Bool) (A : Option Addr) (c : Nat) (ns : List Nd) (w : World) (hn : ns.length ≤ 1048576) (hC : CgA w A ns) (hc : EnteredV N)
    (hp : ∀ (k : Nat) n, ns[k]? = some n → ∀ W, Below w.heap.size w W → Calls Tryz.prog N (#[.agg #[.slice n.sa n.ss.length n.sc, .slice n.wa n.ws.length n.wc]] ++ caps) W fun e w' => e = .returned (.bool (p n)) ∧ Below W.heap.size W w') :
    Calls Tryz.prog 114 #[.slice A ns.length c, .func (.func N) #[] caps] w fun e w' => e = .returned (.int .i64 (findN p ns)) ∧ Below w.heap.size w w' := by
  have HP := hide hp
  have HC := hide hC
  clear hp hC
  unfold EnteredV at hc
  generalize hnn : ns.length = n at *
  have HN := hide hnn
  clear hnn
  go_enter Tryz.func114, Tryz.ntmps114
  go_wp2
  go_loopw [8] (fun i wr => ∃ k : Nat, k ≤ n ∧ i = .int .i64 (k : Int) ∧ Hid (∀ (j : Nat) y, j < k → ns[j]? = some y → p y = false) ∧ Below w.heap.size w wr) (fun i _ => n - (intOf i).toNat)
  case atStart => exact ⟨0, Nat.zero_le _, rfl, fun j x hj => absurd hj (by omega), Below.refl _ _⟩
  case round =>
    obtain ⟨k, hk, rfl, hno, hL⟩ := hrel
    by_cases hlt : k < n
    · rcases HC.out with h0 | ⟨G, cur, rfl, hG⟩
      · have := HN.out; rw [h0] at this; simp at this; omega
      · have hkl : k < ns.length := by have := HN.out; omega
        have HY := hide (List.getElem?_eq_getElem hkl)
        generalize ns[k] = v at HY
        have HCr := hG.on hL
        have n0 : wr.cell? ⟨G, k * 2, none⟩ = some (.slice v.sa v.ss.length v.sc) := (HCr.blk.at _).trans (HCr.at' k v HY.out).1
        have n1 : wr.cell? ⟨G, k * 2 + 1, none⟩ = some (.slice v.wa v.ws.length v.wc) := (HCr.blk.at _).trans (HCr.at' k v HY.out).2
        have CT := hide (HP.out k v HY.out wr hL)
        obtain ⟨sa, sc, ss, wa, wc, ws⟩ := v
        simp only at n0 n1 CT
        clear HCr hG HC
        have i1 : (0 : Int) ≤ (k : Int) := by omega
        have i2 : (k : Int) < (n : Int) := by omega
        go_wp2_with fail
        with_reducible refine CT.out.mono ?_
        rintro e w1 ⟨rfl, hb1⟩
        have hL1 := hL.trans (hb1.mono hL.size)
        clear CT
        cases hpy : p ⟨sa, sc, ss, wa, wc, ws⟩
        · have HN1 : Hid (∀ (j : Nat) y, j < k + 1 → ns[j]? = some y → p y = false) := fun j x hj hx => by
            by_cases e : j = k
            · subst e
              have h1 := HY.out
              rw [h1] at hx
              injection hx with hx
              subst hx
              exact hpy
            · exact hno.out j x (by omega) hx
          clear hpy n0 n1
          go_wp2
          exact ⟨⟨k + 1, by omega, by go_num, HN1, hL1⟩, by simp [intOf]; omega⟩
        · have hf := hide (findN_at HY.out hpy hno.out)
          clear hpy n0 n1
          go_wp2
          go_ret
          exact ⟨ret_int hf.out.symm, hL1⟩
    · have hkn : k = n := by omega
      subst hkn
      clear hlt
      have hf := hide (findN_not (p := p) (ds := ns) fun j y hy => hno.out j y (by have := (List.getElem?_eq_some_iff.1 hy).1; have := HN.out; omega) hy)
      go_wp2
      go_ret
      exact ⟨ret_int hf.out.symm, hL⟩
set_option maxHeartbeats 1000000 in
theorem containsNodes_any (N : Nat) (caps : Array Value) (p : Nd → Bool) (A : Option Addr) (c : Nat) (ns : List Nd) (w : World) (hn : ns.length ≤ 1048576) (hC : CgA w A ns) (hc : EnteredV N)
    (hp : ∀ (k : Nat) n, ns[k]? = some n → ∀ W, Below w.heap.size w W → Calls Tryz.prog N (#[.agg #[.slice n.sa n.ss.length n.sc, .slice n.wa n.ws.length n.wc]] ++ caps) W fun e w' => e = .returned (.bool (p n)) ∧ Below W.heap.size W w') :
    Calls Tryz.prog 76 #[.slice A ns.length c, .func (.func N) #[] caps] w fun e w' => e = .returned (.bool (ns.any p)) ∧ Below w.heap.size w w' := by
  have H := hide (findN_any p ns)
  have C0 := hide (indexNodes_any N caps p A c ns w hn hC hc hp)
  clear hp
  go_enter Tryz.func76, Tryz.ntmps76
  go_wp2_with fail
  with_reducible refine C0.out.mono ?_
  rintro e w1 ⟨rfl, hb1⟩
  generalize findN p ns = x at H ⊢
  go_wp2
  go_ret
  exact ⟨ret_bool H.out, hb1⟩
/-- Whether versions have a tag. -/
def hasB (us : List V) (t u : Int) : Bool := us.any fun x => decide (x.t = t ∧ x.u = u)
set_option maxHeartbeats 1000000 in
theorem hasTagIs_any (v : V) (b : Nat) (t u : Int) (w : World) (hb : Blk w b 91 #[.int .i64 t, .int .i64 u]) :
    Calls Tryz.prog 113 (#[.agg (verC v.k v.t v.u v.a v.ts.length v.c v.s v.g)] ++ #[.pointer (some ⟨b, 0, none⟩)]) w fun e w' => e = .returned (.bool (decide (v.t = t ∧ v.u = u))) ∧ Below w.heap.size w w' := by
  have S0 := (Inv.start w).box 96 (verC v.k v.t v.u v.a v.ts.length v.c v.s v.g)
  have q := (hb.on S0.below).two
  have hte := tagEq_at v.t v.u t u
  have HE : Hid (eqB v.t v.u t u = decide (v.t = t ∧ v.u = u)) := rfl
  obtain ⟨vk, vt, vu, va, vc, vts, vs', vg⟩ := v
  simp only at hte HE S0
  rw [← HE.out]
  generalize eqB vt vu t u = x at hte ⊢
  clear HE hb
  go_enter Tryz.func113, Tryz.ntmps113
  go_wp2
  go_ret
  exact ⟨rfl, S0.below⟩
set_option maxHeartbeats 1000000 in
theorem hasTag_any (a : Option Addr) (c : Nat) (us : List V) (t u : Int) (w : World) (hn : us.length ≤ 1048576) (hv : Vg w w.heap.size a us) :
    Calls Tryz.prog 74 #[.slice a us.length c, .agg #[.int .i64 t, .int .i64 u]] w fun e w' => e = .returned (.bool (hasB us t u)) ∧ Below w.heap.size w w' := by
  have S0 := (Inv.start w).box 91 #[.int .i64 t, .int .i64 u]
  simp only [World.size_alloc] at S0
  have HB := hide (Blk.made w 91 #[.int .i64 t, .int .i64 u])
  have C0 := hide (containsVers_any 113 #[.pointer (some ⟨w.heap.size, 0, none⟩)] (fun x => decide (x.t = t ∧ x.u = u)) a c us (w.alloc (.cells #[.int .i64 t, .int .i64 u] 91)) hn ((hv.on S0.below).up S0.base) (run_enterV Tryz.func113 (by kernel_rfl) rfl) (fun k v _ W hW => hasTagIs_any v w.heap.size t u W (HB.out.on hW)))
  have HE : Hid (us.any (fun x => decide (x.t = t ∧ x.u = u)) = hasB us t u) := rfl
  clear hv HB
  go_enter Tryz.func74, Tryz.ntmps74
  go_wp2_with fail
  with_reducible refine C0.out.mono ?_
  rw [HE.out]
  rintro e w1 ⟨rfl, hb1⟩
  have S1 := S0.on hb1
  generalize hx : hasB us t u = x
  have HX := hide hx
  clear S0 C0 hx
  go_wp2
  go_ret
  exact ⟨ret_bool HX.out.symm, S1.below⟩
end Go.Proofs.YtnaggcdhimcilaaGreat
