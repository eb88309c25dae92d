/- Contracts of TagPut, of program and model. Condition: the table of powers reads as it is laid. -/
import Derived.Test.YtoechhbjfejmjaaDoorTagText
import Derived.Test.YtoechhbjfejmjaaDoorItoaText
namespace Go.Proofs.YtoechhbjfejmjaaDoor
open Go.RowKit Go.Joins
attribute [local go_sem ↓] Go.wp_at_zero Go.wp_at_succ

/-- What TagPut answers. -/
def tagP (t u : Int) : ByteArray := if okB t u = true then tagS t.toNat u.toNat else ⟨#[]⟩
theorem tagP_no {t u : Int} (h : okB t u = false) : tagP t u = ⟨#[]⟩ := by unfold tagP; rw [h]; rfl
theorem tagP_yes {t u : Int} (h : okB t u = true) : tagP t u = tagS t.toNat u.toNat := by unfold tagP; rw [if_pos h]
theorem okB_low {t u : Int} (h : okB t u = true) : ∃ a b : Nat, t = (a : Int) ∧ u = (b : Int) ∧ a ≤ 999 ∧ b ≤ 2 := by
  unfold okB at h
  simp at h
  exact ⟨t.toNat, u.toNat, by omega, by omega, by omega, by omega⟩
set_option maxRecDepth 100000 in
set_option maxHeartbeats 2000000 in
theorem implTagPut_any (t u : Int) (w : World) (hT : PowTab w) : Calls Tryd.prog 21 #[.agg #[.int .i64 t, .int .i64 u]] w fun e w' => e = .returned (.string (tagP t u)) ∧ Below w.heap.size w w' := by
  have L0 := below_alloc1 w (.cells #[.int .i64 t, .int .i64 u] 31)
  have B0 := Blk.made w 31 #[.int .i64 t, .int .i64 u]
  have q0 := B0.two
  cases hok : okB t u
  · have HS := hide (tagP_no hok)
    go_enter Tryd.func21, Tryd.ntmps21
    go_wp2_with fail
    refine (implTagOk_any t u _).mono ?_
    rw [hok]
    rintro e w1 ⟨rfl, hb⟩
    have L1 := hide (L0.trans (hb.mono L0.size))
    clear hb L0 B0 q0
    go_wp2
    go_ret
    exact ⟨by rw [HS.out]; rfl, L1.out⟩
  · obtain ⟨a, b, rfl, rfl, ha, hb⟩ := okB_low hok
    have HS := hide (tagP_yes hok)
    have HOK := hide hok
    have z1 := decS_size a
    have z2 := decS_size b
    have hz1 : ¬ (9223372036854775807 < (decS a).size + 1) := by omega
    have hz2 : ¬ (9223372036854775807 < (decS a).size + 1 + (decS b).size) := by omega
    have HT := hide hT
    clear hok z1 z2 hT
    go_enter Tryd.func21, Tryd.ntmps21
    go_wp2_with fail
    refine (implTagOk_any (a : Int) (b : Int) _).mono ?_
    rw [HOK.out]
    rintro e w1 ⟨rfl, hb1⟩
    have B1 := B0.on hb1
    have L1 := L0.trans (hb1.mono L0.size)
    clear B0 L0 q0 hb1
    go_wp2_with fail
    refine wp_region_noPanic ?_
    refine wp_region_held_drew (S := (fun w' => (w'.cell? ⟨w.heap.size, 0, none⟩ = some (.int .i64 (a : Int)) ∧ w'.cell? ⟨w.heap.size, 1, none⟩ = some (.int .i64 (b : Int))) ∧ Blk w' w.heap.size 31 #[.int .i64 (a : Int), .int .i64 (b : Int)] ∧ Below w.heap.size w w')) (by kernel_rfl) (by exact ⟨⟨B1.at 0, B1.at 1⟩, B1.drew, L1.drew⟩) (fun hHeld => ?_)
    refine take_run 0 (some 6) (v := ?_) rfl rfl (by kernel_rfl) (by kernel_rfl) (by kernel_rfl) (fun _ _ _ h => h) (by rfl) ?_ hHeld ?_
    rotate_left
    · ((intro w hSw); (try dsimp only at hSw); go_simp <;> with_reducible rfl)
    simp only [Act.put, List.setIfInBounds_toArray, List.set_cons_zero, List.set_cons_succ]
    refine take_run 1 (some 7) (v := ?_) rfl rfl (by kernel_rfl) (by kernel_rfl) (by kernel_rfl) (fun _ _ _ h => h) (by rfl) ?_ hHeld ?_
    rotate_left
    · ((intro w hSw); (try dsimp only at hSw); go_simp <;> with_reducible rfl)
    simp only [Act.put, List.setIfInBounds_toArray, List.set_cons_zero, List.set_cons_succ]
    refine take_run 4 (some 10) (v := ?_) rfl rfl (by kernel_rfl) (by kernel_rfl) (by kernel_rfl) (fun _ _ _ h => h) (by rfl) ?_ hHeld ?_
    rotate_left
    · ((intro w hSw); (try dsimp only at hSw); go_simp <;> with_reducible rfl)
    simp only [Act.put, List.setIfInBounds_toArray, List.set_cons_zero, List.set_cons_succ]
    refine take_run 5 (some 11) (v := ?_) rfl rfl (by kernel_rfl) (by kernel_rfl) (by kernel_rfl) (fun _ _ _ h => h) (by rfl) ?_ hHeld ?_
    rotate_left
    · ((intro w hSw); (try dsimp only at hSw); go_simp <;> with_reducible rfl)
    simp only [Act.put, List.setIfInBounds_toArray, List.set_cons_zero, List.set_cons_succ]
    refine take_one 2 (by kernel_rfl) rfl (fun K hK => ?_)
    go_simp
    ((with_reducible refine (itoa_any a (by omega) _ (HT.out.on hHeld.2.2)).mono ?_); rintro e w2 ⟨rfl, hb⟩)
    try go_wp2_with fail
    refine hK.out _ _ (by exact ⟨⟨(hHeld.2.1.on hb).at 0, (hHeld.2.1.on hb).at 1⟩, hHeld.2.1.on hb, hHeld.2.2.trans (hb.mono hHeld.2.2.size)⟩) (fun hHeld => ?_)
    clear hK K
    refine take_run 3 (some 9) (v := ?_) rfl rfl (by kernel_rfl) (by kernel_rfl) (by kernel_rfl) (fun _ _ _ h => h) (by rfl) ?_ hHeld ?_
    rotate_left
    · ((intro w hSw); (try dsimp only at hSw); go_simp <;> with_reducible rfl)
    simp only [Act.put, List.setIfInBounds_toArray, List.set_cons_zero, List.set_cons_succ]
    refine take_one 6 (by kernel_rfl) rfl (fun K hK => ?_)
    go_simp
    ((with_reducible refine (itoa_any b (by omega) _ (HT.out.on hHeld.2.2)).mono ?_); rintro e w3 ⟨rfl, hb⟩)
    try go_wp2_with fail
    refine hK.out _ _ (by exact ⟨⟨(hHeld.2.1.on hb).at 0, (hHeld.2.1.on hb).at 1⟩, hHeld.2.1.on hb, hHeld.2.2.trans (hb.mono hHeld.2.2.size)⟩) (fun hHeld => ?_)
    clear hK K
    refine take_run 7 (some 13) (v := ?_) rfl rfl (by kernel_rfl) (by kernel_rfl) (by kernel_rfl) (fun _ _ _ h => h) (by rfl) ?_ hHeld ?_
    rotate_left
    · ((intro w hSw); (try dsimp only at hSw); go_simp <;> with_reducible rfl)
    simp only [Act.put, List.setIfInBounds_toArray, List.set_cons_zero, List.set_cons_succ]
    refine take_run 8 (some 2) (v := ?_) rfl rfl (by kernel_rfl) (by kernel_rfl) (by kernel_rfl) (fun _ _ _ h => h) (by rfl) ?_ hHeld ?_
    rotate_left
    · ((intro w hSw); (try dsimp only at hSw); go_simp <;> with_reducible rfl)
    simp only [Act.put, List.setIfInBounds_toArray, List.set_cons_zero, List.set_cons_succ]
    refine wpAnyH_done (by kernel_rfl) ?_ _
    refine NoPanic.normal ?_
    have L9 := hHeld.2.2
    clear hHeld
    go_wp2
    go_ret
    exact ⟨by rw [HS.out]; rfl, L9⟩
end Go.Proofs.YtoechhbjfejmjaaDoor
