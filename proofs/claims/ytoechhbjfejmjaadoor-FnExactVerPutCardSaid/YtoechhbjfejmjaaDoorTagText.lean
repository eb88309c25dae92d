/- How the model writes a tag. Condition: numbers that are not negative. -/
import Derived.Test.YtoechhbjfejmjaaDoorDec
namespace Go.Proofs.YtoechhbjfejmjaaDoor
open Go.RowKit Go.Joins
attribute [local go_sem ↓] Go.wp_at_zero Go.wp_at_succ

/-- A tag as it is written. -/
def tagS (t u : Nat) : ByteArray := decS t ++ ⟨#[46]⟩ ++ decS u
theorem tagS_size (t u : Nat) : (tagS t u).size ≤ t + u + 3 := by
  unfold tagS
  rw [ByteArray.size_append, ByteArray.size_append]
  have := decS_size t
  have := decS_size u
  have : (ByteArray.mk #[46]).size = 1 := rfl
  omega
set_option maxRecDepth 100000 in
set_option maxHeartbeats 2000000 in
theorem l1Put_any (t u : Nat) (ht : t ≤ 1000000) (hu : u ≤ 1000000) (w : World) : Calls Tryd.prog 40 #[.agg #[.int .i64 (t : Int), .int .i64 (u : Int)]] w fun e w' => e = .returned (.string (tagS t u)) ∧ Below w.heap.size w w' := by
  have L0 := below_alloc1 w (.cells #[.int .i64 (t : Int), .int .i64 (u : Int)] 31)
  have B0 := Blk.made w 31 #[.int .i64 (t : Int), .int .i64 (u : Int)]
  have z1 := decS_size t
  have z2 := decS_size u
  have hz1 : ¬ (9223372036854775807 < (decS t).size + 1) := by omega
  have hz2 : ¬ (9223372036854775807 < (decS t).size + 1 + (decS u).size) := by omega
  have HS : Hid (tagS t u = decS t ++ ⟨#[46]⟩ ++ decS u) := rfl
  clear z1 z2
  go_enter Tryd.func40, Tryd.ntmps40
  go_wp2_with fail
  generalize w.alloc (.cells #[.int .i64 (t : Int), .int .i64 (u : Int)] 31) = W at L0 B0 ⊢
  refine wp_region_noPanic ?_
  refine wp_region_held_drew (S := (fun w' => (w'.cell? ⟨w.heap.size, 0, none⟩ = some (.int .i64 (t : Int)) ∧ w'.cell? ⟨w.heap.size, 1, none⟩ = some (.int .i64 (u : Int))) ∧ Blk w' w.heap.size 31 #[.int .i64 (t : Int), .int .i64 (u : Int)] ∧ Below w.heap.size w w')) (by kernel_rfl) (by exact ⟨⟨B0.at 0, B0.at 1⟩, B0.drew, L0.drew⟩) (fun hHeld => ?_)
  refine take_run 0 (some 3) (v := ?_) rfl rfl (by kernel_rfl) (by kernel_rfl) (by kernel_rfl) (fun _ _ _ h => h) (by rfl) ?_ hHeld ?_
  rotate_left
  · ((intro w hSw); (try dsimp only at hSw); go_simp <;> with_reducible rfl)
  simp only [Act.put, List.setIfInBounds_toArray, List.set_cons_zero, List.set_cons_succ]
  refine take_run 1 (some 4) (v := ?_) rfl rfl (by kernel_rfl) (by kernel_rfl) (by kernel_rfl) (fun _ _ _ h => h) (by rfl) ?_ hHeld ?_
  rotate_left
  · ((intro w hSw); (try dsimp only at hSw); go_simp <;> with_reducible rfl)
  simp only [Act.put, List.setIfInBounds_toArray, List.set_cons_zero, List.set_cons_succ]
  refine take_run 4 (some 7) (v := ?_) rfl rfl (by kernel_rfl) (by kernel_rfl) (by kernel_rfl) (fun _ _ _ h => h) (by rfl) ?_ hHeld ?_
  rotate_left
  · ((intro w hSw); (try dsimp only at hSw); go_simp <;> with_reducible rfl)
  simp only [Act.put, List.setIfInBounds_toArray, List.set_cons_zero, List.set_cons_succ]
  refine take_run 5 (some 8) (v := ?_) rfl rfl (by kernel_rfl) (by kernel_rfl) (by kernel_rfl) (fun _ _ _ h => h) (by rfl) ?_ hHeld ?_
  rotate_left
  · ((intro w hSw); (try dsimp only at hSw); go_simp <;> with_reducible rfl)
  simp only [Act.put, List.setIfInBounds_toArray, List.set_cons_zero, List.set_cons_succ]
  refine take_one 2 (by kernel_rfl) rfl (fun K hK => ?_)
  go_simp
  ((with_reducible refine (l1Dec_any t ht _).mono ?_); rintro e w1 ⟨rfl, hb⟩)
  try go_wp2_with fail
  refine hK.out _ _ (by exact ⟨⟨(hHeld.2.1.on hb).at 0, (hHeld.2.1.on hb).at 1⟩, hHeld.2.1.on hb, hHeld.2.2.trans (hb.mono hHeld.2.2.size)⟩) (fun hHeld => ?_)
  clear hK K
  refine take_run 3 (some 6) (v := ?_) rfl rfl (by kernel_rfl) (by kernel_rfl) (by kernel_rfl) (fun _ _ _ h => h) (by rfl) ?_ hHeld ?_
  rotate_left
  · ((intro w hSw); (try dsimp only at hSw); go_simp <;> with_reducible rfl)
  simp only [Act.put, List.setIfInBounds_toArray, List.set_cons_zero, List.set_cons_succ]
  refine take_one 6 (by kernel_rfl) rfl (fun K hK => ?_)
  go_simp
  ((with_reducible refine (l1Dec_any u hu _).mono ?_); rintro e w2 ⟨rfl, hb⟩)
  try go_wp2_with fail
  refine hK.out _ _ (by exact ⟨⟨(hHeld.2.1.on hb).at 0, (hHeld.2.1.on hb).at 1⟩, hHeld.2.1.on hb, hHeld.2.2.trans (hb.mono hHeld.2.2.size)⟩) (fun hHeld => ?_)
  clear hK K
  refine take_run 7 (some 10) (v := ?_) rfl rfl (by kernel_rfl) (by kernel_rfl) (by kernel_rfl) (fun _ _ _ h => h) (by rfl) ?_ hHeld ?_
  rotate_left
  · ((intro w hSw); (try dsimp only at hSw); go_simp <;> with_reducible rfl)
  simp only [Act.put, List.setIfInBounds_toArray, List.set_cons_zero, List.set_cons_succ]
  refine take_run 8 (some 2) (v := ?_) rfl rfl (by kernel_rfl) (by kernel_rfl) (by kernel_rfl) (fun _ _ _ h => h) (by rfl) ?_ hHeld ?_
  rotate_left
  · ((intro w hSw); (try dsimp only at hSw); go_simp <;> with_reducible rfl)
  simp only [Act.put, List.setIfInBounds_toArray, List.set_cons_zero, List.set_cons_succ]
  refine wpAnyH_done (by kernel_rfl) ?_ _
  refine NoPanic.normal ?_
  have L9 := hHeld.2.2
  clear hHeld
  go_wp2
  go_ret
  exact ⟨by rw [HS.out]; rfl, L9⟩
end Go.Proofs.YtoechhbjfejmjaaDoor
