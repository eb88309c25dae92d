/- The law FnTagPut (promise 3) holds, its card tied: a drawn tag is written as the model writes it, nothing is written of one that is not valid, and what is written reads back. Condition: the library's variables as the program's text lays them, and the shape of memory at the start. -/
import Derived.Test.YtdkpikemlpfepaaDoorTagGetI
import Derived.Test.YtdkpikemlpfepaaDoorTagGetS
import Derived.Test.YtdkpikemlpfepaaDoorDrawTagPut
import Derived.Test.YtdkpikemlpfepaaDoorLift
import Derived.Test.YtdkpikemlpfepaaDoorLift3
import Derived.Test.YtdkpikemlpfepaaDoorCards
import Derived.Test.YtdkpikemlpfepaaDoorTie
import Derived.LaidMore
import Derived.SevenTiedAt
import Derived.ProofKit
import Derived.Stop.Joined
import Derived.Stop.LaidErr
import Derived.Deep.DeepHandedRow
namespace Go.Proofs.YtdkpikemlpfepaaDoor.FnTagPut
open Go.ChangeShapes Go.WideShapes Go.ChangeAt Go.RowKit Go.Joins
attribute [local go_sem ↓] Go.wp_at_zero Go.wp_at_succ

theorem tagS_some (a b : Nat) : (tagS a b).toList.isEmpty = false := by
  rw [ByteArray.toList_eq, tagS_list]
  simp
theorem none_some : (ByteArray.mk #[]).toList.isEmpty = true := by
  rw [ByteArray.toList_eq]
  rfl
set_option maxRecDepth 100000 in
set_option maxHeartbeats 2000000 in
theorem walk (a : Option Addr) (len cap : Nat) (w : World) (hc : Code0 w a len cap) (hL : laidMet Tryd.prog Rows.fnTagPutRow.laid w) (hsh : w.ShapedOpen Tryd.prog) :
    Calls Tryd.prog 3 #[.slice a len cap] w fun e w' => e = .returned (.bool true) ∧ Below w.heap.size w w' := by
  have HT := hide (libOk_of (laidMet.tail (laidMet.tail hL)) hsh)
  clear hL hsh
  by_cases h1 : 1048576 < len
  · have h1' : (1048576 : Int) < (len : Int) := by omega
    go_enter Tryd.func3, Tryd.ntmps3
    go_wp2
    go_ret
    exact ⟨rfl, Below.refl _ _⟩
  have h1' : (len : Int) ≤ 1048576 := by omega
  go_enter Tryd.func3, Tryd.ntmps3
  go_wp2_with fail
  refine (drawTagPut_any w a len cap hc (by omega)).mono ?_
  rintro e w1 ⟨t, u, rfl, hb1⟩
  have S1 := (((Inv.start w).on hb1).top).box 24 #[.int .i64 t, .int .i64 u]
  simp only [World.size_alloc] at S1
  have q1 := (S1.nth 0 rfl).two
  have r1 := S1.room
  clear hb1 hc
  go_wp2_with fail
  refine (implTagPut_any t u _ (HT.out.on S1.below).pow).mono ?_
  rintro e w2 ⟨rfl, hb2⟩
  have S2 := (S1.on hb2)
  have q2 := (S2.nth 0 rfl).two
  clear S1 q1 r1 hb2
  have hss : ((tagP t u).toList == (tagP t u).toList) = true := beq_self_eq_true _
  cases hok : okB t u
  · have HOK := hide hok
    have hem : (tagP t u).toList.isEmpty = true := by rw [tagP_no hok]; exact none_some
    have HSP := hide (fun W => specTagPut_any t u W)
    generalize tagP t u = s at hss hem HSP ⊢
    clear hok
    go_wp2_with fail
    refine wp_region_noPanic ?_
    refine wp_region_held_drew (S := (fun w' => (w'.cell? ⟨w1.heap.size, 0, none⟩ = some (.int .i64 t) ∧ w'.cell? ⟨w1.heap.size, 1, none⟩ = some (.int .i64 u)) ∧ Inv w (w1.heap.size + 1) [(w1.heap.size, 24, #[.int .i64 t, .int .i64 u])] w')) (by kernel_rfl) (by exact ⟨⟨(S2.nth 0 rfl).at 0, (S2.nth 0 rfl).at 1⟩, S2.drew⟩) (fun hHeld => ?_)
    refine take_run 0 (some 14) (v := ?_) rfl rfl (by kernel_rfl) (by kernel_rfl) (by kernel_rfl) (fun _ _ _ h => h) (by rfl) ?_ hHeld ?_
    rotate_left
    · ((intro w hSw); (try dsimp only at hSw); go_simp <;> with_reducible rfl)
    simp only [Act.put, List.setIfInBounds_toArray, List.set_cons_zero, List.set_cons_succ]
    refine take_run 1 (some 15) (v := ?_) rfl rfl (by kernel_rfl) (by kernel_rfl) (by kernel_rfl) (fun _ _ _ h => h) (by rfl) ?_ hHeld ?_
    rotate_left
    · ((intro w hSw); (try dsimp only at hSw); go_simp <;> with_reducible rfl)
    simp only [Act.put, List.setIfInBounds_toArray, List.set_cons_zero, List.set_cons_succ]
    refine take_one 2 (by kernel_rfl) rfl (fun K hK => ?_)
    go_simp
    ((with_reducible refine (HSP.out _).mono ?_); rintro e w3 ⟨rfl, hb⟩)
    try go_wp2_with fail
    refine hK.out _ _ (by exact ⟨⟨((hHeld.2.on hb).nth 0 rfl).at 0, ((hHeld.2.on hb).nth 0 rfl).at 1⟩, hHeld.2.on hb⟩) (fun hHeld => ?_)
    clear hK K
    refine take_run 3 (some 17) (v := ?_) rfl rfl (by kernel_rfl) (by kernel_rfl) (by kernel_rfl) (fun _ _ _ h => h) (by rfl) ?_ hHeld ?_
    rotate_left
    · ((intro w hSw); (try dsimp only at hSw); go_simp <;> with_reducible rfl)
    simp only [Act.put, List.setIfInBounds_toArray, List.set_cons_zero, List.set_cons_succ]
    refine take_run 4 (some 18) (v := ?_) rfl rfl (by kernel_rfl) (by kernel_rfl) (by kernel_rfl) (fun _ _ _ h => h) (by rfl) ?_ hHeld ?_
    rotate_left
    · ((intro w hSw); (try dsimp only at hSw); go_simp <;> with_reducible rfl)
    simp only [Act.put, List.setIfInBounds_toArray, List.set_cons_zero, List.set_cons_succ]
    refine take_run 5 (some 19) (v := ?_) rfl rfl (by kernel_rfl) (by kernel_rfl) (by kernel_rfl) (fun _ _ _ h => h) (by rfl) ?_ hHeld ?_
    rotate_left
    · ((intro w hSw); (try dsimp only at hSw); go_simp <;> with_reducible rfl)
    simp only [Act.put, List.setIfInBounds_toArray, List.set_cons_zero, List.set_cons_succ]
    refine take_run 6 (some 20) (v := ?_) rfl rfl (by kernel_rfl) (by kernel_rfl) (by kernel_rfl) (fun _ _ _ h => h) (by rfl) ?_ hHeld ?_
    rotate_left
    · ((intro w hSw); (try dsimp only at hSw); go_simp <;> with_reducible rfl)
    simp only [Act.put, List.setIfInBounds_toArray, List.set_cons_zero, List.set_cons_succ]
    refine take_run 7 (some 21) (v := ?_) rfl rfl (by kernel_rfl) (by kernel_rfl) (by kernel_rfl) (fun _ _ _ h => h) (by rfl) ?_ hHeld ?_
    rotate_left
    · ((intro w hSw); (try dsimp only at hSw); go_simp <;> with_reducible rfl)
    simp only [Act.put, List.setIfInBounds_toArray, List.set_cons_zero, List.set_cons_succ]
    refine take_one 8 (by kernel_rfl) rfl (fun K hK => ?_)
    go_simp
    ((with_reducible refine (implTagOk_any t u _).mono ?_); rw [HOK.out]; rintro e w4 ⟨rfl, hb⟩)
    try go_wp2_with fail
    refine hK.out _ _ (by exact ⟨⟨((hHeld.2.on hb).nth 0 rfl).at 0, ((hHeld.2.on hb).nth 0 rfl).at 1⟩, hHeld.2.on hb⟩) (fun hHeld => ?_)
    clear hK K
    refine take_run 9 (some 23) (v := ?_) rfl rfl (by kernel_rfl) (by kernel_rfl) (by kernel_rfl) (fun _ _ _ h => h) (by rfl) ?_ hHeld ?_
    rotate_left
    · ((intro w hSw); (try dsimp only at hSw); go_simp <;> with_reducible rfl)
    simp only [Act.put, List.setIfInBounds_toArray, List.set_cons_zero, List.set_cons_succ]
    refine take_run 10 (some 24) (v := ?_) rfl rfl (by kernel_rfl) (by kernel_rfl) (by kernel_rfl) (fun _ _ _ h => h) (by rfl) ?_ hHeld ?_
    rotate_left
    · ((intro w hSw); (try dsimp only at hSw); go_simp <;> with_reducible rfl)
    simp only [Act.put, List.setIfInBounds_toArray, List.set_cons_zero, List.set_cons_succ]
    refine take_run 11 (some 25) (v := ?_) rfl rfl (by kernel_rfl) (by kernel_rfl) (by kernel_rfl) (fun _ _ _ h => h) (by rfl) ?_ hHeld ?_
    rotate_left
    · ((intro w hSw); (try dsimp only at hSw); go_simp <;> with_reducible rfl)
    simp only [Act.put, List.setIfInBounds_toArray, List.set_cons_zero, List.set_cons_succ]
    refine take_run 12 (some 26) (v := ?_) rfl rfl (by kernel_rfl) (by kernel_rfl) (by kernel_rfl) (fun _ _ _ h => h) (by rfl) ?_ hHeld ?_
    rotate_left
    · ((intro w hSw); (try dsimp only at hSw); go_simp <;> with_reducible rfl)
    simp only [Act.put, List.setIfInBounds_toArray, List.set_cons_zero, List.set_cons_succ]
    refine take_run 14 (some 28) (v := ?_) rfl rfl (by kernel_rfl) (by kernel_rfl) (by kernel_rfl) (fun _ _ _ h => h) (by rfl) ?_ hHeld ?_
    rotate_left
    · ((intro w hSw); (try dsimp only at hSw); go_simp <;> with_reducible rfl)
    simp only [Act.put, List.setIfInBounds_toArray, List.set_cons_zero, List.set_cons_succ]
    refine take_one 13 (by kernel_rfl) rfl (fun K hK => ?_)
    go_simp
    ((with_reducible refine (implTagOk_any t u _).mono ?_); rw [HOK.out]; rintro e w5 ⟨rfl, hb⟩)
    try go_wp2_with fail
    refine hK.out _ _ (by exact ⟨⟨((hHeld.2.on hb).nth 0 rfl).at 0, ((hHeld.2.on hb).nth 0 rfl).at 1⟩, hHeld.2.on hb⟩) (fun hHeld => ?_)
    clear hK K
    refine take_one 15 (by kernel_rfl) rfl (fun K hK => ?_)
    go_simp
    ((with_reducible refine (specTagOk_any t u _).mono ?_); rw [HOK.out]; rintro e w6 ⟨rfl, hb⟩)
    try go_wp2_with fail
    refine hK.out _ _ (by exact ⟨⟨((hHeld.2.on hb).nth 0 rfl).at 0, ((hHeld.2.on hb).nth 0 rfl).at 1⟩, hHeld.2.on hb⟩) (fun hHeld => ?_)
    clear hK K
    refine take_run 16 (some 30) (v := ?_) rfl rfl (by kernel_rfl) (by kernel_rfl) (by kernel_rfl) (fun _ _ _ h => h) (by rfl) ?_ hHeld ?_
    rotate_left
    · ((intro w hSw); (try dsimp only at hSw); go_simp <;> with_reducible rfl)
    simp only [Act.put, List.setIfInBounds_toArray, List.set_cons_zero, List.set_cons_succ]
    refine take_run 17 (some 31) (v := ?_) rfl rfl (by kernel_rfl) (by kernel_rfl) (by kernel_rfl) (fun _ _ _ h => h) (by rfl) ?_ hHeld ?_
    rotate_left
    · ((intro w hSw); (try dsimp only at hSw); go_simp <;> with_reducible rfl)
    simp only [Act.put, List.setIfInBounds_toArray, List.set_cons_zero, List.set_cons_succ]
    refine take_run 18 (some 32) (v := ?_) rfl rfl (by kernel_rfl) (by kernel_rfl) (by kernel_rfl) (fun _ _ _ h => h) (by rfl) ?_ hHeld ?_
    rotate_left
    · ((intro w hSw); (try dsimp only at hSw); go_simp <;> with_reducible rfl)
    simp only [Act.put, List.setIfInBounds_toArray, List.set_cons_zero, List.set_cons_succ]
    refine take_run 19 (some 33) (v := ?_) rfl rfl (by kernel_rfl) (by kernel_rfl) (by kernel_rfl) (fun _ _ _ h => h) (by rfl) ?_ hHeld ?_
    rotate_left
    · ((intro w hSw); (try dsimp only at hSw); go_simp <;> with_reducible rfl)
    simp only [Act.put, List.setIfInBounds_toArray, List.set_cons_zero, List.set_cons_succ]
    refine take_run 20 (some 34) (v := ?_) rfl rfl (by kernel_rfl) (by kernel_rfl) (by kernel_rfl) (fun _ _ _ h => h) (by rfl) ?_ hHeld ?_
    rotate_left
    · ((intro w hSw); (try dsimp only at hSw); go_simp <;> with_reducible rfl)
    simp only [Act.put, List.setIfInBounds_toArray, List.set_cons_zero, List.set_cons_succ]
    refine take_run 21 (some 35) (v := ?_) rfl rfl (by kernel_rfl) (by kernel_rfl) (by kernel_rfl) (fun _ _ _ h => h) (by rfl) ?_ hHeld ?_
    rotate_left
    · ((intro w hSw); (try dsimp only at hSw); go_simp <;> with_reducible rfl)
    simp only [Act.put, List.setIfInBounds_toArray, List.set_cons_zero, List.set_cons_succ]
    refine wpAnyH_done (by kernel_rfl) ?_ _
    refine NoPanic.normal ?_
    have S6 := hHeld.2
    have q6 := (S6.nth 0 rfl).two
    clear hHeld S2 q2
    go_wp2_with fail
    refine (HSP.out _).mono ?_
    rintro e w7 ⟨rfl, hb7⟩
    have S7 := S6.on hb7
    have q7 := (S7.nth 0 rfl).two
    clear S6 q6 hb7
    go_wp2_with fail
    refine (implTagOk_any t u _).mono ?_
    rw [HOK.out]
    rintro e w8 ⟨rfl, hb8⟩
    have L8 := hide (S7.on hb8).below
    clear S7 q7 hb8
    go_wp2
    go_ret
    exact ⟨rfl, L8.out⟩
  · obtain ⟨x, y, rfl, rfl, hx, hy⟩ := okB_low hok
    have HOK := hide hok
    have HGR : Hid (GetR (tagP (x : Int) (y : Int)) (x : Int) (y : Int) true) := .inl ⟨rfl, hok, tagP_yes hok⟩
    have hz : (tagP (x : Int) (y : Int)).size ≤ 1048576 := by
      rw [tagP_yes hok]
      have := tagS_size x y
      simp only [Int.toNat_natCast]
      omega
    have hem : (tagP (x : Int) (y : Int)).toList.isEmpty = false := by rw [tagP_yes hok]; exact tagS_some x y
    have HSP := hide (fun W => specTagPut_any (x : Int) (y : Int) W)
    generalize tagP (x : Int) (y : Int) = s at hss HGR hz hem HSP ⊢
    clear hok
    go_wp2_with fail
    refine wp_region_noPanic ?_
    refine wp_region_held_drew (S := (fun w' => (w'.cell? ⟨w1.heap.size, 0, none⟩ = some (.int .i64 (x : Int)) ∧ w'.cell? ⟨w1.heap.size, 1, none⟩ = some (.int .i64 (y : Int))) ∧ Inv w (w1.heap.size + 1) [(w1.heap.size, 24, #[.int .i64 (x : Int), .int .i64 (y : Int)])] w')) (by kernel_rfl) (by exact ⟨⟨(S2.nth 0 rfl).at 0, (S2.nth 0 rfl).at 1⟩, S2.drew⟩) (fun hHeld => ?_)
    refine take_run 0 (some 14) (v := ?_) rfl rfl (by kernel_rfl) (by kernel_rfl) (by kernel_rfl) (fun _ _ _ h => h) (by rfl) ?_ hHeld ?_
    rotate_left
    · ((intro w hSw); (try dsimp only at hSw); go_simp <;> with_reducible rfl)
    simp only [Act.put, List.setIfInBounds_toArray, List.set_cons_zero, List.set_cons_succ]
    refine take_run 1 (some 15) (v := ?_) rfl rfl (by kernel_rfl) (by kernel_rfl) (by kernel_rfl) (fun _ _ _ h => h) (by rfl) ?_ hHeld ?_
    rotate_left
    · ((intro w hSw); (try dsimp only at hSw); go_simp <;> with_reducible rfl)
    simp only [Act.put, List.setIfInBounds_toArray, List.set_cons_zero, List.set_cons_succ]
    refine take_one 2 (by kernel_rfl) rfl (fun K hK => ?_)
    go_simp
    ((with_reducible refine (HSP.out _).mono ?_); rintro e w3 ⟨rfl, hb⟩)
    try go_wp2_with fail
    refine hK.out _ _ (by exact ⟨⟨((hHeld.2.on hb).nth 0 rfl).at 0, ((hHeld.2.on hb).nth 0 rfl).at 1⟩, hHeld.2.on hb⟩) (fun hHeld => ?_)
    clear hK K
    refine take_run 3 (some 17) (v := ?_) rfl rfl (by kernel_rfl) (by kernel_rfl) (by kernel_rfl) (fun _ _ _ h => h) (by rfl) ?_ hHeld ?_
    rotate_left
    · ((intro w hSw); (try dsimp only at hSw); go_simp <;> with_reducible rfl)
    simp only [Act.put, List.setIfInBounds_toArray, List.set_cons_zero, List.set_cons_succ]
    refine take_run 4 (some 18) (v := ?_) rfl rfl (by kernel_rfl) (by kernel_rfl) (by kernel_rfl) (fun _ _ _ h => h) (by rfl) ?_ hHeld ?_
    rotate_left
    · ((intro w hSw); (try dsimp only at hSw); go_simp <;> with_reducible rfl)
    simp only [Act.put, List.setIfInBounds_toArray, List.set_cons_zero, List.set_cons_succ]
    refine take_run 5 (some 19) (v := ?_) rfl rfl (by kernel_rfl) (by kernel_rfl) (by kernel_rfl) (fun _ _ _ h => h) (by rfl) ?_ hHeld ?_
    rotate_left
    · ((intro w hSw); (try dsimp only at hSw); go_simp <;> with_reducible rfl)
    simp only [Act.put, List.setIfInBounds_toArray, List.set_cons_zero, List.set_cons_succ]
    refine take_run 6 (some 20) (v := ?_) rfl rfl (by kernel_rfl) (by kernel_rfl) (by kernel_rfl) (fun _ _ _ h => h) (by rfl) ?_ hHeld ?_
    rotate_left
    · ((intro w hSw); (try dsimp only at hSw); go_simp <;> with_reducible rfl)
    simp only [Act.put, List.setIfInBounds_toArray, List.set_cons_zero, List.set_cons_succ]
    refine take_run 7 (some 21) (v := ?_) rfl rfl (by kernel_rfl) (by kernel_rfl) (by kernel_rfl) (fun _ _ _ h => h) (by rfl) ?_ hHeld ?_
    rotate_left
    · ((intro w hSw); (try dsimp only at hSw); go_simp <;> with_reducible rfl)
    simp only [Act.put, List.setIfInBounds_toArray, List.set_cons_zero, List.set_cons_succ]
    refine take_one 8 (by kernel_rfl) rfl (fun K hK => ?_)
    go_simp
    ((with_reducible refine (implTagOk_any (x : Int) (y : Int) _).mono ?_); rw [HOK.out]; rintro e w4 ⟨rfl, hb⟩)
    try go_wp2_with fail
    refine hK.out _ _ (by exact ⟨⟨((hHeld.2.on hb).nth 0 rfl).at 0, ((hHeld.2.on hb).nth 0 rfl).at 1⟩, hHeld.2.on hb⟩) (fun hHeld => ?_)
    clear hK K
    refine take_run 9 (some 23) (v := ?_) rfl rfl (by kernel_rfl) (by kernel_rfl) (by kernel_rfl) (fun _ _ _ h => h) (by rfl) ?_ hHeld ?_
    rotate_left
    · ((intro w hSw); (try dsimp only at hSw); go_simp <;> with_reducible rfl)
    simp only [Act.put, List.setIfInBounds_toArray, List.set_cons_zero, List.set_cons_succ]
    refine take_run 10 (some 24) (v := ?_) rfl rfl (by kernel_rfl) (by kernel_rfl) (by kernel_rfl) (fun _ _ _ h => h) (by rfl) ?_ hHeld ?_
    rotate_left
    · ((intro w hSw); (try dsimp only at hSw); go_simp <;> with_reducible rfl)
    simp only [Act.put, List.setIfInBounds_toArray, List.set_cons_zero, List.set_cons_succ]
    refine take_run 11 (some 25) (v := ?_) rfl rfl (by kernel_rfl) (by kernel_rfl) (by kernel_rfl) (fun _ _ _ h => h) (by rfl) ?_ hHeld ?_
    rotate_left
    · ((intro w hSw); (try dsimp only at hSw); go_simp <;> with_reducible rfl)
    simp only [Act.put, List.setIfInBounds_toArray, List.set_cons_zero, List.set_cons_succ]
    refine take_run 12 (some 26) (v := ?_) rfl rfl (by kernel_rfl) (by kernel_rfl) (by kernel_rfl) (fun _ _ _ h => h) (by rfl) ?_ hHeld ?_
    rotate_left
    · ((intro w hSw); (try dsimp only at hSw); go_simp <;> with_reducible rfl)
    simp only [Act.put, List.setIfInBounds_toArray, List.set_cons_zero, List.set_cons_succ]
    refine take_run 14 (some 28) (v := ?_) rfl rfl (by kernel_rfl) (by kernel_rfl) (by kernel_rfl) (fun _ _ _ h => h) (by rfl) ?_ hHeld ?_
    rotate_left
    · ((intro w hSw); (try dsimp only at hSw); go_simp <;> with_reducible rfl)
    simp only [Act.put, List.setIfInBounds_toArray, List.set_cons_zero, List.set_cons_succ]
    refine take_one 13 (by kernel_rfl) rfl (fun K hK => ?_)
    go_simp
    ((with_reducible refine (implTagOk_any (x : Int) (y : Int) _).mono ?_); rw [HOK.out]; rintro e w5 ⟨rfl, hb⟩)
    try go_wp2_with fail
    refine hK.out _ _ (by exact ⟨⟨((hHeld.2.on hb).nth 0 rfl).at 0, ((hHeld.2.on hb).nth 0 rfl).at 1⟩, hHeld.2.on hb⟩) (fun hHeld => ?_)
    clear hK K
    refine take_one 15 (by kernel_rfl) rfl (fun K hK => ?_)
    go_simp
    ((with_reducible refine (specTagOk_any (x : Int) (y : Int) _).mono ?_); rw [HOK.out]; rintro e w6 ⟨rfl, hb⟩)
    try go_wp2_with fail
    refine hK.out _ _ (by exact ⟨⟨((hHeld.2.on hb).nth 0 rfl).at 0, ((hHeld.2.on hb).nth 0 rfl).at 1⟩, hHeld.2.on hb⟩) (fun hHeld => ?_)
    clear hK K
    refine take_run 16 (some 30) (v := ?_) rfl rfl (by kernel_rfl) (by kernel_rfl) (by kernel_rfl) (fun _ _ _ h => h) (by rfl) ?_ hHeld ?_
    rotate_left
    · ((intro w hSw); (try dsimp only at hSw); go_simp <;> with_reducible rfl)
    simp only [Act.put, List.setIfInBounds_toArray, List.set_cons_zero, List.set_cons_succ]
    refine take_run 17 (some 31) (v := ?_) rfl rfl (by kernel_rfl) (by kernel_rfl) (by kernel_rfl) (fun _ _ _ h => h) (by rfl) ?_ hHeld ?_
    rotate_left
    · ((intro w hSw); (try dsimp only at hSw); go_simp <;> with_reducible rfl)
    simp only [Act.put, List.setIfInBounds_toArray, List.set_cons_zero, List.set_cons_succ]
    refine take_run 18 (some 32) (v := ?_) rfl rfl (by kernel_rfl) (by kernel_rfl) (by kernel_rfl) (fun _ _ _ h => h) (by rfl) ?_ hHeld ?_
    rotate_left
    · ((intro w hSw); (try dsimp only at hSw); go_simp <;> with_reducible rfl)
    simp only [Act.put, List.setIfInBounds_toArray, List.set_cons_zero, List.set_cons_succ]
    refine take_run 19 (some 33) (v := ?_) rfl rfl (by kernel_rfl) (by kernel_rfl) (by kernel_rfl) (fun _ _ _ h => h) (by rfl) ?_ hHeld ?_
    rotate_left
    · ((intro w hSw); (try dsimp only at hSw); go_simp <;> with_reducible rfl)
    simp only [Act.put, List.setIfInBounds_toArray, List.set_cons_zero, List.set_cons_succ]
    refine take_run 20 (some 34) (v := ?_) rfl rfl (by kernel_rfl) (by kernel_rfl) (by kernel_rfl) (fun _ _ _ h => h) (by rfl) ?_ hHeld ?_
    rotate_left
    · ((intro w hSw); (try dsimp only at hSw); go_simp <;> with_reducible rfl)
    simp only [Act.put, List.setIfInBounds_toArray, List.set_cons_zero, List.set_cons_succ]
    refine take_run 21 (some 35) (v := ?_) rfl rfl (by kernel_rfl) (by kernel_rfl) (by kernel_rfl) (fun _ _ _ h => h) (by rfl) ?_ hHeld ?_
    rotate_left
    · ((intro w hSw); (try dsimp only at hSw); go_simp <;> with_reducible rfl)
    simp only [Act.put, List.setIfInBounds_toArray, List.set_cons_zero, List.set_cons_succ]
    refine wpAnyH_done (by kernel_rfl) ?_ _
    refine NoPanic.normal ?_
    have S6 := hHeld.2
    have q6 := (S6.nth 0 rfl).two
    clear hHeld S2 q2
    go_wp2_with fail
    refine (implTagGet_any s hz _ (HT.out.on S6.below)).mono ?_
    rintro e w7 ⟨t', u', ok', rfl, hG, hb7⟩
    obtain ⟨rfl, rfl, rfl⟩ := getR_one HGR.out hG
    have S7 := ((S6.on hb7).top).box 24 #[.int .i64 (x : Int), .int .i64 (y : Int)]
    have q7 := (S7.nth 0 rfl).two
    have q8 := (S7.nth 1 rfl).two
    have L7 := hide S7.below
    clear S6 q6 hb7 hG S7
    go_wp2
    go_ret
    exact ⟨rfl, L7.out⟩

theorem door_met (os : Os) (args : Array Value) : laidMetH Tryd.prog Rows.fnTagPutRow.laid ((World.doorLaid Tryd.prog 62 os).forCall (fun _ _ => 0) ⟨#[], args, []⟩).memory :=
  laidMetH_of_parts3 (fuel := 8) (laidMet_of_run' 8 (by kernel_rfl) (by kernel_rfl)) (by kernel_rfl) (by kernel_rfl)
set_option maxRecDepth 100000 in
theorem lifted (os : Os) (started : os.Started) (H : Type) (enc : TypeId × Value → H) :
    ReturnsInHanded {} Tryd.checked os 3 .any (fun w args => (Rows.fnTagPutSpec.pre enc Tryd.prog Tryd.f3 [] false w args ∧ laidMetH Tryd.prog Rows.fnTagPutRow.laid w) ∧ sizedMet enc Tryd.prog Tryd.f3 (OpenSpec.ofChange Rows.fnTagPutSpec) false w args) (Rows.fnTagPutSpec.post enc Tryd.prog Tryd.f3 false true false false) := by
  refine returnsInHanded_of_row (C := Tryd.checked) (s := OpenSpec.ofChange Rows.fnTagPutSpec) (F := default) (conds := []) (apart := false) (laid := Rows.fnTagPutRow.laid) own started (by kernel_rfl) Tryd.func3
    (ChangeSpec.witness_shaped (enc := enc) (C := Tryd.checked) (os := os) (X := fun w _ => laidMetH Tryd.prog Rows.fnTagPutRow.laid w) false (World.doorLaid Tryd.prog 62 os) #[.slice none 0 0] 8 rfl (World.shaped_of_RefB (by kernel_rfl) (by kernel_rfl)) (by kernel_rfl) (by kernel_rfl) (by kernel_rfl) (door_met os _)) ?_
  intro W base args ds gs before hval0 hW hcnd _ _ hL hsh _
  rw [MakeChecks.laidMetH_plain _ _ _ (by kernel_rfl)] at hL
  have hval : ∀ (j : Nat) t v, Tryd.f3.params[j]? = some t → args[j]? = some v → Value.okWide Tryd.prog W .any base t v := hval0
  have hW' := hW
  obtain ⟨p, q, hA0, hV, rfl, hfz, hnd⟩ := hW
  have hA : DataW.TrodAll enc Tryd.prog W 0 (fun _ => true) true Tryd.f3.params.toList args.toList ds p := hA0
  rw [Tryd.params3] at hA hval
  have hK := hA
  obtain ⟨v0, vs0, d0, ds0, p0, q0, hargs, rfl, rfl, h0, r0⟩ := trodAll_cons hA
  obtain ⟨rfl, rfl, rfl⟩ := trodAll_nil r0
  obtain rfl : args = #[v0] := by cases args; simp_all
  obtain ⟨rfl, rfl⟩ := trodVars_none hV
  obtain ⟨a0, len0, cap0, rfl, b0⟩ := read_bytes (hval 0 22 v0 rfl rfl) h0
  clear hA0 hval0
  refine (walk a0 len0 cap0 W b0 hL hsh).mono fun e W' ⟨he, hb⟩ => ?_
  subst he
  have hK' := stay_all hb (by intro t ht; simp only [List.mem_cons, List.not_mem_nil, or_false] at ht; rcases ht with rfl <;> exact ⟨by kernel_rfl, of_decide_eq_true (by kernel_rfl)⟩) hK
  exact ⟨_, rfl, _, _, _, [], _, [], hW', trodAll_mk1 (shut_bool Tryd.underlying4 _), hK', rfl, hb.frame _, fun h => by cases h⟩

theorem over : Rows.fnTagPutRow.holds Tryd.pinned (OpenSpec.ofChange Rows.fnTagPutSpec) :=
  OpenClaim.holds_of_wide 3 Tryd.f3 rfl rfl rfl rfl rfl rfl rfl ⟨rfl, rfl, rfl, rfl, rfl⟩ rfl rfl rfl rfl rfl (by kernel_rfl) Tryd.func3
    (by refine joined_of ?_; kernel_rfl) (of_decide_eq_true (by kernel_rfl)) (by unfold Func.isWrapper; first | (rw [if_pos (by decide +kernel)]; kernel_rfl) | (rw [if_neg (by decide +kernel)]; exact ⟨rfl, rfl⟩))
    (fun os started H enc _ => lifted os started H enc)
end Go.Proofs.YtdkpikemlpfepaaDoor.FnTagPut
namespace Go.Proofs.YtdkpikemlpfepaaDoor
/-- The statement itself. -/
theorem fnTagPutCard_holds : Rows.FnTagPutCardSaid :=
  Claim7.holds_tied_plain_at .later [] [.data, .data, .data, .sentinel, .sentinel] true (true, "d604b7b51d792cb05d2a01707f3782b407ed3bd368d013bec6fcf71cb6f212ca") true
    FnTagPut.over (fun _ h => by cases h) (by kernel_rfl) (fun _ h => by cases h) fnTagPut_row_tie rfl ⟨rfl, rfl⟩ (by kernel_rfl) rfl
    (fun f fn hf hfn => by
      obtain rfl : f = 3 := Option.some.inj ((show Tryd.prog.funcNamed "loop.example/confluence/laws.FnTagPut" = some 3 by kernel_rfl).symm.trans hf) |>.symm
      obtain rfl : fn = Tryd.f3 := (Option.some.inj (Tryd.func3.symm.trans hfn)).symm
      exact ⟨by kernel_rfl, fun j t ht => by
        rw [Tryd.params3] at ht
        have hm : t ∈ [22] := by simpa using Array.mem_of_getElem? ht
        have hall : ([22].all fun u => !Tryd.prog.wantsStandIn u) = true := by kernel_rfl
        exact (show Tryd.prog.wantsStandIn t = false by simpa using List.all_eq_true.1 hall t hm)⟩)
    (by kernel_rfl)
#print axioms fnTagPutCard_holds
end Go.Proofs.YtdkpikemlpfepaaDoor
namespace Go.Proofs.YtdkpikemlpfepaaDoor.FnTagPut
end Go.Proofs.YtdkpikemlpfepaaDoor.FnTagPut
