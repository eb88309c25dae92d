/- Contracts of the laws' functions that mark versions without causes, and find the marks again. Condition: at most 100000 versions. -/
import Derived.Test.YtcfhnhiodpinmaaMarkText
import Derived.Test.YtcfhnhiodpinmaaPastMark
namespace Go.Proofs.Ytcfhnhiodpinmaa
open Go.RowKit Go.Joins

/-- The mark of the j-th version. -/
def markV (k : Int) (j : Nat) (c : Nat) : V := ⟨k + 5 * (j : Int), k + 5 * (j : Int) + 1, k + 5 * (j : Int) + 2, none, c, [], markT (k + 5 * (j : Int) + 3), (k + 5 * (j : Int) + 4) % 3 == 0⟩

set_option maxHeartbeats 1000000 in
theorem markTagS_nil (a : Option Addr) (c : Nat) (k : Int) (W : World) :
    Calls Try.prog 38 #[.slice a 0 c, .int .i64 k] W fun e w' => e = .returned (.int .i64 k) ∧ W = w' := by
  go_enter Try.func38, Try.ntmps38
  go_wp2
  go_loop [1, 5] (fun v i => v = .int .i64 k ∧ i = .int .i64 0) (fun _ _ => 0)
  case atStart => exact ⟨rfl, rfl⟩
  case round =>
    obtain ⟨rfl, rfl⟩ := hrel
    go_wp2
    go_ret
    exact ⟨rfl, rfl⟩
set_option maxHeartbeats 1000000 in
theorem heldTagS_nil (a : Option Addr) (c : Nat) (k : Int) (W : World) :
    Calls Try.prog 39 #[.slice a 0 c, .int .i64 k] W fun e w' => e = .returned (.int .i64 k) ∧ W = w' := by
  go_enter Try.func39, Try.ntmps39
  go_wp2
  go_loop [1, 5] (fun v i => v = .int .i64 k ∧ i = .int .i64 0) (fun _ _ => 0)
  case atStart => exact ⟨rfl, rfl⟩
  case round =>
    obtain ⟨rfl, rfl⟩ := hrel
    go_wp2
    go_ret
    exact ⟨rfl, rfl⟩

theorem mark_step {cr cr3 : Array Value} {j n : Nat} {k : Int} (hcr : ((cr.setIfInBounds (j * 6) (.int .i64 (k + 5 * (j : Int)))).setIfInBounds (j * 6 + 1) (.int .i64 (k + 5 * (j : Int) + 1))).setIfInBounds (j * 6 + 1 + 1) (.int .i64 (k + 5 * (j : Int) + 1 + 1)) = cr3)
    (hsz : cr.size = n * 6) (hj : j < n) (hA : ∀ i, i < j → VerAt cr i (markV k i 0)) (hB : ∀ i, i < n → cr[i * 6 + 3]? = some (.slice none 0 0)) :
    (∀ i, i < j + 1 → VerAt ((cr3.setIfInBounds (j * 6 + 4) (.string (markT (k + 5 * (j : Int) + 1 + 1 + 1)))).setIfInBounds (j * 6 + 5) (.bool ((k + 5 * (j : Int) + 1 + 1 + 1 + 1) % 3 == 0))) i (markV k i 0)) ∧
    ∀ i, i < n → ((cr3.setIfInBounds (j * 6 + 4) (.string (markT (k + 5 * (j : Int) + 1 + 1 + 1)))).setIfInBounds (j * 6 + 5) (.bool ((k + 5 * (j : Int) + 1 + 1 + 1 + 1) % 3 == 0)))[i * 6 + 3]? = some (.slice none 0 0) := by
  subst hcr
  have e2 : k + 5 * (j : Int) + 1 + 1 = k + 5 * (j : Int) + 2 := by omega
  have e3 : k + 5 * (j : Int) + 2 + 1 = k + 5 * (j : Int) + 3 := by omega
  have e4 : k + 5 * (j : Int) + 3 + 1 = k + 5 * (j : Int) + 4 := by omega
  rw [e2, e3, e4]
  refine ⟨fun i hi => ?_, fun i hi => ?_⟩
  · by_cases e : i = j
    · subst e
      have h3 := hB i hj
      refine ⟨?_, ?_, ?_, ?_, ?_, ?_⟩
      all_goals
        simp only [Array.getElem?_setIfInBounds, Array.size_setIfInBounds]
        repeat first | rw [if_pos trivial] | rw [if_neg (by omega)] | rw [if_pos (by omega)]
        first | rfl | exact h3
    · obtain ⟨q0, q1, q2, q3, q4, q5⟩ := hA i (by omega)
      refine ⟨?_, ?_, ?_, ?_, ?_, ?_⟩
      all_goals
        simp only [Array.getElem?_setIfInBounds, Array.size_setIfInBounds]
        repeat rw [if_neg (by omega)]
        assumption
  · have h3 := hB i hi
    simp only [Array.getElem?_setIfInBounds, Array.size_setIfInBounds]
    repeat rw [if_neg (by omega)]
    exact h3
/-- What markVerS leaves. -/
def MarkedVS (w : World) (G n : Nat) (k : Int) (e : Ending) (w' : World) : Prop :=
  e = .returned (.int .i64 (k + 5 * (n : Int))) ∧ (∃ cur, Blk w' G 47 cur ∧ cur.size = n * 6 ∧ ∀ j, j < n → VerAt cur j (markV k j 0)) ∧ w.grownBy w' (some G)

set_option maxRecDepth 100000 in
set_option maxHeartbeats 2000000 in
theorem markVerS_bare (G c n : Nat) (cur : Array Value) (k : Int) (w : World) (hB : Blk w G 47 cur) (hs : cur.size = n * 6) (hn : n ≤ 100000) (hk0 : 1 ≤ k) (hk : k ≤ 100000)
    (hbare : ∀ j, j < n → cur[j * 6 + 3]? = some (.slice none 0 0)) :
    Calls Try.prog 47 #[.slice (some ⟨G, 0, none⟩) n c, .int .i64 k] w (MarkedVS w G n k) := by
  have HBA := hide hbare
  clear hbare
  go_enter Try.func47, Try.ntmps47
  go_wp2
  go_loopw [1, 5] (fun v i wr => ∃ (j : Nat) (cr : Array Value), j ≤ n ∧ i = .int .i64 (j : Int) ∧ v = .int .i64 (k + 5 * (j : Int)) ∧ Blk wr G 47 cr ∧ cr.size = n * 6 ∧ Hid ((∀ i, i < j → VerAt cr i (markV k i 0)) ∧ ∀ i, i < n → cr[i * 6 + 3]? = some (.slice none 0 0)) ∧ w.grownBy wr (some G)) (fun _ i _ => n - (intOf i).toNat)
  case atStart => exact ⟨0, cur, Nat.zero_le _, rfl, by simp, hB, hs, ⟨fun i hi => absurd hi (by omega), HBA.out⟩, World.grownBy.refl _ _⟩
  case round =>
    obtain ⟨j, cr, hj, rfl, rfl, hC, hsz, hall, hG⟩ := hrel
    by_cases hlt : j < n
    · have hs0 : j * 6 < cr.size := by omega
      have hs1 : j * 6 + 1 < cr.size := by omega
      have hs2 : j * 6 + 2 < cr.size := by omega
      have hs4 : j * 6 + 4 < cr.size := by omega
      have hs5 : j * 6 + 5 < cr.size := by omega
      have d0 : wr.cell? ⟨G, j * 6, none⟩ = some cr[j * 6] := by rw [hC.at]; exact Array.getElem?_eq_getElem hs0
      have d1 : wr.cell? ⟨G, j * 6 + 1, none⟩ = some cr[j * 6 + 1] := by rw [hC.at]; exact Array.getElem?_eq_getElem hs1
      have d2 : wr.cell? ⟨G, j * 6 + 2, none⟩ = some cr[j * 6 + 2] := by rw [hC.at]; exact Array.getElem?_eq_getElem hs2
      have d3 : wr.cell? ⟨G, j * 6 + 3, none⟩ = some (.slice none 0 0) := by rw [hC.at]; exact hall.out.2 j hlt
      have f0 := hC.loose (j * 6)
      have f1 := hC.loose (j * 6 + 1)
      have f2 := hC.loose (j * 6 + 2)
      have C2 := ((hC.put (j * 6) (.int .i64 (k + 5 * (j : Int)))).put (j * 6 + 1) (.int .i64 (k + 5 * (j : Int) + 1))).put (j * 6 + 1 + 1) (.int .i64 (k + 5 * (j : Int) + 1 + 1))
      have G2 := grown_own (i := j * 6 + 1 + 1) (grown_own (i := j * 6 + 1) (grown_own (i := j * 6) hG (.int .i64 (k + 5 * (j : Int)))) (.int .i64 (k + 5 * (j : Int) + 1))) (.int .i64 (k + 5 * (j : Int) + 1 + 1))
      go_wp2_with fail
      generalize (((wr.setCell ⟨G, j * 6, none⟩ (.int .i64 (k + 5 * (j : Int)))).setCell ⟨G, j * 6 + 1, none⟩ (.int .i64 (k + 5 * (j : Int) + 1))).setCell ⟨G, j * 6 + 1 + 1, none⟩ (.int .i64 (k + 5 * (j : Int) + 1 + 1))) = W3 at C2 G2 ⊢
      refine (markTagS_nil _ _ _ _).mono ?_
      rintro e w1 ⟨rfl, rfl⟩
      clear d0 d1 d2 d3 f0 f1 f2 hC hG
      go_wp2_with fail
      refine (markText_any _ _ (by omega) (by omega)).mono ?_
      rintro e w2 ⟨rfl, hb2⟩
      have C3 := C2.on hb2
      have G3 := G2.trans (grown_none (row := some G) hb2)
      generalize hcr : ((cr.setIfInBounds (j * 6) (.int .i64 (k + 5 * (j : Int)))).setIfInBounds (j * 6 + 1) (.int .i64 (k + 5 * (j : Int) + 1))).setIfInBounds (j * 6 + 1 + 1) (.int .i64 (k + 5 * (j : Int) + 1 + 1)) = cr3 at C3
      have hsz3 : cr3.size = n * 6 := by rw [← hcr]; simp [hsz]
      have HCR := hide hcr
      have hs4' : j * 6 + 4 < cr3.size := by omega
      have hs5' : j * 6 + 5 < cr3.size := by omega
      have d4 : w2.cell? ⟨G, j * 6 + 4, none⟩ = some cr3[j * 6 + 4] := by rw [C3.at]; exact Array.getElem?_eq_getElem hs4'
      have d5 : w2.cell? ⟨G, j * 6 + 5, none⟩ = some cr3[j * 6 + 5] := by rw [C3.at]; exact Array.getElem?_eq_getElem hs5'
      have f4 := C3.loose (j * 6 + 4)
      have f5 := C3.loose (j * 6 + 5)
      have HS := hide (mark_step (k := k) hcr hsz hlt hall.out.1 hall.out.2)
      clear hcr C2 G2 hall
      go_wp2
      exact ⟨⟨j + 1, _, by omega, by go_num, int_val (by omega), (C3.put _ _).put _ _, by simp [hsz3], HS, grown_own (grown_own G3 _) _⟩, by simp [intOf]; omega⟩
    · have hjn : j = n := by omega
      subst hjn
      clear hlt
      go_wp2
      go_ret
      exact ⟨rfl, ⟨cr, hC, hsz, hall.out.1⟩, hG⟩

set_option maxRecDepth 100000 in
set_option maxHeartbeats 2000000 in
theorem heldVerS_bare (G c n : Nat) (cur : Array Value) (k : Int) (w : World) (hB : Blk w G 47 cur) (hn : n ≤ 100000) (hk0 : 1 ≤ k) (hk : k ≤ 100000)
    (hm : ∀ j, j < n → VerAt cur j (markV k j 0)) :
    Calls Try.prog 48 #[.slice (some ⟨G, 0, none⟩) n c, .int .i64 k] w fun e w' => e = .returned (.int .i64 (k + 5 * (n : Int))) ∧ Below w.heap.size w w' := by
  have HM := hide hm
  clear hm
  have hin := hB.inside
  go_enter Try.func48, Try.ntmps48
  go_wp2
  go_loopw [1, 5] (fun v i wr => ∃ (j : Nat), j ≤ n ∧ i = .int .i64 (j : Int) ∧ v = .int .i64 (k + 5 * (j : Int)) ∧ Below w.heap.size w wr) (fun _ i _ => n - (intOf i).toNat)
  case atStart => exact ⟨0, Nat.zero_le _, rfl, by simp, Below.refl _ _⟩
  case round =>
    obtain ⟨j, hj, rfl, rfl, hL⟩ := hrel
    have C0 := hB.on hL
    by_cases hlt : j < n
    · obtain ⟨q0, q1, q2, q3, q4, q5⟩ := HM.out j hlt
      have e2 : k + 5 * (j : Int) + 2 = k + 5 * (j : Int) + 1 + 1 := by omega
      have e3 : k + 5 * (j : Int) + 3 = k + 5 * (j : Int) + 1 + 1 + 1 := by omega
      have e4 : k + 5 * (j : Int) + 4 = k + 5 * (j : Int) + 1 + 1 + 1 + 1 := by omega
      unfold markV at q0 q1 q2 q3 q4 q5
      simp only [e2, e3, e4, List.length_nil] at q0 q1 q2 q3 q4 q5
      have d0 := (C0.at (j * 6)).trans q0
      have d1 := (C0.at (j * 6 + 1)).trans q1
      have d2 := (C0.at (j * 6 + 2)).trans q2
      have d3 := (C0.at (j * 6 + 3)).trans q3
      have Q4 := hide q4
      have Q5 := hide q5
      clear q0 q1 q2 q3 q4 q5 e2 e3 e4
      have i1 : (0 : Int) ≤ (j : Int) := by omega
      have i2 : (j : Int) < (n : Int) := by omega
      go_wp2_with fail
      refine (heldTagS_nil _ _ _ _).mono ?_
      rintro e w1 ⟨rfl, rfl⟩
      have hpos : ¬ (k + 5 * (j : Int) + 1 + 1 + 1 < 0) := by omega
      go_wp2_with fail
      refine wp_region_noPanic ?_
      refine wp_region_held_drew (S := (fun w' => w'.cell? ⟨G, j * 6 + 4, none⟩ = some (.string (markT (k + 5 * (j : Int) + 1 + 1 + 1))) ∧ Below w.heap.size w w')) (by kernel_rfl) (by exact ⟨(C0.at (j * 6 + 4)).trans Q4.out, hL.drew⟩) (fun hHeld => ?_)
      refine take_run 0 (some 51) (v := ?_) rfl rfl (by kernel_rfl) (by kernel_rfl) (by kernel_rfl) (fun _ _ _ h => h) (by rfl) ?_ hHeld ?_
      rotate_left
      · ((intro w hSw); (try dsimp only at hSw); go_simp <;> with_reducible rfl)
      simp only [Act.put, List.setIfInBounds_toArray, List.set_cons_zero, List.set_cons_succ]
      refine take_run 1 (some 52) (v := ?_) rfl rfl (by kernel_rfl) (by kernel_rfl) (by kernel_rfl) (fun _ _ _ h => h) (by rfl) ?_ hHeld ?_
      rotate_left
      · ((intro w hSw); (try dsimp only at hSw); go_simp <;> with_reducible rfl)
      simp only [Act.put, List.setIfInBounds_toArray, List.set_cons_zero, List.set_cons_succ]
      refine take_run 2 (some 53) (v := ?_) rfl rfl (by kernel_rfl) (by kernel_rfl) (by kernel_rfl) (fun _ _ _ h => h) (by rfl) ?_ hHeld ?_
      rotate_left
      · ((intro w hSw); (try dsimp only at hSw); go_simp <;> with_reducible rfl)
      simp only [Act.put, List.setIfInBounds_toArray, List.set_cons_zero, List.set_cons_succ]
      refine take_run 3 (some 54) (v := ?_) rfl rfl (by kernel_rfl) (by kernel_rfl) (by kernel_rfl) (fun _ _ _ h => h) (by rfl) ?_ hHeld ?_
      rotate_left
      · ((intro w hSw); (try dsimp only at hSw); go_simp <;> with_reducible rfl)
      simp only [Act.put, List.setIfInBounds_toArray, List.set_cons_zero, List.set_cons_succ]
      refine take_run 4 (some 55) (v := ?_) rfl rfl (by kernel_rfl) (by kernel_rfl) (by kernel_rfl) (fun _ _ _ h => h) (by rfl) ?_ hHeld ?_
      rotate_left
      · ((intro w hSw); (try dsimp only at hSw); go_simp <;> with_reducible rfl)
      simp only [Act.put, List.setIfInBounds_toArray, List.set_cons_zero, List.set_cons_succ]
      refine take_run 5 (some 56) (v := ?_) rfl rfl (by kernel_rfl) (by kernel_rfl) (by kernel_rfl) (fun _ _ _ h => h) (by rfl) ?_ hHeld ?_
      rotate_left
      · ((intro w hSw); (try dsimp only at hSw); go_simp <;> with_reducible rfl)
      simp only [Act.put, List.setIfInBounds_toArray, List.set_cons_zero, List.set_cons_succ]
      refine take_one 6 (by kernel_rfl) rfl (fun K hK => ?_)
      go_simp
      (refine (markText_any _ _ (by omega) (by omega)).mono ?_; rintro e w2 ⟨rfl, hb2⟩)
      try go_wp2_with fail
      refine hK.out _ _ (by exact ⟨((hB.on (hHeld.2.trans (hb2.mono hHeld.2.size))).at (j * 6 + 4)).trans Q4.out, hHeld.2.trans (hb2.mono hHeld.2.size)⟩) (fun hHeld => ?_)
      clear hK K
      refine take_run 7 (some 58) (v := ?_) rfl rfl (by kernel_rfl) (by kernel_rfl) (by kernel_rfl) (fun _ _ _ h => h) (by rfl) ?_ hHeld ?_
      rotate_left
      · ((intro w hSw); (try dsimp only at hSw); go_simp <;> with_reducible rfl)
      simp only [Act.put, List.setIfInBounds_toArray, List.set_cons_zero, List.set_cons_succ]
      refine wpAnyH_done (by kernel_rfl) ?_ _
      refine NoPanic.normal ?_
      have hL2 := hHeld.2
      have d5 := ((hB.on hL2).at (j * 6 + 5)).trans Q5.out
      clear hHeld d0 d1 d2 d3 C0 hL
      go_wp2
      exact ⟨⟨j + 1, by omega, by go_num, int_val (by omega), hL2⟩, by simp [intOf]; omega⟩
    · have hjn : j = n := by omega
      subst hjn
      clear hlt
      go_wp2
      go_ret
      exact ⟨rfl, hL⟩
end Go.Proofs.Ytcfhnhiodpinmaa
