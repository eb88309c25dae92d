/- Contracts of the small functions on tags (plain integers and struct values), over the translation of this seat: no condition on the arguments. -/
import Derived.Test.YtieechelogkeoaaProg
import Derived.WalkKit
import Derived.WalkSpells
import Derived.WalkLawsBesides
import Derived.Test.YtieechelogkeoaaWorld
import Derived.Test.YtieechelogkeoaaReg
namespace Go.Proofs.Ytieechelogkeoaa
open Go.RowKit

/-- Whether a tag is valid: the zero tag, or a time and a place within bounds. -/
def okB (t p : Int) : Bool := decide (t = 0 ∧ p = 0 ∨ 1 ≤ t ∧ t ≤ 999 ∧ 0 ≤ p ∧ p ≤ 2)
/-- Whether the first tag is earlier. -/
def lessB (t p t' p' : Int) : Bool := decide (t < t' ∨ t = t' ∧ p < p')

theorem ret_bool {a b : Bool} (h : a = b) : Ending.returned (.bool a) = .returned (.bool b) := by rw [h]
theorem ret_int {k : IntKind} {a b : Int} (h : a = b) : Ending.returned (.int k a) = .returned (.int k b) := by rw [h]

theorem okB_t {t p : Int} (h : t = 0 ∧ p = 0 ∨ 1 ≤ t ∧ t ≤ 999 ∧ 0 ≤ p ∧ p ≤ 2) : okB t p = true := decide_eq_true h
theorem okB_f {t p : Int} (h : ¬(t = 0 ∧ p = 0 ∨ 1 ≤ t ∧ t ≤ 999 ∧ 0 ≤ p ∧ p ≤ 2)) : okB t p = false := decide_eq_false h
theorem okB_i {t p : Int} (h : okB t p = true) : t = 0 ∧ p = 0 ∨ 1 ≤ t ∧ t ≤ 999 ∧ 0 ≤ p ∧ p ≤ 2 := of_decide_eq_true h
theorem lessB_ne {t p t' p' : Int} (h : t ≠ t') : lessB t p t' p' = decide (t < t') := by
  unfold lessB; rw [Bool.eq_iff_iff]; simp; omega
theorem lessB_eq {t p p' : Int} : lessB t p t p' = decide (p < p') := by
  unfold lessB; rw [Bool.eq_iff_iff]; simp

theorem lessB_i {t p t' p' : Int} : lessB t p t' p' = true ↔ (t < t' ∨ t = t' ∧ p < p') := by unfold lessB; simp
theorem lessB_total {t p t' p' : Int} (h : ¬(t = t' ∧ p = p')) (hl : lessB t p t' p' = false) : lessB t' p' t p = true := by
  have hn : ¬(t < t' ∨ t = t' ∧ p < p') := fun hh => by rw [lessB_i.2 hh] at hl; cases hl
  exact lessB_i.2 (by omega)
theorem lessB_asym {t p t' p' : Int} (hl : lessB t p t' p' = true) : lessB t' p' t p = false := by
  cases h : lessB t' p' t p
  · rfl
  · have h1 := lessB_i.1 hl
    have h2 := lessB_i.1 h
    omega
theorem lessB_trans {t p t' p' t2 p2 : Int} (h1 : lessB t p t' p' = true) (h2 : lessB t' p' t2 p2 = true) : lessB t p t2 p2 = true := by
  have h1 := lessB_i.1 h1
  have h2 := lessB_i.1 h2
  exact lessB_i.2 (by omega)

/-- What a world is made of below a bound stays readable: cells and marks. -/
theorem bcell {W w1 : World} (hb : Below W.heap.size W w1) : (∀ b o, b < W.heap.size → w1.cell? ⟨b, o, none⟩ = W.cell? ⟨b, o, none⟩) ∧ (∀ b o, b < W.heap.size → w1.frozen? ⟨b, o, none⟩ = W.frozen? ⟨b, o, none⟩) :=
  ⟨fun b o h => hb.cell (p := ⟨b, o, none⟩) h, fun b o h => hb.frozen (p := ⟨b, o, none⟩) h⟩

set_option maxHeartbeats 400000 in
theorem l1In_any (n lo hi : Int) (w : World) :
    Calls Try.prog 27 #[.int .i64 n, .int .i64 lo, .int .i64 hi] w fun e w' => e = .returned (.bool (decide (lo ≤ n ∧ n ≤ hi))) ∧ w = w' := by
  by_cases h1 : lo ≤ n
  · by_cases h2 : n ≤ hi
    · go_enter Try.func27, Try.ntmps27
      go_wp2
      go_ret
      exact ⟨ret_bool (by simp; omega), rfl⟩
    · go_enter Try.func27, Try.ntmps27
      go_wp2
      go_ret
      exact ⟨ret_bool (by simp; omega), rfl⟩
  · go_enter Try.func27, Try.ntmps27
    go_wp2
    go_ret
    exact ⟨ret_bool (by simp; omega), rfl⟩

set_option maxHeartbeats 400000 in
theorem isNaN_any (a : Int) (w : World) :
    Calls Try.prog 83 #[.int .i64 a] w fun e w' => e = .returned (.bool false) ∧ w = w' := by
  have h : (a != a) = false := by simp
  go_enter Try.func83, Try.ntmps83
  go_wp2
  go_ret
  exact ⟨rfl, rfl⟩

/-- How two numbers compare: less, alike, more. -/
def cmpI (a b : Int) : Int := if a < b then -1 else if b < a then 1 else 0
set_option maxHeartbeats 1000000 in
theorem cmpInt_any (a b : Int) (w : World) :
    Calls Try.prog 82 #[.int .i64 a, .int .i64 b] w fun e w' => e = .returned (.int .i64 (cmpI a b)) ∧ w = w' := by
  have H : Hid (cmpI a b = if a < b then -1 else if b < a then 1 else 0) := rfl
  go_enter Try.func82, Try.ntmps82
  go_wp2_with (go_at_call 83; refine (isNaN_any _ _).mono ?_; rintro e w' ⟨rfl, rfl⟩)
  all_goals
    go_ret
    refine ⟨ret_int ?_, rfl⟩
    rw [H.out]
    first | (rw [if_pos (by omega)]) | (rw [if_neg (by omega), if_pos (by omega)]) | (rw [if_neg (by omega), if_neg (by omega)])

/-- The first number that is not zero. -/
def orI (a b : Int) : Int := if a = 0 then b else a
theorem orI_z {a b : Int} (h : a = 0) : orI a b = b := if_pos h
theorem orI_n {a b : Int} (h : ¬ a = 0) : orI a b = a := if_neg h
/-- How far a look at two numbers has come. -/
def OrAt (a b k : Int) : Prop := k = 0 ∨ k = 1 ∧ a = 0 ∨ k = 2 ∧ a = 0 ∧ b = 0
set_option maxRecDepth 100000 in
set_option maxHeartbeats 1000000 in
theorem cmpOr_two (g c : Nat) (a b : Int) (w : World) (h0 : w.cell? ⟨g, 0, none⟩ = some (.int .i64 a)) (h1 : w.cell? ⟨g, 1, none⟩ = some (.int .i64 b)) :
    Calls Try.prog 81 #[.slice (some ⟨g, 0, none⟩) 2 c] w fun e w' => e = .returned (.int .i64 (orI a b)) ∧ w = w' := by
  go_enter Try.func81, Try.ntmps81
  go_wp2
  go_loop [8] (fun i => ∃ k : Int, i = .int .i64 k ∧ OrAt a b k) (fun i => 2 - (intOf i).toNat)
  case atStart => exact ⟨0, rfl, .inl rfl⟩
  case round =>
    obtain ⟨k, rfl, hk⟩ := hrel
    rcases hk with rfl | ⟨rfl, ha⟩ | ⟨rfl, ha, hb⟩
    · by_cases ha : a = 0
      · have hn : (a != 0) = false := by simpa using ha
        have HA := hide ha
        clear ha
        go_wp2
        exact ⟨⟨1, rfl, .inr (.inl ⟨rfl, HA.out⟩)⟩, by simp [intOf]⟩
      · have hn : (a != 0) = true := by simpa using ha
        have HA := hide ha
        clear ha
        go_wp2
        go_ret
        exact ⟨ret_int (orI_n HA.out).symm, rfl⟩
    · have HA := hide ha
      clear ha
      by_cases hb : b = 0
      · have hn : (b != 0) = false := by simpa using hb
        have HB := hide hb
        clear hb
        go_wp2
        exact ⟨⟨2, rfl, .inr (.inr ⟨rfl, HA.out, HB.out⟩)⟩, by simp [intOf]⟩
      · have hn : (b != 0) = true := by simpa using hb
        clear hb
        go_wp2
        go_ret
        exact ⟨ret_int (orI_z HA.out).symm, rfl⟩
    · have HA := hide ha
      have HB := hide hb
      clear ha hb
      go_wp2
      go_ret
      exact ⟨ret_int (by rw [orI_z HA.out, HB.out]), rfl⟩

/-- How two tags compare. -/
def cmpT (t p t' p' : Int) : Int := orI (cmpI t t') (cmpI p p')
theorem cmpT_less (t p t' p' : Int) : decide (cmpT t p t' p' < 0) = lessB t p t' p' := by
  unfold cmpT orI cmpI lessB
  rw [Bool.eq_iff_iff]
  simp only [decide_eq_true_eq]
  repeat' split
  all_goals omega

set_option maxRecDepth 100000 in
set_option maxHeartbeats 2000000 in
theorem compare_any (t p t' p' : Int) (w : World) :
    Calls Try.prog 72 #[.agg #[.int .i64 t, .int .i64 p], .agg #[.int .i64 t', .int .i64 p']] w fun e w' => e = .returned (.int .i64 (cmpT t p t' p')) ∧ Below w.heap.size w w' := by
  have S0 := ((Inv.start w).box 70 #[.int .i64 t, .int .i64 p]).box 70 #[.int .i64 t', .int .i64 p']
  simp only [World.size_alloc] at S0
  go_enter Try.func72, Try.ntmps72
  go_wp2_with fail
  generalize (w.alloc (.cells #[.int .i64 t, .int .i64 p] 70)).alloc (.cells #[.int .i64 t', .int .i64 p'] 70) = W at S0 ⊢
  refine wp_region_noPanic ?_
  refine wp_region_held_drew (S := (fun w' => w'.cell? ⟨w.heap.size, 0, none⟩ = some (.int .i64 t) ∧ w'.cell? ⟨w.heap.size, 1, none⟩ = some (.int .i64 p) ∧ w'.cell? ⟨w.heap.size + 1, 0, none⟩ = some (.int .i64 t') ∧ w'.cell? ⟨w.heap.size + 1, 1, none⟩ = some (.int .i64 p') ∧ Inv w (w.heap.size + 1 + 1) [(w.heap.size + 1, 70, #[.int .i64 t', .int .i64 p']), (w.heap.size, 70, #[.int .i64 t, .int .i64 p])] w')) (by kernel_rfl) (by exact ⟨(S0.nth 1 rfl).at 0, (S0.nth 1 rfl).at 1, (S0.nth 0 rfl).at 0, (S0.nth 0 rfl).at 1, S0.drew⟩) (fun hHeld => ?_)
  refine take_run 0 (some 5) (v := ?_) rfl rfl (by kernel_rfl) (by kernel_rfl) (by kernel_rfl) (fun _ _ _ h => h) (by rfl) ?_ hHeld ?_
  rotate_left
  · ((intro w hSw); (try dsimp only at hSw); go_simp <;> with_reducible rfl)
  simp only [Act.put, List.setIfInBounds_toArray, List.set_cons_zero, List.set_cons_succ]
  refine take_run 1 (some 6) (v := ?_) rfl rfl (by kernel_rfl) (by kernel_rfl) (by kernel_rfl) (fun _ _ _ h => h) (by rfl) ?_ hHeld ?_
  rotate_left
  · ((intro w hSw); (try dsimp only at hSw); go_simp <;> with_reducible rfl)
  simp only [Act.put, List.setIfInBounds_toArray, List.set_cons_zero, List.set_cons_succ]
  refine take_run 2 (some 7) (v := ?_) rfl rfl (by kernel_rfl) (by kernel_rfl) (by kernel_rfl) (fun _ _ _ h => h) (by rfl) ?_ hHeld ?_
  rotate_left
  · ((intro w hSw); (try dsimp only at hSw); go_simp <;> with_reducible rfl)
  simp only [Act.put, List.setIfInBounds_toArray, List.set_cons_zero, List.set_cons_succ]
  refine take_run 3 (some 8) (v := ?_) rfl rfl (by kernel_rfl) (by kernel_rfl) (by kernel_rfl) (fun _ _ _ h => h) (by rfl) ?_ hHeld ?_
  rotate_left
  · ((intro w hSw); (try dsimp only at hSw); go_simp <;> with_reducible rfl)
  simp only [Act.put, List.setIfInBounds_toArray, List.set_cons_zero, List.set_cons_succ]
  refine take_run 5 (some 10) (v := ?_) rfl rfl (by kernel_rfl) (by kernel_rfl) (by kernel_rfl) (fun _ _ _ h => h) (by rfl) ?_ hHeld ?_
  rotate_left
  · ((intro w hSw); (try dsimp only at hSw); go_simp <;> with_reducible rfl)
  simp only [Act.put, List.setIfInBounds_toArray, List.set_cons_zero, List.set_cons_succ]
  refine take_run 6 (some 11) (v := ?_) rfl rfl (by kernel_rfl) (by kernel_rfl) (by kernel_rfl) (fun _ _ _ h => h) (by rfl) ?_ hHeld ?_
  rotate_left
  · ((intro w hSw); (try dsimp only at hSw); go_simp <;> with_reducible rfl)
  simp only [Act.put, List.setIfInBounds_toArray, List.set_cons_zero, List.set_cons_succ]
  refine take_run 7 (some 12) (v := ?_) rfl rfl (by kernel_rfl) (by kernel_rfl) (by kernel_rfl) (fun _ _ _ h => h) (by rfl) ?_ hHeld ?_
  rotate_left
  · ((intro w hSw); (try dsimp only at hSw); go_simp <;> with_reducible rfl)
  simp only [Act.put, List.setIfInBounds_toArray, List.set_cons_zero, List.set_cons_succ]
  refine take_run 8 (some 13) (v := ?_) rfl rfl (by kernel_rfl) (by kernel_rfl) (by kernel_rfl) (fun _ _ _ h => h) (by rfl) ?_ hHeld ?_
  rotate_left
  · ((intro w hSw); (try dsimp only at hSw); go_simp <;> with_reducible rfl)
  simp only [Act.put, List.setIfInBounds_toArray, List.set_cons_zero, List.set_cons_succ]
  refine take_one 4 (by kernel_rfl) rfl (fun K hK => ?_)
  go_simp
  (refine (cmpInt_any _ _ _).mono ?_; rintro e w1 ⟨rfl, rfl⟩)
  try go_wp2_with fail
  refine hK.out _ _ (by exact hHeld) (fun hHeld => ?_)
  clear hK K
  refine take_one 9 (by kernel_rfl) rfl (fun K hK => ?_)
  go_simp
  (refine (cmpInt_any _ _ _).mono ?_; rintro e w1 ⟨rfl, rfl⟩)
  try go_wp2_with fail
  refine hK.out _ _ (by exact hHeld) (fun hHeld => ?_)
  clear hK K
  refine take_one 10 (by kernel_rfl) rfl (fun K hK => ?_)
  go_simp
  refine hK.out _ _ (by exact ⟨((hHeld.2.2.2.2.alloc _).nth 1 rfl).at 0, ((hHeld.2.2.2.2.alloc _).nth 1 rfl).at 1, ((hHeld.2.2.2.2.alloc _).nth 0 rfl).at 0, ((hHeld.2.2.2.2.alloc _).nth 0 rfl).at 1, hHeld.2.2.2.2.alloc _⟩) (fun hHeld => ?_)
  clear hK K
  refine take_one 11 (by kernel_rfl) rfl (fun K hK => ?_)
  go_simp
  (refine (cmpOr_two _ _ (cmpI t t') (cmpI p p') _ (Blk.made _ _ _).drew.two.1 (Blk.made _ _ _).drew.two.2.1).mono ?_; rintro e w1 ⟨rfl, rfl⟩)
  try go_wp2_with fail
  refine hK.out _ _ (by exact hHeld) (fun hHeld => ?_)
  clear hK K
  refine take_run 12 (some 4) (v := ?_) rfl rfl (by kernel_rfl) (by kernel_rfl) (by kernel_rfl) (fun _ _ _ h => h) (by rfl) ?_ hHeld ?_
  rotate_left
  · ((intro w hSw); (try dsimp only at hSw); go_simp <;> with_reducible rfl)
  simp only [Act.put, List.setIfInBounds_toArray, List.set_cons_zero, List.set_cons_succ]
  refine wpAnyH_done (by kernel_rfl) ?_ _
  refine NoPanic.normal ?_
  have L := hHeld.2.2.2.2.below
  clear hHeld
  go_wp2
  go_ret
  exact ⟨rfl, L⟩

set_option maxHeartbeats 400000 in
theorem less_any (t p t' p' : Int) (w : World) :
    Calls Try.prog 53 #[.agg #[.int .i64 t, .int .i64 p], .agg #[.int .i64 t', .int .i64 p']] w fun e w' => e = .returned (.bool (lessB t p t' p')) ∧ Below w.heap.size w w' := by
  have S0 := ((Inv.start w).box 70 #[.int .i64 t, .int .i64 p]).box 70 #[.int .i64 t', .int .i64 p']
  have H := hide (cmpT_less t p t' p')
  go_enter Try.func53, Try.ntmps53
  go_wp2_with fail
  refine (compare_any _ _ _ _ _).mono ?_
  rintro e w1 ⟨rfl, hb⟩
  have hl := (S0.on hb).below
  clear S0 hb
  generalize cmpT t p t' p' = x at H ⊢
  go_wp2
  go_ret
  exact ⟨ret_bool H.out, hl⟩

set_option maxHeartbeats 400000 in
theorem implTagOk_any (t p : Int) (w : World) :
    Calls Try.prog 67 #[.agg #[.int .i64 t, .int .i64 p]] w fun e w' => e = .returned (.bool (okB t p)) ∧ Below w.heap.size w w' := by
  go_enter Try.func67, Try.ntmps67
  go_wp2
  all_goals
    go_ret
    refine ⟨ret_bool ?_, (Below.refl _ _).alloc (Nat.le_refl _) _⟩
    symm
    unfold okB
    rw [Bool.eq_iff_iff]
    simp
    try omega

set_option maxHeartbeats 400000 in
theorem l1TagOk_any (t p : Int) (w : World) :
    Calls Try.prog 75 #[.agg #[.int .i64 t, .int .i64 p]] w fun e w' => e = .returned (.bool (okB t p)) ∧ Below w.heap.size w w' := by
  go_enter Try.func75, Try.ntmps75
  go_wp2
  all_goals
    go_ret
    refine ⟨ret_bool ?_, (Below.refl _ _).alloc (Nat.le_refl _) _⟩
    symm
    unfold okB
    rw [Bool.eq_iff_iff]
    simp
    try omega

/-- The later one of two tags: its time, its place. -/
def mxT (t p t' p' : Int) : Int := if lessB t p t' p' = true then t' else t
def mxP (t p t' p' : Int) : Int := if lessB t p t' p' = true then p' else p

/-- Whether two tags are the same. -/
def eqB (t p t' p' : Int) : Bool := decide (t = t' ∧ p = p')
theorem eqB_same (t p : Int) : eqB t p t p = true := decide_eq_true ⟨rfl, rfl⟩

end Go.Proofs.Ytieechelogkeoaa
