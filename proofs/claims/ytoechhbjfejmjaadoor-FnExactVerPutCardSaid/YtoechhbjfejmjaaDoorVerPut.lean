/- Contracts of how the model writes tags, causes and versions. Condition: numbers that are not negative, or a version whatever it is. -/
import Derived.Test.YtoechhbjfejmjaaDoorTagText
import Derived.Test.YtoechhbjfejmjaaDoorVerSpec
namespace Go.Proofs.YtoechhbjfejmjaaDoor
open Go.RowKit Go.Joins
attribute [local go_sem ↓] Go.wp_at_zero Go.wp_at_succ

/-- Causes as they are written. -/
def pastS (ts : List (Int × Int)) : ByteArray := ts.foldl (fun s x => s ++ ⟨#[32]⟩ ++ tagS x.1.toNat x.2.toNat) ⟨#[]⟩
theorem pastS_step {ts : List (Int × Int)} {k : Nat} {x : Int × Int} (h : ts[k]? = some x) : pastS (ts.take (k + 1)) = pastS (ts.take k) ++ ⟨#[32]⟩ ++ tagS x.1.toNat x.2.toNat := by
  unfold pastS
  rw [List.take_add_one, h, List.foldl_append]
  rfl
/-- Numbers that are written in few figures. -/
def LowT (ts : List (Int × Int)) : Prop := ts.length ≤ 4 ∧ ∀ x ∈ ts, (0 ≤ x.1 ∧ x.1 ≤ 1000) ∧ 0 ≤ x.2 ∧ x.2 ≤ 1000
theorem pastS_size {ts : List (Int × Int)} (h : LowT ts) : ∀ k, k ≤ ts.length → (pastS (ts.take k)).size ≤ 2004 * k
  | 0, _ => Nat.zero_le _
  | k + 1, hk => by
    have hx := List.getElem?_eq_getElem (l := ts) (i := k) (by omega)
    rw [pastS_step hx, ByteArray.size_append, ByteArray.size_append]
    have h1 := pastS_size h k (by omega)
    have h2 := tagS_size ts[k].1.toNat ts[k].2.toNat
    have h3 := h.2 _ (List.mem_of_getElem? hx)
    have : (ByteArray.mk #[32]).size = 1 := rfl
    omega
set_option maxRecDepth 100000 in
set_option maxHeartbeats 2000000 in
theorem l2Past_any (a : Option Addr) (c : Nat) (ts : List (Int × Int)) (w : World) (hT : LowT ts) (ht : Tg w w.heap.size a ts) : Calls Tryd.prog 41 #[.agg #[.slice a ts.length c]] w fun e w' => e = .returned (.string (pastS ts)) ∧ Below w.heap.size w w' := by
  have S0 := (Inv.start w).box 34 #[.slice a ts.length c]
  simp only [World.size_alloc] at S0
  have HT := hide hT
  have HA : Hid (pastS (ts.take ts.length) = pastS ts) := by unfold Hid; rw [List.take_length]
  have h4 := hT.1
  clear hT
  generalize hnn : ts.length = n at *
  have HN := hide hnn
  clear hnn
  go_enter Tryd.func41, Tryd.ntmps41
  go_wp2
  go_loopw [3, 4] (fun v i wr => ∃ (k : Nat) (s : ByteArray), k ≤ n ∧ i = .int .i64 (k : Int) ∧ v = .string s ∧ Hid (s = pastS (ts.take k)) ∧ Inv w (w.heap.size + 1) [(w.heap.size, 34, #[.slice a n c])] wr) (fun _ i _ => n - (intOf i).toNat)
  case atStart => exact ⟨0, _, Nat.zero_le _, rfl, rfl, rfl, S0⟩
  case round =>
    obtain ⟨k, s, hk, rfl, rfl, HS, hI⟩ := hrel
    clear S0
    have q0 := (hI.nth 0 rfl).one.1
    by_cases hlt : k < n
    · rcases ht with e0 | ⟨b, off, rfl, hb, hx⟩
      · have := HN.out; subst e0; simp at this; omega
      · obtain ⟨x, hxx⟩ : ∃ x, ts[k]? = some x := ⟨_, List.getElem?_eq_getElem (by have := HN.out; omega)⟩
        have hlow := HT.out.2 x (List.mem_of_getElem? hxx)
        have hst := pastS_step hxx
        have hsz := pastS_size HT.out k (by have := HN.out; omega)
        rw [← HS.out] at hst hsz
        have c0 := (hI.below.cell (p := ⟨b, off + k * 2, none⟩) hb).trans (hx k x hxx).1
        have c1 := (hI.below.cell (p := ⟨b, off + k * 2 + 1, none⟩) hb).trans (hx k x hxx).2
        obtain ⟨x1, x2⟩ := x
        simp only at c0 c1 hlow hst
        obtain ⟨t, rfl⟩ := Int.eq_ofNat_of_zero_le hlow.1.1
        obtain ⟨u, rfl⟩ := Int.eq_ofNat_of_zero_le hlow.2.1
        simp only [Int.toNat_natCast] at hst
        have HST := hide hst
        have z3 := tagS_size t u
        have hz1 : ¬ (9223372036854775807 < s.size + 1) := by omega
        have hz2 : ¬ (9223372036854775807 < s.size + 1 + (tagS t u).size) := by omega
        have i1 : (0 : Int) ≤ (k : Int) := by omega
        have i2 : (k : Int) < (n : Int) := by omega
        have t6 : t ≤ 1000000 := by omega
        have u6 : u ≤ 1000000 := by omega
        clear hx hxx hst z3 hsz hlow
        go_wp2_with fail
        refine (l1Put_any t u t6 u6 _).mono ?_
        rintro e w1 ⟨rfl, hb1⟩
        have I1 := hI.on hb1
        clear hI q0 c0 c1 hb1
        go_wp2
        exact ⟨⟨k + 1, _, by omega, by go_num, rfl, HST.out.symm, I1⟩, by simp [intOf]; omega⟩
    · have hkn : k = n := by omega
      subst hkn
      clear hlt
      go_wp2
      go_ret
      exact ⟨by rw [← HA.out, ← HS.out]; rfl, hI.below⟩
/-- The text of a version as it is written. -/
def textS (s : ByteArray) (g : Bool) : ByteArray := if g = true then ⟨#[45]⟩ else ⟨#[61]⟩ ++ s
/-- A version as it is written. -/
def verS (k t u : Nat) (ts : List (Int × Int)) (s : ByteArray) (g : Bool) : ByteArray := decS k ++ ⟨#[32]⟩ ++ tagS t u ++ pastS ts ++ ⟨#[32]⟩ ++ textS s g
set_option maxRecDepth 100000 in
set_option maxHeartbeats 2000000 in
theorem l2Put_any (k t u : Nat) (a : Option Addr) (c : Nat) (ts : List (Int × Int)) (s : ByteArray) (g : Bool) (w : World) (hk : k ≤ 1000) (ht : t ≤ 1000) (hu : u ≤ 1000) (hT : LowT ts) (hs : s.size ≤ 1000) (hg : Tg w w.heap.size a ts) :
    Calls Tryd.prog 16 #[.agg (verC (k : Int) (t : Int) (u : Int) a ts.length c s g)] w fun e w' => e = .returned (.string (verS k t u ts s g)) ∧ Below w.heap.size w w' := by
  have S0 := (Inv.start w).box 36 (verC (k : Int) (t : Int) (u : Int) a ts.length c s g)
  simp only [World.size_alloc] at S0
  have z1 := decS_size k
  have z2 := tagS_size t u
  have z3 := pastS_size hT ts.length (Nat.le_refl _)
  rw [List.take_length] at z3
  have z4 := hT.1
  have hz0 : ¬ (9223372036854775807 < 1 + s.size) := by omega
  have hz1 : ¬ (9223372036854775807 < (decS k).size + 1) := by omega
  have hz2 : ¬ (9223372036854775807 < (decS k).size + 1 + (tagS t u).size) := by omega
  have hz3 : ¬ (9223372036854775807 < (decS k).size + 1 + (tagS t u).size + (pastS ts).size) := by omega
  have hz4 : ¬ (9223372036854775807 < (decS k).size + 1 + (tagS t u).size + (pastS ts).size + 1) := by omega
  have hz5 : ¬ (9223372036854775807 < (decS k).size + 1 + (tagS t u).size + (pastS ts).size + 1 + 1) := by omega
  have hz6 : ¬ (9223372036854775807 < (decS k).size + 1 + (tagS t u).size + (pastS ts).size + 1 + (1 + s.size)) := by omega
  have HT := hide hT
  have HG := hide hg
  clear hT hg z1 z2 z3 z4
  have q0 := (S0.nth 0 rfl).six.1
  have B0 := S0.nth 0 rfl
  have L0 := S0.below
  clear S0
  cases g
  all_goals
    go_enter Tryd.func16, Tryd.ntmps16
    go_wp2_with fail
  · have HS : Hid (verS k t u ts s false = decS k ++ ⟨#[32]⟩ ++ tagS t u ++ pastS ts ++ ⟨#[32]⟩ ++ (⟨#[61]⟩ ++ s)) := rfl
    generalize w.alloc (.cells (verC (k : Int) (t : Int) (u : Int) a ts.length c s false) 36) = W at L0 B0 q0 ⊢
    refine wp_region_noPanic ?_
    refine wp_region_held_drew (S := (fun w' => (w'.cell? ⟨w.heap.size, 0, none⟩ = some (.int .i64 (k : Int)) ∧ w'.cell? ⟨w.heap.size, 1, none⟩ = some (.int .i64 (t : Int)) ∧ w'.cell? ⟨w.heap.size, 2, none⟩ = some (.int .i64 (u : Int)) ∧ w'.cell? ⟨w.heap.size, 3, none⟩ = some (.slice a ts.length c)) ∧ Blk w' w.heap.size 36 (verC (k : Int) (t : Int) (u : Int) a ts.length c s false) ∧ Below w.heap.size w w')) (by kernel_rfl) (by exact ⟨⟨B0.at 0, B0.at 1, B0.at 2, B0.at 3⟩, B0.drew, L0.drew⟩) (fun hHeld => ?_)
    refine take_run 0 (some 9) (v := ?_) rfl rfl (by kernel_rfl) (by kernel_rfl) (by kernel_rfl) (fun _ _ _ h => h) (by rfl) ?_ hHeld ?_
    rotate_left
    · ((intro w hSw); (try dsimp only at hSw); go_simp <;> with_reducible rfl)
    simp only [Act.put, List.setIfInBounds_toArray, List.set_cons_zero, List.set_cons_succ]
    refine take_run 1 (some 10) (v := ?_) rfl rfl (by kernel_rfl) (by kernel_rfl) (by kernel_rfl) (fun _ _ _ h => h) (by rfl) ?_ hHeld ?_
    rotate_left
    · ((intro w hSw); (try dsimp only at hSw); go_simp <;> with_reducible rfl)
    simp only [Act.put, List.setIfInBounds_toArray, List.set_cons_zero, List.set_cons_succ]
    refine take_run 4 (some 13) (v := ?_) rfl rfl (by kernel_rfl) (by kernel_rfl) (by kernel_rfl) (fun _ _ _ h => h) (by rfl) ?_ hHeld ?_
    rotate_left
    · ((intro w hSw); (try dsimp only at hSw); go_simp <;> with_reducible rfl)
    simp only [Act.put, List.setIfInBounds_toArray, List.set_cons_zero, List.set_cons_succ]
    refine take_run 5 (some 14) (v := ?_) rfl rfl (by kernel_rfl) (by kernel_rfl) (by kernel_rfl) (fun _ _ _ h => h) (by rfl) ?_ hHeld ?_
    rotate_left
    · ((intro w hSw); (try dsimp only at hSw); go_simp <;> with_reducible rfl)
    simp only [Act.put, List.setIfInBounds_toArray, List.set_cons_zero, List.set_cons_succ]
    refine take_run 8 (some 17) (v := ?_) rfl rfl (by kernel_rfl) (by kernel_rfl) (by kernel_rfl) (fun _ _ _ h => h) (by rfl) ?_ hHeld ?_
    rotate_left
    · ((intro w hSw); (try dsimp only at hSw); go_simp <;> with_reducible rfl)
    simp only [Act.put, List.setIfInBounds_toArray, List.set_cons_zero, List.set_cons_succ]
    refine take_run 9 (some 18) (v := ?_) rfl rfl (by kernel_rfl) (by kernel_rfl) (by kernel_rfl) (fun _ _ _ h => h) (by rfl) ?_ hHeld ?_
    rotate_left
    · ((intro w hSw); (try dsimp only at hSw); go_simp <;> with_reducible rfl)
    simp only [Act.put, List.setIfInBounds_toArray, List.set_cons_zero, List.set_cons_succ]
    refine take_run 13 (some 22) (v := ?_) rfl rfl (by kernel_rfl) (by kernel_rfl) (by kernel_rfl) (fun _ _ _ h => h) (by rfl) ?_ hHeld ?_
    rotate_left
    · ((intro w hSw); (try dsimp only at hSw); go_simp <;> with_reducible rfl)
    simp only [Act.put, List.setIfInBounds_toArray, List.set_cons_zero, List.set_cons_succ]
    refine take_one 2 (by kernel_rfl) rfl (fun K hK => ?_)
    go_simp
    ((with_reducible refine (l1Dec_any k (by omega) _).mono ?_); rintro e w1 ⟨rfl, hb⟩)
    try go_wp2_with fail
    refine hK.out _ _ (by exact ⟨⟨(hHeld.2.1.on hb).at 0, (hHeld.2.1.on hb).at 1, (hHeld.2.1.on hb).at 2, (hHeld.2.1.on hb).at 3⟩, hHeld.2.1.on hb, hHeld.2.2.trans (hb.mono hHeld.2.2.size)⟩) (fun hHeld => ?_)
    clear hK K
    refine take_run 3 (some 12) (v := ?_) rfl rfl (by kernel_rfl) (by kernel_rfl) (by kernel_rfl) (fun _ _ _ h => h) (by rfl) ?_ hHeld ?_
    rotate_left
    · ((intro w hSw); (try dsimp only at hSw); go_simp <;> with_reducible rfl)
    simp only [Act.put, List.setIfInBounds_toArray, List.set_cons_zero, List.set_cons_succ]
    refine take_one 6 (by kernel_rfl) rfl (fun K hK => ?_)
    go_simp
    ((with_reducible refine (l1Put_any t u (by omega) (by omega) _).mono ?_); rintro e w2 ⟨rfl, hb⟩)
    try go_wp2_with fail
    refine hK.out _ _ (by exact ⟨⟨(hHeld.2.1.on hb).at 0, (hHeld.2.1.on hb).at 1, (hHeld.2.1.on hb).at 2, (hHeld.2.1.on hb).at 3⟩, hHeld.2.1.on hb, hHeld.2.2.trans (hb.mono hHeld.2.2.size)⟩) (fun hHeld => ?_)
    clear hK K
    refine take_run 7 (some 16) (v := ?_) rfl rfl (by kernel_rfl) (by kernel_rfl) (by kernel_rfl) (fun _ _ _ h => h) (by rfl) ?_ hHeld ?_
    rotate_left
    · ((intro w hSw); (try dsimp only at hSw); go_simp <;> with_reducible rfl)
    simp only [Act.put, List.setIfInBounds_toArray, List.set_cons_zero, List.set_cons_succ]
    refine take_one 10 (by kernel_rfl) rfl (fun K hK => ?_)
    go_simp
    ((with_reducible refine (l2Past_any a c ts _ HT.out ((HG.out.on hHeld.2.2).up hHeld.2.2.size)).mono ?_); rintro e w3 ⟨rfl, hb⟩)
    try go_wp2_with fail
    refine hK.out _ _ (by exact ⟨⟨(hHeld.2.1.on hb).at 0, (hHeld.2.1.on hb).at 1, (hHeld.2.1.on hb).at 2, (hHeld.2.1.on hb).at 3⟩, hHeld.2.1.on hb, hHeld.2.2.trans (hb.mono hHeld.2.2.size)⟩) (fun hHeld => ?_)
    clear hK K
    refine take_run 11 (some 20) (v := ?_) rfl rfl (by kernel_rfl) (by kernel_rfl) (by kernel_rfl) (fun _ _ _ h => h) (by rfl) ?_ hHeld ?_
    rotate_left
    · ((intro w hSw); (try dsimp only at hSw); go_simp <;> with_reducible rfl)
    simp only [Act.put, List.setIfInBounds_toArray, List.set_cons_zero, List.set_cons_succ]
    refine take_run 12 (some 21) (v := ?_) rfl rfl (by kernel_rfl) (by kernel_rfl) (by kernel_rfl) (fun _ _ _ h => h) (by rfl) ?_ hHeld ?_
    rotate_left
    · ((intro w hSw); (try dsimp only at hSw); go_simp <;> with_reducible rfl)
    simp only [Act.put, List.setIfInBounds_toArray, List.set_cons_zero, List.set_cons_succ]
    refine take_run 14 (some 23) (v := ?_) rfl rfl (by kernel_rfl) (by kernel_rfl) (by kernel_rfl) (fun _ _ _ h => h) (by rfl) ?_ hHeld ?_
    rotate_left
    · ((intro w hSw); (try dsimp only at hSw); go_simp <;> with_reducible rfl)
    simp only [Act.put, List.setIfInBounds_toArray, List.set_cons_zero, List.set_cons_succ]
    refine take_run 15 (some 2) (v := ?_) rfl rfl (by kernel_rfl) (by kernel_rfl) (by kernel_rfl) (fun _ _ _ h => h) (by rfl) ?_ hHeld ?_
    rotate_left
    · ((intro w hSw); (try dsimp only at hSw); go_simp <;> with_reducible rfl)
    simp only [Act.put, List.setIfInBounds_toArray, List.set_cons_zero, List.set_cons_succ]
    refine wpAnyH_done (by kernel_rfl) ?_ _
    refine NoPanic.normal ?_
    have L9 := hHeld.2.2
    clear hHeld
    go_wp2
    go_ret
    exact ⟨by rw [HS.out]; rfl, L9⟩
  · have HS : Hid (verS k t u ts s true = decS k ++ ⟨#[32]⟩ ++ tagS t u ++ pastS ts ++ ⟨#[32]⟩ ++ ⟨#[45]⟩) := rfl
    generalize w.alloc (.cells (verC (k : Int) (t : Int) (u : Int) a ts.length c s true) 36) = W at L0 B0 q0 ⊢
    refine wp_region_noPanic ?_
    refine wp_region_held_drew (S := (fun w' => (w'.cell? ⟨w.heap.size, 0, none⟩ = some (.int .i64 (k : Int)) ∧ w'.cell? ⟨w.heap.size, 1, none⟩ = some (.int .i64 (t : Int)) ∧ w'.cell? ⟨w.heap.size, 2, none⟩ = some (.int .i64 (u : Int)) ∧ w'.cell? ⟨w.heap.size, 3, none⟩ = some (.slice a ts.length c)) ∧ Blk w' w.heap.size 36 (verC (k : Int) (t : Int) (u : Int) a ts.length c s true) ∧ Below w.heap.size w w')) (by kernel_rfl) (by exact ⟨⟨B0.at 0, B0.at 1, B0.at 2, B0.at 3⟩, B0.drew, L0.drew⟩) (fun hHeld => ?_)
    refine take_run 0 (some 9) (v := ?_) rfl rfl (by kernel_rfl) (by kernel_rfl) (by kernel_rfl) (fun _ _ _ h => h) (by rfl) ?_ hHeld ?_
    rotate_left
    · ((intro w hSw); (try dsimp only at hSw); go_simp <;> with_reducible rfl)
    simp only [Act.put, List.setIfInBounds_toArray, List.set_cons_zero, List.set_cons_succ]
    refine take_run 1 (some 10) (v := ?_) rfl rfl (by kernel_rfl) (by kernel_rfl) (by kernel_rfl) (fun _ _ _ h => h) (by rfl) ?_ hHeld ?_
    rotate_left
    · ((intro w hSw); (try dsimp only at hSw); go_simp <;> with_reducible rfl)
    simp only [Act.put, List.setIfInBounds_toArray, List.set_cons_zero, List.set_cons_succ]
    refine take_run 4 (some 13) (v := ?_) rfl rfl (by kernel_rfl) (by kernel_rfl) (by kernel_rfl) (fun _ _ _ h => h) (by rfl) ?_ hHeld ?_
    rotate_left
    · ((intro w hSw); (try dsimp only at hSw); go_simp <;> with_reducible rfl)
    simp only [Act.put, List.setIfInBounds_toArray, List.set_cons_zero, List.set_cons_succ]
    refine take_run 5 (some 14) (v := ?_) rfl rfl (by kernel_rfl) (by kernel_rfl) (by kernel_rfl) (fun _ _ _ h => h) (by rfl) ?_ hHeld ?_
    rotate_left
    · ((intro w hSw); (try dsimp only at hSw); go_simp <;> with_reducible rfl)
    simp only [Act.put, List.setIfInBounds_toArray, List.set_cons_zero, List.set_cons_succ]
    refine take_run 8 (some 17) (v := ?_) rfl rfl (by kernel_rfl) (by kernel_rfl) (by kernel_rfl) (fun _ _ _ h => h) (by rfl) ?_ hHeld ?_
    rotate_left
    · ((intro w hSw); (try dsimp only at hSw); go_simp <;> with_reducible rfl)
    simp only [Act.put, List.setIfInBounds_toArray, List.set_cons_zero, List.set_cons_succ]
    refine take_run 9 (some 18) (v := ?_) rfl rfl (by kernel_rfl) (by kernel_rfl) (by kernel_rfl) (fun _ _ _ h => h) (by rfl) ?_ hHeld ?_
    rotate_left
    · ((intro w hSw); (try dsimp only at hSw); go_simp <;> with_reducible rfl)
    simp only [Act.put, List.setIfInBounds_toArray, List.set_cons_zero, List.set_cons_succ]
    refine take_run 13 (some 22) (v := ?_) rfl rfl (by kernel_rfl) (by kernel_rfl) (by kernel_rfl) (fun _ _ _ h => h) (by rfl) ?_ hHeld ?_
    rotate_left
    · ((intro w hSw); (try dsimp only at hSw); go_simp <;> with_reducible rfl)
    simp only [Act.put, List.setIfInBounds_toArray, List.set_cons_zero, List.set_cons_succ]
    refine take_one 2 (by kernel_rfl) rfl (fun K hK => ?_)
    go_simp
    ((with_reducible refine (l1Dec_any k (by omega) _).mono ?_); rintro e w1 ⟨rfl, hb⟩)
    try go_wp2_with fail
    refine hK.out _ _ (by exact ⟨⟨(hHeld.2.1.on hb).at 0, (hHeld.2.1.on hb).at 1, (hHeld.2.1.on hb).at 2, (hHeld.2.1.on hb).at 3⟩, hHeld.2.1.on hb, hHeld.2.2.trans (hb.mono hHeld.2.2.size)⟩) (fun hHeld => ?_)
    clear hK K
    refine take_run 3 (some 12) (v := ?_) rfl rfl (by kernel_rfl) (by kernel_rfl) (by kernel_rfl) (fun _ _ _ h => h) (by rfl) ?_ hHeld ?_
    rotate_left
    · ((intro w hSw); (try dsimp only at hSw); go_simp <;> with_reducible rfl)
    simp only [Act.put, List.setIfInBounds_toArray, List.set_cons_zero, List.set_cons_succ]
    refine take_one 6 (by kernel_rfl) rfl (fun K hK => ?_)
    go_simp
    ((with_reducible refine (l1Put_any t u (by omega) (by omega) _).mono ?_); rintro e w2 ⟨rfl, hb⟩)
    try go_wp2_with fail
    refine hK.out _ _ (by exact ⟨⟨(hHeld.2.1.on hb).at 0, (hHeld.2.1.on hb).at 1, (hHeld.2.1.on hb).at 2, (hHeld.2.1.on hb).at 3⟩, hHeld.2.1.on hb, hHeld.2.2.trans (hb.mono hHeld.2.2.size)⟩) (fun hHeld => ?_)
    clear hK K
    refine take_run 7 (some 16) (v := ?_) rfl rfl (by kernel_rfl) (by kernel_rfl) (by kernel_rfl) (fun _ _ _ h => h) (by rfl) ?_ hHeld ?_
    rotate_left
    · ((intro w hSw); (try dsimp only at hSw); go_simp <;> with_reducible rfl)
    simp only [Act.put, List.setIfInBounds_toArray, List.set_cons_zero, List.set_cons_succ]
    refine take_one 10 (by kernel_rfl) rfl (fun K hK => ?_)
    go_simp
    ((with_reducible refine (l2Past_any a c ts _ HT.out ((HG.out.on hHeld.2.2).up hHeld.2.2.size)).mono ?_); rintro e w3 ⟨rfl, hb⟩)
    try go_wp2_with fail
    refine hK.out _ _ (by exact ⟨⟨(hHeld.2.1.on hb).at 0, (hHeld.2.1.on hb).at 1, (hHeld.2.1.on hb).at 2, (hHeld.2.1.on hb).at 3⟩, hHeld.2.1.on hb, hHeld.2.2.trans (hb.mono hHeld.2.2.size)⟩) (fun hHeld => ?_)
    clear hK K
    refine take_run 11 (some 20) (v := ?_) rfl rfl (by kernel_rfl) (by kernel_rfl) (by kernel_rfl) (fun _ _ _ h => h) (by rfl) ?_ hHeld ?_
    rotate_left
    · ((intro w hSw); (try dsimp only at hSw); go_simp <;> with_reducible rfl)
    simp only [Act.put, List.setIfInBounds_toArray, List.set_cons_zero, List.set_cons_succ]
    refine take_run 12 (some 21) (v := ?_) rfl rfl (by kernel_rfl) (by kernel_rfl) (by kernel_rfl) (fun _ _ _ h => h) (by rfl) ?_ hHeld ?_
    rotate_left
    · ((intro w hSw); (try dsimp only at hSw); go_simp <;> with_reducible rfl)
    simp only [Act.put, List.setIfInBounds_toArray, List.set_cons_zero, List.set_cons_succ]
    refine take_run 14 (some 23) (v := ?_) rfl rfl (by kernel_rfl) (by kernel_rfl) (by kernel_rfl) (fun _ _ _ h => h) (by rfl) ?_ hHeld ?_
    rotate_left
    · ((intro w hSw); (try dsimp only at hSw); go_simp <;> with_reducible rfl)
    simp only [Act.put, List.setIfInBounds_toArray, List.set_cons_zero, List.set_cons_succ]
    refine take_run 15 (some 2) (v := ?_) rfl rfl (by kernel_rfl) (by kernel_rfl) (by kernel_rfl) (fun _ _ _ h => h) (by rfl) ?_ hHeld ?_
    rotate_left
    · ((intro w hSw); (try dsimp only at hSw); go_simp <;> with_reducible rfl)
    simp only [Act.put, List.setIfInBounds_toArray, List.set_cons_zero, List.set_cons_succ]
    refine wpAnyH_done (by kernel_rfl) ?_ _
    refine NoPanic.normal ?_
    have L9 := hHeld.2.2
    clear hHeld
    go_wp2
    go_ret
    exact ⟨by rw [HS.out]; rfl, L9⟩
theorem verB_parts {k t u : Int} {ts : List (Int × Int)} {s : ByteArray} {g : Bool} (h : verB k t u ts s g = true) : (0 ≤ k ∧ k ≤ 3) ∧ textB s = true ∧ okB t u = true ∧ pastB ts = true := by
  unfold verB at h
  simp only [Bool.and_eq_true, decide_eq_true_eq] at h
  exact ⟨h.1.1.1.1.1.1, h.1.1.1.1.1.2, h.1.1.1.1.2, h.1.2⟩
theorem lowT_past {ts : List (Int × Int)} (h : pastB ts = true) : LowT ts := by
  unfold pastB at h
  rw [Bool.and_eq_true, List.all_eq_true, decide_eq_true_eq] at h
  refine ⟨by omega, fun x hx => ?_⟩
  have := okB_i (h.2 x hx)
  omega
/-- A version as VerPut writes it. -/
def verPutS (k t u : Int) (ts : List (Int × Int)) (s : ByteArray) (g : Bool) : ByteArray := if verB k t u ts s g = true then verS k.toNat t.toNat u.toNat ts s g else ⟨#[]⟩
theorem verPutS_size (k t u : Int) (ts : List (Int × Int)) (s : ByteArray) (g : Bool) (hs : s.size ≤ 1000) : (verPutS k t u ts s g).size ≤ 20000 := by
  unfold verPutS
  split
  · rename_i h
    obtain ⟨h1, _, h3, h4⟩ := verB_parts h
    have h5 := okB_i h3
    have hT := lowT_past h4
    have z1 := decS_size k.toNat
    have z2 := tagS_size t.toNat u.toNat
    have z3 := pastS_size hT ts.length (Nat.le_refl _)
    rw [List.take_length] at z3
    have z4 := hT.1
    have z5 : (textS s g).size ≤ 1 + s.size := by
      unfold textS
      split
      · exact Nat.le_trans (Nat.le_refl 1) (Nat.le_add_right 1 _)
      · rw [ByteArray.size_append]
        exact Nat.le_refl _
    have e32 : (ByteArray.mk #[32]).size = 1 := rfl
    unfold verS
    rw [ByteArray.size_append, ByteArray.size_append, ByteArray.size_append, ByteArray.size_append, ByteArray.size_append]
    omega
  · exact Nat.zero_le _
set_option maxRecDepth 100000 in
set_option maxHeartbeats 2000000 in
theorem specVerPut_any (k t u : Int) (a : Option Addr) (c : Nat) (ts : List (Int × Int)) (s : ByteArray) (g : Bool) (w : World) (hn : ts.length ≤ 1048576) (hs : s.size ≤ 1048576) (hg : Tg w w.heap.size a ts) :
    Calls Tryd.prog 6 #[.agg (verC k t u a ts.length c s g)] w fun e w' => e = .returned (.string (verPutS k t u ts s g)) ∧ Below w.heap.size w w' := by
  have S0 := (Inv.start w).box 36 (verC k t u a ts.length c s g)
  simp only [World.size_alloc] at S0
  cases hv : verB k t u ts s g
  · have HS : Hid (verPutS k t u ts s g = ⟨#[]⟩) := by unfold Hid verPutS; rw [hv]; rfl
    have HV := hide hv
    clear hv
    go_enter Tryd.func6, Tryd.ntmps6
    go_wp2_with fail
    refine (l2Ok_any k t u a c ts s g _ hn (by omega) ((hg.on S0.below).up S0.base)).mono ?_
    rw [HV.out]
    rintro e w1 ⟨rfl, hb1⟩
    have S1 := S0.on hb1
    clear S0
    go_wp2
    go_ret
    exact ⟨by rw [HS.out]; rfl, S1.below⟩
  · obtain ⟨h1, htx, h3, h4⟩ := verB_parts hv
    have hs8 : s.size ≤ 1000 := Classical.byContradiction fun h => by
      rw [textB_long (s := s) (by omega)] at htx
      cases htx
    have h5 := okB_i h3
    obtain ⟨kn, rfl⟩ := Int.eq_ofNat_of_zero_le h1.1
    obtain ⟨tn, rfl⟩ := Int.eq_ofNat_of_zero_le (show 0 ≤ t by omega)
    obtain ⟨un, rfl⟩ := Int.eq_ofNat_of_zero_le (show 0 ≤ u by omega)
    have HS : Hid (verPutS (kn : Int) (tn : Int) (un : Int) ts s g = verS kn tn un ts s g) := by unfold Hid verPutS; rw [hv]; rfl
    have HV := hide hv
    have HT := hide (lowT_past h4)
    have k6 : kn ≤ 1000 := by omega
    have t6 : tn ≤ 1000 := by omega
    have u6 : un ≤ 1000 := by omega
    clear hv h1 h3 h4 h5 htx
    go_enter Tryd.func6, Tryd.ntmps6
    go_wp2_with fail
    refine (l2Ok_any (kn : Int) (tn : Int) (un : Int) a c ts s g _ hn (by omega) ((hg.on S0.below).up S0.base)).mono ?_
    rw [HV.out]
    rintro e w1 ⟨rfl, hb1⟩
    have S1 := S0.on hb1
    have q1 := (S1.nth 0 rfl).six.1
    clear S0 hb1
    go_wp2_with fail
    refine (l2Put_any kn tn un a c ts s g _ k6 t6 u6 HT.out hs8 ((hg.on S1.below).up S1.base)).mono ?_
    rintro e w2 ⟨rfl, hb2⟩
    have S2 := S1.on hb2
    clear S1 q1 hb2
    go_wp2
    go_ret
    exact ⟨by rw [HS.out]; rfl, S2.below⟩
end Go.Proofs.YtoechhbjfejmjaaDoor
