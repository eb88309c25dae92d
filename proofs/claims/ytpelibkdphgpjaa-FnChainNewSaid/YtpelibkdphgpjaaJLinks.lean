/- Contracts of how the model writes tags, causes and versions. Condition: numbers that are not negative, or a version whatever it is. -/
import Derived.Test.YtpelibkdphgpjaaJDec
import Derived.Test.YtpelibkdphgpjaaJStoreOk
import Derived.Test.YtpelibkdphgpjaaJTags
import Derived.Test.YtpelibkdphgpjaaJDrawVers
namespace Go.Proofs.Ytpelibkdphgpjaa
open Go.RowKit Go.Joins
attribute [local go_sem ↓] Go.wp_at_zero Go.wp_at_succ

/-- A tag as it is written. -/
def tagS (t u : Nat) : ByteArray := decS t ++ ⟨#[46]⟩ ++ decS u
theorem tagS_size (t u : Nat) : (tagS t u).size ≤ t + u + 3 := by
  unfold tagS
  rw [ByteArray.size_append, ByteArray.size_append]
  have := decS_size t
  have := decS_size u
  have : (ByteArray.mk #[46]).size = 1 := rfl
  omega
set_option maxRecDepth 100000 in
set_option maxHeartbeats 2000000 in
theorem l1Put_any (t u : Nat) (ht : t ≤ 1000000) (hu : u ≤ 1000000) (w : World) : Calls Try.prog 134 #[.agg #[.int .i64 (t : Int), .int .i64 (u : Int)]] w fun e w' => e = .returned (.string (tagS t u)) ∧ Below w.heap.size w w' := by
  have L0 := below_alloc1 w (.cells #[.int .i64 (t : Int), .int .i64 (u : Int)] 53)
  have B0 := Blk.made w 53 #[.int .i64 (t : Int), .int .i64 (u : Int)]
  have z1 := decS_size t
  have z2 := decS_size u
  have hz1 : ¬ (9223372036854775807 < (decS t).size + 1) := by omega
  have hz2 : ¬ (9223372036854775807 < (decS t).size + 1 + (decS u).size) := by omega
  have HS : Hid (tagS t u = decS t ++ ⟨#[46]⟩ ++ decS u) := rfl
  clear z1 z2
  go_enter Try.func134, Try.ntmps134
  go_wp2_with fail
  generalize w.alloc (.cells #[.int .i64 (t : Int), .int .i64 (u : Int)] 53) = W at L0 B0 ⊢
  refine wp_region_noPanic ?_
  refine wp_region_held_drew (S := (fun w' => (w'.cell? ⟨w.heap.size, 0, none⟩ = some (.int .i64 (t : Int)) ∧ w'.cell? ⟨w.heap.size, 1, none⟩ = some (.int .i64 (u : Int))) ∧ Blk w' w.heap.size 53 #[.int .i64 (t : Int), .int .i64 (u : Int)] ∧ Below w.heap.size w w')) (by kernel_rfl) (by exact ⟨⟨B0.at 0, B0.at 1⟩, B0.drew, L0.drew⟩) (fun hHeld => ?_)
  refine take_run 0 (some 3) (v := ?_) rfl rfl (by kernel_rfl) (by kernel_rfl) (by kernel_rfl) (fun _ _ _ h => h) (by rfl) ?_ hHeld ?_
  rotate_left
  · ((intro w hSw); (try dsimp only at hSw); go_simp <;> with_reducible rfl)
  simp only [Act.put, List.setIfInBounds_toArray, List.set_cons_zero, List.set_cons_succ]
  refine take_run 1 (some 4) (v := ?_) rfl rfl (by kernel_rfl) (by kernel_rfl) (by kernel_rfl) (fun _ _ _ h => h) (by rfl) ?_ hHeld ?_
  rotate_left
  · ((intro w hSw); (try dsimp only at hSw); go_simp <;> with_reducible rfl)
  simp only [Act.put, List.setIfInBounds_toArray, List.set_cons_zero, List.set_cons_succ]
  refine take_run 4 (some 7) (v := ?_) rfl rfl (by kernel_rfl) (by kernel_rfl) (by kernel_rfl) (fun _ _ _ h => h) (by rfl) ?_ hHeld ?_
  rotate_left
  · ((intro w hSw); (try dsimp only at hSw); go_simp <;> with_reducible rfl)
  simp only [Act.put, List.setIfInBounds_toArray, List.set_cons_zero, List.set_cons_succ]
  refine take_run 5 (some 8) (v := ?_) rfl rfl (by kernel_rfl) (by kernel_rfl) (by kernel_rfl) (fun _ _ _ h => h) (by rfl) ?_ hHeld ?_
  rotate_left
  · ((intro w hSw); (try dsimp only at hSw); go_simp <;> with_reducible rfl)
  simp only [Act.put, List.setIfInBounds_toArray, List.set_cons_zero, List.set_cons_succ]
  refine take_one 2 (by kernel_rfl) rfl (fun K hK => ?_)
  go_simp
  ((with_reducible refine (l1Dec_any t ht _).mono ?_); rintro e w1 ⟨rfl, hb⟩)
  try go_wp2_with fail
  refine hK.out _ _ (by exact ⟨⟨(hHeld.2.1.on hb).at 0, (hHeld.2.1.on hb).at 1⟩, hHeld.2.1.on hb, hHeld.2.2.trans (hb.mono hHeld.2.2.size)⟩) (fun hHeld => ?_)
  clear hK K
  refine take_run 3 (some 6) (v := ?_) rfl rfl (by kernel_rfl) (by kernel_rfl) (by kernel_rfl) (fun _ _ _ h => h) (by rfl) ?_ hHeld ?_
  rotate_left
  · ((intro w hSw); (try dsimp only at hSw); go_simp <;> with_reducible rfl)
  simp only [Act.put, List.setIfInBounds_toArray, List.set_cons_zero, List.set_cons_succ]
  refine take_one 6 (by kernel_rfl) rfl (fun K hK => ?_)
  go_simp
  ((with_reducible refine (l1Dec_any u hu _).mono ?_); rintro e w2 ⟨rfl, hb⟩)
  try go_wp2_with fail
  refine hK.out _ _ (by exact ⟨⟨(hHeld.2.1.on hb).at 0, (hHeld.2.1.on hb).at 1⟩, hHeld.2.1.on hb, hHeld.2.2.trans (hb.mono hHeld.2.2.size)⟩) (fun hHeld => ?_)
  clear hK K
  refine take_run 7 (some 10) (v := ?_) rfl rfl (by kernel_rfl) (by kernel_rfl) (by kernel_rfl) (fun _ _ _ h => h) (by rfl) ?_ hHeld ?_
  rotate_left
  · ((intro w hSw); (try dsimp only at hSw); go_simp <;> with_reducible rfl)
  simp only [Act.put, List.setIfInBounds_toArray, List.set_cons_zero, List.set_cons_succ]
  refine take_run 8 (some 2) (v := ?_) rfl rfl (by kernel_rfl) (by kernel_rfl) (by kernel_rfl) (fun _ _ _ h => h) (by rfl) ?_ hHeld ?_
  rotate_left
  · ((intro w hSw); (try dsimp only at hSw); go_simp <;> with_reducible rfl)
  simp only [Act.put, List.setIfInBounds_toArray, List.set_cons_zero, List.set_cons_succ]
  refine wpAnyH_done (by kernel_rfl) ?_ _
  refine NoPanic.normal ?_
  have L9 := hHeld.2.2
  clear hHeld
  go_wp2
  go_ret
  exact ⟨by rw [HS.out]; rfl, L9⟩
/-- Causes as they are written. -/
def pastS (ts : List (Int × Int)) : ByteArray := ts.foldl (fun s x => s ++ ⟨#[32]⟩ ++ tagS x.1.toNat x.2.toNat) ⟨#[]⟩
theorem pastS_step {ts : List (Int × Int)} {k : Nat} {x : Int × Int} (h : ts[k]? = some x) : pastS (ts.take (k + 1)) = pastS (ts.take k) ++ ⟨#[32]⟩ ++ tagS x.1.toNat x.2.toNat := by
  unfold pastS
  rw [List.take_add_one, h, List.foldl_append]
  rfl
/-- Numbers that are written in few figures. -/
def LowT (ts : List (Int × Int)) : Prop := ts.length ≤ 4 ∧ ∀ x ∈ ts, (0 ≤ x.1 ∧ x.1 ≤ 1000) ∧ 0 ≤ x.2 ∧ x.2 ≤ 1000
theorem pastS_size {ts : List (Int × Int)} (h : LowT ts) : ∀ k, k ≤ ts.length → (pastS (ts.take k)).size ≤ 2004 * k
  | 0, _ => Nat.zero_le _
  | k + 1, hk => by
    have hx := List.getElem?_eq_getElem (l := ts) (i := k) (by omega)
    rw [pastS_step hx, ByteArray.size_append, ByteArray.size_append]
    have h1 := pastS_size h k (by omega)
    have h2 := tagS_size ts[k].1.toNat ts[k].2.toNat
    have h3 := h.2 _ (List.mem_of_getElem? hx)
    have : (ByteArray.mk #[32]).size = 1 := rfl
    omega
set_option maxRecDepth 100000 in
set_option maxHeartbeats 2000000 in
theorem l2Past_any (a : Option Addr) (c : Nat) (ts : List (Int × Int)) (w : World) (hT : LowT ts) (ht : Tg w w.heap.size a ts) : Calls Try.prog 135 #[.agg #[.slice a ts.length c]] w fun e w' => e = .returned (.string (pastS ts)) ∧ Below w.heap.size w w' := by
  have S0 := (Inv.start w).box 33 #[.slice a ts.length c]
  simp only [World.size_alloc] at S0
  have HT := hide hT
  have HA : Hid (pastS (ts.take ts.length) = pastS ts) := by unfold Hid; rw [List.take_length]
  have h4 := hT.1
  clear hT
  generalize hnn : ts.length = n at *
  have HN := hide hnn
  clear hnn
  go_enter Try.func135, Try.ntmps135
  go_wp2
  go_loopw [3, 4] (fun v i wr => ∃ (k : Nat) (s : ByteArray), k ≤ n ∧ i = .int .i64 (k : Int) ∧ v = .string s ∧ Hid (s = pastS (ts.take k)) ∧ Inv w (w.heap.size + 1) [(w.heap.size, 33, #[.slice a n c])] wr) (fun _ i _ => n - (intOf i).toNat)
  case atStart => exact ⟨0, _, Nat.zero_le _, rfl, rfl, rfl, S0⟩
  case round =>
    obtain ⟨k, s, hk, rfl, rfl, HS, hI⟩ := hrel
    clear S0
    have q0 := (hI.nth 0 rfl).one.1
    by_cases hlt : k < n
    · rcases ht with e0 | ⟨b, off, rfl, hb, hx⟩
      · have := HN.out; subst e0; simp at this; omega
      · obtain ⟨x, hxx⟩ : ∃ x, ts[k]? = some x := ⟨_, List.getElem?_eq_getElem (by have := HN.out; omega)⟩
        have hlow := HT.out.2 x (List.mem_of_getElem? hxx)
        have hst := pastS_step hxx
        have hsz := pastS_size HT.out k (by have := HN.out; omega)
        rw [← HS.out] at hst hsz
        have c0 := (hI.below.cell (p := ⟨b, off + k * 2, none⟩) hb).trans (hx k x hxx).1
        have c1 := (hI.below.cell (p := ⟨b, off + k * 2 + 1, none⟩) hb).trans (hx k x hxx).2
        obtain ⟨x1, x2⟩ := x
        simp only at c0 c1 hlow hst
        obtain ⟨t, rfl⟩ := Int.eq_ofNat_of_zero_le hlow.1.1
        obtain ⟨u, rfl⟩ := Int.eq_ofNat_of_zero_le hlow.2.1
        simp only [Int.toNat_natCast] at hst
        have HST := hide hst
        have z3 := tagS_size t u
        have hz1 : ¬ (9223372036854775807 < s.size + 1) := by omega
        have hz2 : ¬ (9223372036854775807 < s.size + 1 + (tagS t u).size) := by omega
        have i1 : (0 : Int) ≤ (k : Int) := by omega
        have i2 : (k : Int) < (n : Int) := by omega
        have t6 : t ≤ 1000000 := by omega
        have u6 : u ≤ 1000000 := by omega
        clear hx hxx hst z3 hsz hlow
        go_wp2_with fail
        refine (l1Put_any t u t6 u6 _).mono ?_
        rintro e w1 ⟨rfl, hb1⟩
        have I1 := hI.on hb1
        clear hI q0 c0 c1 hb1
        go_wp2
        exact ⟨⟨k + 1, _, by omega, by go_num, rfl, HST.out.symm, I1⟩, by simp [intOf]; omega⟩
    · have hkn : k = n := by omega
      subst hkn
      clear hlt
      go_wp2
      go_ret
      exact ⟨by rw [← HA.out, ← HS.out]; rfl, hI.below⟩
/-- The text of a version as it is written. -/
def textS (s : ByteArray) (g : Bool) : ByteArray := if g = true then ⟨#[45]⟩ else ⟨#[61]⟩ ++ s
/-- A version as it is written. -/
def verS (k t u : Nat) (ts : List (Int × Int)) (s : ByteArray) (g : Bool) : ByteArray := decS k ++ ⟨#[32]⟩ ++ tagS t u ++ pastS ts ++ ⟨#[32]⟩ ++ textS s g
set_option maxRecDepth 100000 in
set_option maxHeartbeats 2000000 in
theorem l2Put_any (k t u : Nat) (a : Option Addr) (c : Nat) (ts : List (Int × Int)) (s : ByteArray) (g : Bool) (w : World) (hk : k ≤ 1000) (ht : t ≤ 1000) (hu : u ≤ 1000) (hT : LowT ts) (hs : s.size ≤ 1000) (hg : Tg w w.heap.size a ts) :
    Calls Try.prog 132 #[.agg (verC (k : Int) (t : Int) (u : Int) a ts.length c s g)] w fun e w' => e = .returned (.string (verS k t u ts s g)) ∧ Below w.heap.size w w' := by
  have S0 := (Inv.start w).box 55 (verC (k : Int) (t : Int) (u : Int) a ts.length c s g)
  simp only [World.size_alloc] at S0
  have z1 := decS_size k
  have z2 := tagS_size t u
  have z3 := pastS_size hT ts.length (Nat.le_refl _)
  rw [List.take_length] at z3
  have z4 := hT.1
  have hz0 : ¬ (9223372036854775807 < 1 + s.size) := by omega
  have hz1 : ¬ (9223372036854775807 < (decS k).size + 1) := by omega
  have hz2 : ¬ (9223372036854775807 < (decS k).size + 1 + (tagS t u).size) := by omega
  have hz3 : ¬ (9223372036854775807 < (decS k).size + 1 + (tagS t u).size + (pastS ts).size) := by omega
  have hz4 : ¬ (9223372036854775807 < (decS k).size + 1 + (tagS t u).size + (pastS ts).size + 1) := by omega
  have hz5 : ¬ (9223372036854775807 < (decS k).size + 1 + (tagS t u).size + (pastS ts).size + 1 + 1) := by omega
  have hz6 : ¬ (9223372036854775807 < (decS k).size + 1 + (tagS t u).size + (pastS ts).size + 1 + (1 + s.size)) := by omega
  have HT := hide hT
  have HG := hide hg
  clear hT hg z1 z2 z3 z4
  have q0 := (S0.nth 0 rfl).six.1
  have B0 := S0.nth 0 rfl
  have L0 := S0.below
  clear S0
  cases g
  all_goals
    go_enter Try.func132, Try.ntmps132
    go_wp2_with fail
  · have HS : Hid (verS k t u ts s false = decS k ++ ⟨#[32]⟩ ++ tagS t u ++ pastS ts ++ ⟨#[32]⟩ ++ (⟨#[61]⟩ ++ s)) := rfl
    generalize w.alloc (.cells (verC (k : Int) (t : Int) (u : Int) a ts.length c s false) 55) = W at L0 B0 q0 ⊢
    refine wp_region_noPanic ?_
    refine wp_region_held_drew (S := (fun w' => (w'.cell? ⟨w.heap.size, 0, none⟩ = some (.int .i64 (k : Int)) ∧ w'.cell? ⟨w.heap.size, 1, none⟩ = some (.int .i64 (t : Int)) ∧ w'.cell? ⟨w.heap.size, 2, none⟩ = some (.int .i64 (u : Int)) ∧ w'.cell? ⟨w.heap.size, 3, none⟩ = some (.slice a ts.length c)) ∧ Blk w' w.heap.size 55 (verC (k : Int) (t : Int) (u : Int) a ts.length c s false) ∧ Below w.heap.size w w')) (by kernel_rfl) (by exact ⟨⟨B0.at 0, B0.at 1, B0.at 2, B0.at 3⟩, B0.drew, L0.drew⟩) (fun hHeld => ?_)
    refine take_run 0 (some 9) (v := ?_) rfl rfl (by kernel_rfl) (by kernel_rfl) (by kernel_rfl) (fun _ _ _ h => h) (by rfl) ?_ hHeld ?_
    rotate_left
    · ((intro w hSw); (try dsimp only at hSw); go_simp <;> with_reducible rfl)
    simp only [Act.put, List.setIfInBounds_toArray, List.set_cons_zero, List.set_cons_succ]
    refine take_run 1 (some 10) (v := ?_) rfl rfl (by kernel_rfl) (by kernel_rfl) (by kernel_rfl) (fun _ _ _ h => h) (by rfl) ?_ hHeld ?_
    rotate_left
    · ((intro w hSw); (try dsimp only at hSw); go_simp <;> with_reducible rfl)
    simp only [Act.put, List.setIfInBounds_toArray, List.set_cons_zero, List.set_cons_succ]
    refine take_run 4 (some 13) (v := ?_) rfl rfl (by kernel_rfl) (by kernel_rfl) (by kernel_rfl) (fun _ _ _ h => h) (by rfl) ?_ hHeld ?_
    rotate_left
    · ((intro w hSw); (try dsimp only at hSw); go_simp <;> with_reducible rfl)
    simp only [Act.put, List.setIfInBounds_toArray, List.set_cons_zero, List.set_cons_succ]
    refine take_run 5 (some 14) (v := ?_) rfl rfl (by kernel_rfl) (by kernel_rfl) (by kernel_rfl) (fun _ _ _ h => h) (by rfl) ?_ hHeld ?_
    rotate_left
    · ((intro w hSw); (try dsimp only at hSw); go_simp <;> with_reducible rfl)
    simp only [Act.put, List.setIfInBounds_toArray, List.set_cons_zero, List.set_cons_succ]
    refine take_run 8 (some 17) (v := ?_) rfl rfl (by kernel_rfl) (by kernel_rfl) (by kernel_rfl) (fun _ _ _ h => h) (by rfl) ?_ hHeld ?_
    rotate_left
    · ((intro w hSw); (try dsimp only at hSw); go_simp <;> with_reducible rfl)
    simp only [Act.put, List.setIfInBounds_toArray, List.set_cons_zero, List.set_cons_succ]
    refine take_run 9 (some 18) (v := ?_) rfl rfl (by kernel_rfl) (by kernel_rfl) (by kernel_rfl) (fun _ _ _ h => h) (by rfl) ?_ hHeld ?_
    rotate_left
    · ((intro w hSw); (try dsimp only at hSw); go_simp <;> with_reducible rfl)
    simp only [Act.put, List.setIfInBounds_toArray, List.set_cons_zero, List.set_cons_succ]
    refine take_run 13 (some 22) (v := ?_) rfl rfl (by kernel_rfl) (by kernel_rfl) (by kernel_rfl) (fun _ _ _ h => h) (by rfl) ?_ hHeld ?_
    rotate_left
    · ((intro w hSw); (try dsimp only at hSw); go_simp <;> with_reducible rfl)
    simp only [Act.put, List.setIfInBounds_toArray, List.set_cons_zero, List.set_cons_succ]
    refine take_one 2 (by kernel_rfl) rfl (fun K hK => ?_)
    go_simp
    ((with_reducible refine (l1Dec_any k (by omega) _).mono ?_); rintro e w1 ⟨rfl, hb⟩)
    try go_wp2_with fail
    refine hK.out _ _ (by exact ⟨⟨(hHeld.2.1.on hb).at 0, (hHeld.2.1.on hb).at 1, (hHeld.2.1.on hb).at 2, (hHeld.2.1.on hb).at 3⟩, hHeld.2.1.on hb, hHeld.2.2.trans (hb.mono hHeld.2.2.size)⟩) (fun hHeld => ?_)
    clear hK K
    refine take_run 3 (some 12) (v := ?_) rfl rfl (by kernel_rfl) (by kernel_rfl) (by kernel_rfl) (fun _ _ _ h => h) (by rfl) ?_ hHeld ?_
    rotate_left
    · ((intro w hSw); (try dsimp only at hSw); go_simp <;> with_reducible rfl)
    simp only [Act.put, List.setIfInBounds_toArray, List.set_cons_zero, List.set_cons_succ]
    refine take_one 6 (by kernel_rfl) rfl (fun K hK => ?_)
    go_simp
    ((with_reducible refine (l1Put_any t u (by omega) (by omega) _).mono ?_); rintro e w2 ⟨rfl, hb⟩)
    try go_wp2_with fail
    refine hK.out _ _ (by exact ⟨⟨(hHeld.2.1.on hb).at 0, (hHeld.2.1.on hb).at 1, (hHeld.2.1.on hb).at 2, (hHeld.2.1.on hb).at 3⟩, hHeld.2.1.on hb, hHeld.2.2.trans (hb.mono hHeld.2.2.size)⟩) (fun hHeld => ?_)
    clear hK K
    refine take_run 7 (some 16) (v := ?_) rfl rfl (by kernel_rfl) (by kernel_rfl) (by kernel_rfl) (fun _ _ _ h => h) (by rfl) ?_ hHeld ?_
    rotate_left
    · ((intro w hSw); (try dsimp only at hSw); go_simp <;> with_reducible rfl)
    simp only [Act.put, List.setIfInBounds_toArray, List.set_cons_zero, List.set_cons_succ]
    refine take_one 10 (by kernel_rfl) rfl (fun K hK => ?_)
    go_simp
    ((with_reducible refine (l2Past_any a c ts _ HT.out ((HG.out.on hHeld.2.2).up hHeld.2.2.size)).mono ?_); rintro e w3 ⟨rfl, hb⟩)
    try go_wp2_with fail
    refine hK.out _ _ (by exact ⟨⟨(hHeld.2.1.on hb).at 0, (hHeld.2.1.on hb).at 1, (hHeld.2.1.on hb).at 2, (hHeld.2.1.on hb).at 3⟩, hHeld.2.1.on hb, hHeld.2.2.trans (hb.mono hHeld.2.2.size)⟩) (fun hHeld => ?_)
    clear hK K
    refine take_run 11 (some 20) (v := ?_) rfl rfl (by kernel_rfl) (by kernel_rfl) (by kernel_rfl) (fun _ _ _ h => h) (by rfl) ?_ hHeld ?_
    rotate_left
    · ((intro w hSw); (try dsimp only at hSw); go_simp <;> with_reducible rfl)
    simp only [Act.put, List.setIfInBounds_toArray, List.set_cons_zero, List.set_cons_succ]
    refine take_run 12 (some 21) (v := ?_) rfl rfl (by kernel_rfl) (by kernel_rfl) (by kernel_rfl) (fun _ _ _ h => h) (by rfl) ?_ hHeld ?_
    rotate_left
    · ((intro w hSw); (try dsimp only at hSw); go_simp <;> with_reducible rfl)
    simp only [Act.put, List.setIfInBounds_toArray, List.set_cons_zero, List.set_cons_succ]
    refine take_run 14 (some 23) (v := ?_) rfl rfl (by kernel_rfl) (by kernel_rfl) (by kernel_rfl) (fun _ _ _ h => h) (by rfl) ?_ hHeld ?_
    rotate_left
    · ((intro w hSw); (try dsimp only at hSw); go_simp <;> with_reducible rfl)
    simp only [Act.put, List.setIfInBounds_toArray, List.set_cons_zero, List.set_cons_succ]
    refine take_run 15 (some 2) (v := ?_) rfl rfl (by kernel_rfl) (by kernel_rfl) (by kernel_rfl) (fun _ _ _ h => h) (by rfl) ?_ hHeld ?_
    rotate_left
    · ((intro w hSw); (try dsimp only at hSw); go_simp <;> with_reducible rfl)
    simp only [Act.put, List.setIfInBounds_toArray, List.set_cons_zero, List.set_cons_succ]
    refine wpAnyH_done (by kernel_rfl) ?_ _
    refine NoPanic.normal ?_
    have L9 := hHeld.2.2
    clear hHeld
    go_wp2
    go_ret
    exact ⟨by rw [HS.out]; rfl, L9⟩
  · have HS : Hid (verS k t u ts s true = decS k ++ ⟨#[32]⟩ ++ tagS t u ++ pastS ts ++ ⟨#[32]⟩ ++ ⟨#[45]⟩) := rfl
    generalize w.alloc (.cells (verC (k : Int) (t : Int) (u : Int) a ts.length c s true) 55) = W at L0 B0 q0 ⊢
    refine wp_region_noPanic ?_
    refine wp_region_held_drew (S := (fun w' => (w'.cell? ⟨w.heap.size, 0, none⟩ = some (.int .i64 (k : Int)) ∧ w'.cell? ⟨w.heap.size, 1, none⟩ = some (.int .i64 (t : Int)) ∧ w'.cell? ⟨w.heap.size, 2, none⟩ = some (.int .i64 (u : Int)) ∧ w'.cell? ⟨w.heap.size, 3, none⟩ = some (.slice a ts.length c)) ∧ Blk w' w.heap.size 55 (verC (k : Int) (t : Int) (u : Int) a ts.length c s true) ∧ Below w.heap.size w w')) (by kernel_rfl) (by exact ⟨⟨B0.at 0, B0.at 1, B0.at 2, B0.at 3⟩, B0.drew, L0.drew⟩) (fun hHeld => ?_)
    refine take_run 0 (some 9) (v := ?_) rfl rfl (by kernel_rfl) (by kernel_rfl) (by kernel_rfl) (fun _ _ _ h => h) (by rfl) ?_ hHeld ?_
    rotate_left
    · ((intro w hSw); (try dsimp only at hSw); go_simp <;> with_reducible rfl)
    simp only [Act.put, List.setIfInBounds_toArray, List.set_cons_zero, List.set_cons_succ]
    refine take_run 1 (some 10) (v := ?_) rfl rfl (by kernel_rfl) (by kernel_rfl) (by kernel_rfl) (fun _ _ _ h => h) (by rfl) ?_ hHeld ?_
    rotate_left
    · ((intro w hSw); (try dsimp only at hSw); go_simp <;> with_reducible rfl)
    simp only [Act.put, List.setIfInBounds_toArray, List.set_cons_zero, List.set_cons_succ]
    refine take_run 4 (some 13) (v := ?_) rfl rfl (by kernel_rfl) (by kernel_rfl) (by kernel_rfl) (fun _ _ _ h => h) (by rfl) ?_ hHeld ?_
    rotate_left
    · ((intro w hSw); (try dsimp only at hSw); go_simp <;> with_reducible rfl)
    simp only [Act.put, List.setIfInBounds_toArray, List.set_cons_zero, List.set_cons_succ]
    refine take_run 5 (some 14) (v := ?_) rfl rfl (by kernel_rfl) (by kernel_rfl) (by kernel_rfl) (fun _ _ _ h => h) (by rfl) ?_ hHeld ?_
    rotate_left
    · ((intro w hSw); (try dsimp only at hSw); go_simp <;> with_reducible rfl)
    simp only [Act.put, List.setIfInBounds_toArray, List.set_cons_zero, List.set_cons_succ]
    refine take_run 8 (some 17) (v := ?_) rfl rfl (by kernel_rfl) (by kernel_rfl) (by kernel_rfl) (fun _ _ _ h => h) (by rfl) ?_ hHeld ?_
    rotate_left
    · ((intro w hSw); (try dsimp only at hSw); go_simp <;> with_reducible rfl)
    simp only [Act.put, List.setIfInBounds_toArray, List.set_cons_zero, List.set_cons_succ]
    refine take_run 9 (some 18) (v := ?_) rfl rfl (by kernel_rfl) (by kernel_rfl) (by kernel_rfl) (fun _ _ _ h => h) (by rfl) ?_ hHeld ?_
    rotate_left
    · ((intro w hSw); (try dsimp only at hSw); go_simp <;> with_reducible rfl)
    simp only [Act.put, List.setIfInBounds_toArray, List.set_cons_zero, List.set_cons_succ]
    refine take_run 13 (some 22) (v := ?_) rfl rfl (by kernel_rfl) (by kernel_rfl) (by kernel_rfl) (fun _ _ _ h => h) (by rfl) ?_ hHeld ?_
    rotate_left
    · ((intro w hSw); (try dsimp only at hSw); go_simp <;> with_reducible rfl)
    simp only [Act.put, List.setIfInBounds_toArray, List.set_cons_zero, List.set_cons_succ]
    refine take_one 2 (by kernel_rfl) rfl (fun K hK => ?_)
    go_simp
    ((with_reducible refine (l1Dec_any k (by omega) _).mono ?_); rintro e w1 ⟨rfl, hb⟩)
    try go_wp2_with fail
    refine hK.out _ _ (by exact ⟨⟨(hHeld.2.1.on hb).at 0, (hHeld.2.1.on hb).at 1, (hHeld.2.1.on hb).at 2, (hHeld.2.1.on hb).at 3⟩, hHeld.2.1.on hb, hHeld.2.2.trans (hb.mono hHeld.2.2.size)⟩) (fun hHeld => ?_)
    clear hK K
    refine take_run 3 (some 12) (v := ?_) rfl rfl (by kernel_rfl) (by kernel_rfl) (by kernel_rfl) (fun _ _ _ h => h) (by rfl) ?_ hHeld ?_
    rotate_left
    · ((intro w hSw); (try dsimp only at hSw); go_simp <;> with_reducible rfl)
    simp only [Act.put, List.setIfInBounds_toArray, List.set_cons_zero, List.set_cons_succ]
    refine take_one 6 (by kernel_rfl) rfl (fun K hK => ?_)
    go_simp
    ((with_reducible refine (l1Put_any t u (by omega) (by omega) _).mono ?_); rintro e w2 ⟨rfl, hb⟩)
    try go_wp2_with fail
    refine hK.out _ _ (by exact ⟨⟨(hHeld.2.1.on hb).at 0, (hHeld.2.1.on hb).at 1, (hHeld.2.1.on hb).at 2, (hHeld.2.1.on hb).at 3⟩, hHeld.2.1.on hb, hHeld.2.2.trans (hb.mono hHeld.2.2.size)⟩) (fun hHeld => ?_)
    clear hK K
    refine take_run 7 (some 16) (v := ?_) rfl rfl (by kernel_rfl) (by kernel_rfl) (by kernel_rfl) (fun _ _ _ h => h) (by rfl) ?_ hHeld ?_
    rotate_left
    · ((intro w hSw); (try dsimp only at hSw); go_simp <;> with_reducible rfl)
    simp only [Act.put, List.setIfInBounds_toArray, List.set_cons_zero, List.set_cons_succ]
    refine take_one 10 (by kernel_rfl) rfl (fun K hK => ?_)
    go_simp
    ((with_reducible refine (l2Past_any a c ts _ HT.out ((HG.out.on hHeld.2.2).up hHeld.2.2.size)).mono ?_); rintro e w3 ⟨rfl, hb⟩)
    try go_wp2_with fail
    refine hK.out _ _ (by exact ⟨⟨(hHeld.2.1.on hb).at 0, (hHeld.2.1.on hb).at 1, (hHeld.2.1.on hb).at 2, (hHeld.2.1.on hb).at 3⟩, hHeld.2.1.on hb, hHeld.2.2.trans (hb.mono hHeld.2.2.size)⟩) (fun hHeld => ?_)
    clear hK K
    refine take_run 11 (some 20) (v := ?_) rfl rfl (by kernel_rfl) (by kernel_rfl) (by kernel_rfl) (fun _ _ _ h => h) (by rfl) ?_ hHeld ?_
    rotate_left
    · ((intro w hSw); (try dsimp only at hSw); go_simp <;> with_reducible rfl)
    simp only [Act.put, List.setIfInBounds_toArray, List.set_cons_zero, List.set_cons_succ]
    refine take_run 12 (some 21) (v := ?_) rfl rfl (by kernel_rfl) (by kernel_rfl) (by kernel_rfl) (fun _ _ _ h => h) (by rfl) ?_ hHeld ?_
    rotate_left
    · ((intro w hSw); (try dsimp only at hSw); go_simp <;> with_reducible rfl)
    simp only [Act.put, List.setIfInBounds_toArray, List.set_cons_zero, List.set_cons_succ]
    refine take_run 14 (some 23) (v := ?_) rfl rfl (by kernel_rfl) (by kernel_rfl) (by kernel_rfl) (fun _ _ _ h => h) (by rfl) ?_ hHeld ?_
    rotate_left
    · ((intro w hSw); (try dsimp only at hSw); go_simp <;> with_reducible rfl)
    simp only [Act.put, List.setIfInBounds_toArray, List.set_cons_zero, List.set_cons_succ]
    refine take_run 15 (some 2) (v := ?_) rfl rfl (by kernel_rfl) (by kernel_rfl) (by kernel_rfl) (fun _ _ _ h => h) (by rfl) ?_ hHeld ?_
    rotate_left
    · ((intro w hSw); (try dsimp only at hSw); go_simp <;> with_reducible rfl)
    simp only [Act.put, List.setIfInBounds_toArray, List.set_cons_zero, List.set_cons_succ]
    refine wpAnyH_done (by kernel_rfl) ?_ _
    refine NoPanic.normal ?_
    have L9 := hHeld.2.2
    clear hHeld
    go_wp2
    go_ret
    exact ⟨by rw [HS.out]; rfl, L9⟩
theorem verB_parts {k t u : Int} {ts : List (Int × Int)} {s : ByteArray} {g : Bool} (h : verB k t u ts s g = true) : (0 ≤ k ∧ k ≤ 3) ∧ textB s = true ∧ okB t u = true ∧ pastB ts = true := by
  unfold verB at h
  simp only [Bool.and_eq_true, decide_eq_true_eq] at h
  exact ⟨h.1.1.1.1.1.1, h.1.1.1.1.1.2, h.1.1.1.1.2, h.1.2⟩
theorem lowT_past {ts : List (Int × Int)} (h : pastB ts = true) : LowT ts := by
  unfold pastB at h
  rw [Bool.and_eq_true, List.all_eq_true, decide_eq_true_eq] at h
  refine ⟨by omega, fun x hx => ?_⟩
  have := okB_i (h.2 x hx)
  omega
/-- A version as VerPut writes it. -/
def verPutS (k t u : Int) (ts : List (Int × Int)) (s : ByteArray) (g : Bool) : ByteArray := if verB k t u ts s g = true then verS k.toNat t.toNat u.toNat ts s g else ⟨#[]⟩
theorem verPutS_size (k t u : Int) (ts : List (Int × Int)) (s : ByteArray) (g : Bool) (hs : s.size ≤ 1000) : (verPutS k t u ts s g).size ≤ 20000 := by
  unfold verPutS
  split
  · rename_i h
    obtain ⟨h1, _, h3, h4⟩ := verB_parts h
    have h5 := okB_i h3
    have hT := lowT_past h4
    have z1 := decS_size k.toNat
    have z2 := tagS_size t.toNat u.toNat
    have z3 := pastS_size hT ts.length (Nat.le_refl _)
    rw [List.take_length] at z3
    have z4 := hT.1
    have z5 : (textS s g).size ≤ 1 + s.size := by
      unfold textS
      split
      · exact Nat.le_trans (Nat.le_refl 1) (Nat.le_add_right 1 _)
      · rw [ByteArray.size_append]
        exact Nat.le_refl _
    have e32 : (ByteArray.mk #[32]).size = 1 := rfl
    unfold verS
    rw [ByteArray.size_append, ByteArray.size_append, ByteArray.size_append, ByteArray.size_append, ByteArray.size_append]
    omega
  · exact Nat.zero_le _
end Go.Proofs.Ytpelibkdphgpjaa
/- Versions are told apart by how the model writes them. Condition: versions that are valid. -/
namespace Go.Proofs.Ytpelibkdphgpjaa

/-- The bytes of a text. -/
def bl (s : ByteArray) : List UInt8 := s.data.toList
theorem bl_app (s t : ByteArray) : bl (s ++ t) = bl s ++ bl t := by simp [bl, ByteArray.data_append]
theorem bl_inj {s t : ByteArray} (h : bl s = bl t) : s = t := by
  cases s with | mk a =>
  cases t with | mk b =>
  have : a = b := Array.toList_inj.1 h
  rw [this]
def Dig (b : UInt8) : Prop := 48 ≤ b.toNat ∧ b.toNat ≤ 57
theorem bl_fig (n : Nat) : bl (figS n) = [UInt8.ofNat (48 + n)] := rfl
theorem dig_fig {n : Nat} (h : n < 10) : Dig (UInt8.ofNat (48 + n)) := by
  unfold Dig
  rw [UInt8.toNat_ofNat']
  omega
theorem dec_dig (n : Nat) : ∀ b ∈ bl (decS n), Dig b := by
  induction n using Nat.strongRecOn with
  | ind n ih =>
    intro b hb
    by_cases h : n < 10
    · rw [decS_low h, bl_fig] at hb
      rw [List.mem_singleton.1 hb]
      exact dig_fig h
    · rw [decS_high h, bl_app, bl_fig, List.mem_append] at hb
      rcases hb with hb | hb
      · exact ih (n / 10) (by omega) b hb
      · rw [List.mem_singleton.1 hb]
        exact dig_fig (by omega)
def valL (l : List UInt8) : Nat := l.foldl (fun a b => a * 10 + (b.toNat - 48)) 0
theorem val_snoc (l : List UInt8) (b : UInt8) : valL (l ++ [b]) = valL l * 10 + (b.toNat - 48) := by simp [valL, List.foldl_append]
theorem val_dec (n : Nat) : valL (bl (decS n)) = n := by
  induction n using Nat.strongRecOn with
  | ind n ih =>
    by_cases h : n < 10
    · rw [decS_low h, bl_fig]
      have : (UInt8.ofNat (48 + n)).toNat = 48 + n := by rw [UInt8.toNat_ofNat']; omega
      show 0 * 10 + ((UInt8.ofNat (48 + n)).toNat - 48) = n
      omega
    · have : (UInt8.ofNat (48 + n % 10)).toNat = 48 + n % 10 := by rw [UInt8.toNat_ofNat']; omega
      rw [decS_high h, bl_app, bl_fig, val_snoc, ih (n / 10) (by omega), this]
      omega
theorem split_at : ∀ (a a' : List UInt8) (c c' : UInt8) (r r' : List UInt8), (∀ b ∈ a, Dig b) → (∀ b ∈ a', Dig b) → ¬ Dig c → ¬ Dig c' → a ++ c :: r = a' ++ c' :: r' → a = a' ∧ c = c' ∧ r = r'
  | [], [], c, c', r, r', _, _, _, _, h => by
    injection h with h1 h2
    exact ⟨rfl, h1, h2⟩
  | [], x :: a', c, c', r, r', _, h2, h3, _, h => by
    injection h with h _
    exact absurd (h2 x (List.mem_cons_self ..)) (h ▸ h3)
  | x :: a, [], c, c', r, r', h1, _, _, h4, h => by
    injection h with h _
    exact absurd (h1 x (List.mem_cons_self ..)) (h.symm ▸ h4)
  | x :: a, y :: a', c, c', r, r', h1, h2, h3, h4, h => by
    injection h with e h
    obtain ⟨q1, q2, q3⟩ := split_at a a' c c' r r' (fun b hb => h1 b (List.mem_cons_of_mem _ hb)) (fun b hb => h2 b (List.mem_cons_of_mem _ hb)) h3 h4 h
    exact ⟨by rw [e, q1], q2, q3⟩
theorem dec_split {n n' : Nat} {c c' : UInt8} {r r' : List UInt8} (hc : ¬ Dig c) (hc' : ¬ Dig c') (h : bl (decS n) ++ c :: r = bl (decS n') ++ c' :: r') : n = n' ∧ r = r' := by
  obtain ⟨h1, _, h3⟩ := split_at _ _ _ _ _ _ (dec_dig n) (dec_dig n') hc hc' h
  exact ⟨by rw [← val_dec n, h1, val_dec], h3⟩
theorem nodig32 : ¬ Dig 32 := by unfold Dig; decide
theorem nodig46 : ¬ Dig 46 := by unfold Dig; decide
/-- Causes and what follows them, as they are written. -/
def pastT (ts : List (Int × Int)) (R : List UInt8) : List UInt8 := ts.foldr (fun x r => 32 :: (bl (decS x.1.toNat) ++ 46 :: (bl (decS x.2.toNat) ++ r))) R
theorem pastS_from (ts : List (Int × Int)) (s : ByteArray) (R : List UInt8) : bl (ts.foldl (fun s x => s ++ ⟨#[32]⟩ ++ tagS x.1.toNat x.2.toNat) s) ++ R = bl s ++ pastT ts R := by
  induction ts generalizing s with
  | nil => rfl
  | cons x r ih =>
    rw [List.foldl_cons, ih]
    have e1 : bl (ByteArray.mk #[32]) = [32] := rfl
    have e2 : bl (ByteArray.mk #[46]) = [46] := rfl
    simp only [tagS, bl_app, e1, e2, pastT, List.foldr_cons, List.append_assoc, List.cons_append, List.nil_append]
theorem pastS_T (ts : List (Int × Int)) (R : List UInt8) : bl (pastS ts) ++ R = pastT ts R := pastS_from ts ⟨#[]⟩ R
theorem pastT_head (ts : List (Int × Int)) (r : List UInt8) : ∃ q, pastT ts (32 :: r) = 32 :: q := by
  cases ts with
  | nil => exact ⟨r, rfl⟩
  | cons x l => exact ⟨_, rfl⟩
theorem pastT_inj : ∀ (ts ts' : List (Int × Int)) (r r' : List UInt8), ts.length = ts'.length → (∀ x ∈ ts, 0 ≤ x.1 ∧ 0 ≤ x.2) → (∀ x ∈ ts', 0 ≤ x.1 ∧ 0 ≤ x.2) → pastT ts (32 :: r) = pastT ts' (32 :: r') → ts = ts' ∧ r = r'
  | [], [], r, r', _, _, _, h => ⟨rfl, by injection h⟩
  | [], _ :: _, _, _, h, _, _, _ => by simp at h
  | _ :: _, [], _, _, h, _, _, _ => by simp at h
  | x :: ts, y :: ts', r, r', hl, h1, h2, h => by
    simp only [pastT, List.foldr_cons] at h
    injection h with _ h
    obtain ⟨e1, h⟩ := dec_split nodig46 nodig46 h
    obtain ⟨q, hq⟩ := pastT_head ts r
    obtain ⟨q', hq'⟩ := pastT_head ts' r'
    have h' : bl (decS x.2.toNat) ++ pastT ts (32 :: r) = bl (decS y.2.toNat) ++ pastT ts' (32 :: r') := h
    rw [hq, hq'] at h'
    obtain ⟨e2, h'⟩ := dec_split nodig32 nodig32 h'
    have h'' : pastT ts (32 :: r) = pastT ts' (32 :: r') := by rw [hq, hq', h']
    simp only [List.length_cons] at hl
    obtain ⟨e3, e4⟩ := pastT_inj ts ts' r r' (by omega) (fun b hb => h1 b (List.mem_cons_of_mem _ hb)) (fun b hb => h2 b (List.mem_cons_of_mem _ hb)) h''
    have p1 := h1 x (List.mem_cons_self ..)
    have p2 := h2 y (List.mem_cons_self ..)
    refine ⟨?_, e4⟩
    rw [e3]
    congr 1
    exact Prod.ext (by omega) (by omega)
theorem text_inj {s s' : ByteArray} {g g' : Bool} (h : bl (textS s g) = bl (textS s' g')) : g = g' ∧ (g = false → s = s') := by
  have e1 : bl (ByteArray.mk #[45]) = [45] := rfl
  have e2 : bl (ByteArray.mk #[61]) = [61] := rfl
  cases g <;> cases g'
  · refine ⟨rfl, fun _ => bl_inj ?_⟩
    simp only [textS, Bool.false_eq_true, if_false, bl_app, e2, List.singleton_append] at h
    injection h
  · simp only [textS, Bool.false_eq_true, if_false, if_true, bl_app, e1, e2, List.singleton_append] at h
    injection h with h _
    exact absurd h (by decide)
  · simp only [textS, Bool.false_eq_true, if_false, if_true, bl_app, e1, e2, List.singleton_append] at h
    injection h with h _
    exact absurd h (by decide)
  · exact ⟨rfl, fun h => by cases h⟩
theorem verS_inj {k t u k' t' u' : Nat} {ts ts' : List (Int × Int)} {s s' : ByteArray} {g g' : Bool} (hl : ts.length = ts'.length) (h1 : ∀ x ∈ ts, 0 ≤ x.1 ∧ 0 ≤ x.2) (h2 : ∀ x ∈ ts', 0 ≤ x.1 ∧ 0 ≤ x.2) (h : verS k t u ts s g = verS k' t' u' ts' s' g') :
    k = k' ∧ t = t' ∧ u = u' ∧ ts = ts' ∧ g = g' ∧ (g = false → s = s') := by
  have h := congrArg bl h
  have e1 : bl (ByteArray.mk #[32]) = [32] := rfl
  have e2 : bl (ByteArray.mk #[46]) = [46] := rfl
  simp only [verS, tagS, bl_app, e1, e2, List.append_assoc, List.cons_append, List.nil_append] at h
  rw [pastS_T, pastS_T] at h
  obtain ⟨q1, h⟩ := dec_split nodig32 nodig32 h
  obtain ⟨q2, h⟩ := dec_split nodig46 nodig46 h
  obtain ⟨q, hq⟩ := pastT_head ts (bl (textS s g))
  obtain ⟨q', hq'⟩ := pastT_head ts' (bl (textS s' g'))
  rw [hq, hq'] at h
  obtain ⟨q3, h⟩ := dec_split nodig32 nodig32 h
  have h'' : pastT ts (32 :: bl (textS s g)) = pastT ts' (32 :: bl (textS s' g')) := by rw [hq, hq', h]
  obtain ⟨q4, h⟩ := pastT_inj ts ts' _ _ hl h1 h2 h''
  obtain ⟨q5, q6⟩ := text_inj h
  exact ⟨q1, q2, q3, q4, q5, q6⟩
end Go.Proofs.Ytpelibkdphgpjaa
/- Contracts of whether two versions, two slices of versions are the same, in the program and in the model. Condition: what is said of each. -/
namespace Go.Proofs.Ytpelibkdphgpjaa
open Go.RowKit Go.Joins
attribute [local go_sem ↓] Go.wp_at_zero Go.wp_at_succ

theorem tagEq_at (a b t u : Int) (W : World) : (binOp .eql 53 (.agg #[.int .i64 a, .int .i64 b]) (.agg #[.int .i64 t, .int .i64 u])).run Try.prog W = .ok (.bool (eqB a b t u)) W := by
  by_cases ht : a = t
  · subst ht
    by_cases hp : b = u
    · subst hp
      rw [eqB_same]
      go_simp
    · have h : eqB a b a u = false := by unfold eqB; simpa using hp
      rw [h]
      go_simp
  · have h : eqB a b t u = false := by unfold eqB; simp [ht]
    rw [h]
    go_simp
theorem tagNe_at (a b t u : Int) (W : World) : (binOp .neq 53 (.agg #[.int .i64 a, .int .i64 b]) (.agg #[.int .i64 t, .int .i64 u])).run Try.prog W = .ok (.bool (!eqB a b t u)) W := by
  by_cases ht : a = t
  · subst ht
    by_cases hp : b = u
    · subst hp
      rw [eqB_same]
      go_simp
    · have h : eqB a b a u = false := by unfold eqB; simpa using hp
      rw [h]
      go_simp
  · have h : eqB a b t u = false := by unfold eqB; simp [ht]
    rw [h]
    go_simp
theorem str_same (s s' : ByteArray) : (s.toList == s'.toList) = decide (s = s') := by
  rw [Bool.eq_iff_iff, beq_iff_eq, decide_eq_true_eq, ByteArray.toList_eq, ByteArray.toList_eq]
  exact ⟨bl_inj, fun h => by rw [h]⟩
set_option maxRecDepth 100000 in
set_option maxHeartbeats 2000000 in
theorem equalTags_any (a a' : Option Addr) (c c' : Nat) (ts us : List (Int × Int)) (w : World) (hn : ts.length ≤ 1048576) (_hn' : us.length ≤ 1048576) (ht : Tg w w.heap.size a ts) (hu : Tg w w.heap.size a' us) :
    Calls Try.prog 118 #[.slice a ts.length c, .slice a' us.length c'] w fun e w' => e = .returned (.bool (decide (ts = us))) ∧ Below w.heap.size w w' := by
  by_cases hlen : ts.length = us.length
  · have hd : Hid (ts.take ts.length = us.take us.length ↔ ts = us) := by unfold Hid; rw [List.take_length, List.take_length]
    generalize hnn : ts.length = n at *
    rw [← hlen] at hd ⊢
    have HN := hide hnn
    have HL := hide hlen
    clear hnn hlen
    go_enter Try.func118, Try.ntmps118
    go_wp2
    go_loopw [13] (fun i wr => ∃ k : Nat, k ≤ n ∧ i = .int .i64 (k : Int) ∧ Hid (ts.take k = us.take k) ∧ Below w.heap.size w wr) (fun i _ => n - (intOf i).toNat)
    case atStart => exact ⟨0, Nat.zero_le _, rfl, by simp [Hid], Below.refl _ _⟩
    case round =>
      obtain ⟨k, hk, rfl, heq, hL⟩ := hrel
      by_cases hlt : k < n
      · rcases ht with h0 | ⟨b, off, rfl, hb, hx⟩
        · have := HN.out; subst h0; simp at this; omega
        · rcases hu with h0 | ⟨b', off', rfl, hb', hx'⟩
          · have := HL.out; subst h0; simp at this; omega
          · have hkl : k < ts.length := by have := HN.out; omega
            have hkl' : k < us.length := by have := HL.out; omega
            obtain ⟨hc0, hc1⟩ := hx k _ (List.getElem?_eq_getElem hkl)
            obtain ⟨hd0, hd1⟩ := hx' k _ (List.getElem?_eq_getElem hkl')
            have c0 := (hL.cell (p := ⟨b, off + k * 2, none⟩) hb).trans hc0
            have c1 := (hL.cell (p := ⟨b, off + k * 2 + 1, none⟩) hb).trans hc1
            have d0 := (hL.cell (p := ⟨b', off' + k * 2, none⟩) hb').trans hd0
            have d1 := (hL.cell (p := ⟨b', off' + k * 2 + 1, none⟩) hb').trans hd1
            have HX := hide (List.getElem?_eq_getElem hkl)
            have HY := hide (List.getElem?_eq_getElem hkl')
            generalize ts[k] = x at c0 c1 HX
            generalize us[k] = y at d0 d1 HY
            obtain ⟨x1, x2⟩ := x
            obtain ⟨y1, y2⟩ := y
            simp only at c0 c1 d0 d1
            clear hc0 hc1 hd0 hd1 hx hx'
            have hne := tagNe_at x1 x2 y1 y2
            have i1 : (0 : Int) ≤ (k : Int) := by omega
            have i2 : (k : Int) < (n : Int) := by omega
            go_wp2_with fail
            refine wp_region_noPanic ?_
            refine wp_region_held_drew (S := (fun w' => w'.cell? ⟨b, off + k * 2, none⟩ = some (.int .i64 x1) ∧ w'.cell? ⟨b, off + k * 2 + 1, none⟩ = some (.int .i64 x2) ∧ w'.cell? ⟨b', off' + k * 2, none⟩ = some (.int .i64 y1) ∧ w'.cell? ⟨b', off' + k * 2 + 1, none⟩ = some (.int .i64 y2) ∧ Below w.heap.size w w')) (by kernel_rfl) (by exact ⟨c0, c1, d0, d1, hL.drew⟩) (fun hHeld => ?_)
            refine take_run 0 (some 16) (v := ?_) rfl rfl (by kernel_rfl) (by kernel_rfl) (by kernel_rfl) (fun _ _ _ h => h) (by rfl) ?_ hHeld ?_
            rotate_left
            · ((intro w hSw); (try dsimp only at hSw); go_simp <;> with_reducible rfl)
            simp only [Act.put, List.setIfInBounds_toArray, List.set_cons_zero, List.set_cons_succ]
            refine take_run 1 (some 17) (v := ?_) rfl rfl (by kernel_rfl) (by kernel_rfl) (by kernel_rfl) (fun _ _ _ h => h) (by rfl) ?_ hHeld ?_
            rotate_left
            · ((intro w hSw); (try dsimp only at hSw); go_simp <;> with_reducible rfl)
            simp only [Act.put, List.setIfInBounds_toArray, List.set_cons_zero, List.set_cons_succ]
            refine take_run 2 (some 18) (v := ?_) rfl rfl (by kernel_rfl) (by kernel_rfl) (by kernel_rfl) (fun _ _ _ h => h) (by rfl) ?_ hHeld ?_
            rotate_left
            · ((intro w hSw); (try dsimp only at hSw); go_simp <;> with_reducible rfl)
            simp only [Act.put, List.setIfInBounds_toArray, List.set_cons_zero, List.set_cons_succ]
            refine take_run 3 (some 19) (v := ?_) rfl rfl (by kernel_rfl) (by kernel_rfl) (by kernel_rfl) (fun _ _ _ h => h) (by rfl) ?_ hHeld ?_
            rotate_left
            · ((intro w hSw); (try dsimp only at hSw); go_simp <;> with_reducible rfl)
            simp only [Act.put, List.setIfInBounds_toArray, List.set_cons_zero, List.set_cons_succ]
            refine take_run 4 (some 20) (v := ?_) rfl rfl (by kernel_rfl) (by kernel_rfl) (by kernel_rfl) (fun _ _ _ h => h) (by rfl) ?_ hHeld ?_
            rotate_left
            · ((intro w hSw); (try dsimp only at hSw); go_simp <;> with_reducible rfl)
            simp only [Act.put, List.setIfInBounds_toArray, List.set_cons_zero, List.set_cons_succ]
            refine take_run 5 (some 21) (v := ?_) rfl rfl (by kernel_rfl) (by kernel_rfl) (by kernel_rfl) (fun _ _ _ h => h) (by rfl) ?_ hHeld ?_
            rotate_left
            · ((intro w hSw); (try dsimp only at hSw); go_simp <;> with_reducible rfl)
            simp only [Act.put, List.setIfInBounds_toArray, List.set_cons_zero, List.set_cons_succ]
            refine take_run 6 (some 22) (v := ?_) rfl rfl (by kernel_rfl) (by kernel_rfl) (by kernel_rfl) (fun _ _ _ h => h) (by rfl) ?_ hHeld ?_
            rotate_left
            · ((intro w hSw); (try dsimp only at hSw); go_simp <;> with_reducible rfl)
            simp only [Act.put, List.setIfInBounds_toArray, List.set_cons_zero, List.set_cons_succ]
            refine take_run 7 (some 23) (v := ?_) rfl rfl (by kernel_rfl) (by kernel_rfl) (by kernel_rfl) (fun _ _ _ h => h) (by rfl) ?_ hHeld ?_
            rotate_left
            · ((intro w hSw); (try dsimp only at hSw); go_simp <;> with_reducible rfl)
            simp only [Act.put, List.setIfInBounds_toArray, List.set_cons_zero, List.set_cons_succ]
            refine take_run 8 (some 24) (v := ?_) rfl rfl (by kernel_rfl) (by kernel_rfl) (by kernel_rfl) (fun _ _ _ h => h) (by rfl) ?_ hHeld ?_
            rotate_left
            · ((intro w hSw); (try dsimp only at hSw); go_simp <;> with_reducible rfl)
            simp only [Act.put, List.setIfInBounds_toArray, List.set_cons_zero, List.set_cons_succ]
            refine wpAnyH_done (by kernel_rfl) ?_ _
            refine NoPanic.normal ?_
            have hL2 := hHeld.2.2.2.2
            clear hHeld c0 c1 d0 d1 hL hne
            by_cases hxy : x1 = y1 ∧ x2 = y2
            · obtain ⟨rfl, rfl⟩ := hxy
              rw [eqB_same]
              have HS := hide (take_eq_step HX.out HY.out heq.out rfl)
              clear heq
              go_wp2
              exact ⟨⟨k + 1, by omega, by go_num, HS, hL2⟩, by simp [intOf]; omega⟩
            · have he : eqB x1 x2 y1 y2 = false := decide_eq_false hxy
              rw [he]
              have hf : Hid (decide (ts = us) = false) := decide_eq_false (fun e => hxy (by
                have h1 := HX.out
                have h2 := HY.out
                rw [e, h2] at h1
                injection h1 with h1
                injection h1 with h3 h4
                exact ⟨h3.symm, h4.symm⟩))
              clear hxy he
              go_wp2
              go_ret
              exact ⟨ret_bool hf.out.symm, hL2⟩
      · have hkn : k = n := by omega
        subst hkn
        clear hlt
        have hf : Hid (decide (ts = us) = true) := decide_eq_true (hd.out.1 heq.out)
        clear heq
        go_wp2
        go_ret
        exact ⟨ret_bool hf.out.symm, hL⟩
  · have hd : Hid (decide (ts = us) = false) := decide_eq_false (fun e => hlen (by rw [e]))
    have hne : ((ts.length : Int) != (us.length : Int)) = true := by simp; omega
    clear hlen
    go_enter Try.func118, Try.ntmps118
    go_wp2
    go_ret
    exact ⟨ret_bool hd.out.symm, Below.refl _ _⟩

/-- Whether two versions say the same. -/
def likeB (v v' : V) : Bool := decide (v.k = v'.k) && eqB v.t v.u v'.t v'.u && decide (v.ts = v'.ts) && decide (v.s = v'.s) && decide (v.g = v'.g)
theorem likeB_iff (v v' : V) : likeB v v' = true ↔ V.like v v' := by
  unfold likeB V.like eqB
  simp only [Bool.and_eq_true, decide_eq_true_eq]
  constructor
  · rintro ⟨⟨⟨⟨h1, h2, h3⟩, h4⟩, h5⟩, h6⟩
    exact ⟨h1, h2, h3, h4, h5, h6⟩
  · rintro ⟨h1, h2, h3, h4, h5, h6⟩
    exact ⟨⟨⟨⟨h1, h2, h3⟩, h4⟩, h5⟩, h6⟩
set_option maxRecDepth 100000 in
set_option maxHeartbeats 2000000 in
theorem verSame_any (k t u : Int) (a : Option Addr) (c : Nat) (ts : List (Int × Int)) (s : ByteArray) (g : Bool) (k' t' u' : Int) (a' : Option Addr) (c' : Nat) (ts' : List (Int × Int)) (s' : ByteArray) (g' : Bool) (w : World) (hn : ts.length ≤ 1048576) (hn' : ts'.length ≤ 1048576) (ht : Tg w w.heap.size a ts) (ht' : Tg w w.heap.size a' ts') :
    Calls Try.prog 92 #[.agg (verC k t u a ts.length c s g), .agg (verC k' t' u' a' ts'.length c' s' g')] w fun e w' => e = .returned (.bool (likeB ⟨k, t, u, a, c, ts, s, g⟩ ⟨k', t', u', a', c', ts', s', g'⟩)) ∧ Below w.heap.size w w' := by
  have S0 := ((Inv.start w).box 55 (verC k t u a ts.length c s g)).box 55 (verC k' t' u' a' ts'.length c' s' g')
  simp only [World.size_alloc] at S0
  have q0 := (S0.nth 0 rfl).six.1
  have q1 := (S0.nth 1 rfl).six.1
  by_cases hk : k = k'
  · subst hk
    have hte := tagEq_at t u t' u'
    cases hq : eqB t u t' u'
    · have HF : Hid (likeB ⟨k, t, u, a, c, ts, s, g⟩ ⟨k, t', u', a', c', ts', s', g'⟩ = false) := by unfold Hid likeB; simp [hq]
      rw [hq] at hte
      clear hq
      go_enter Try.func92, Try.ntmps92
      go_wp2
      go_ret
      exact ⟨ret_bool HF.out.symm, S0.below⟩
    · rw [hq] at hte
      have HQ := hide hq
      have CT := hide (equalTags_any a a' c c' ts ts' ((w.alloc (.cells (verC k t u a ts.length c s g) 55)).alloc (.cells (verC k t' u' a' ts'.length c' s' g') 55)) hn hn' ((ht.on S0.below).up S0.base) ((ht'.on S0.below).up S0.base))
      have hse := str_same s s'
      clear hq ht ht'
      go_enter Try.func92, Try.ntmps92
      go_wp2_with fail
      with_reducible refine CT.out.mono ?_
      rintro e w1 ⟨rfl, hb1⟩
      have S1 := S0.on hb1
      have p0 := (S1.nth 0 rfl).six.1
      have p1 := (S1.nth 1 rfl).six.1
      clear S0 q0 q1 CT hte hb1
      by_cases h3 : ts = ts'
      · rw [decide_eq_true h3]
        have H3 := hide h3
        clear h3
        by_cases h4 : s = s'
        · rw [decide_eq_true h4] at hse
          have HF : Hid (likeB ⟨k, t, u, a, c, ts, s, g⟩ ⟨k, t', u', a', c', ts', s', g'⟩ = decide (g = g')) := by unfold Hid likeB; simp [HQ.out, H3.out, h4]
          clear h4
          have HG : Hid (decide (g = g') = (g == g')) := by unfold Hid; cases g <;> cases g' <;> rfl
          go_wp2
          go_ret
          exact ⟨ret_bool (by rw [HF.out, HG.out]), S1.below⟩
        · rw [decide_eq_false h4] at hse
          have HF : Hid (likeB ⟨k, t, u, a, c, ts, s, g⟩ ⟨k, t', u', a', c', ts', s', g'⟩ = false) := by unfold Hid likeB; simp [h4]
          clear h4
          go_wp2
          go_ret
          exact ⟨ret_bool HF.out.symm, S1.below⟩
      · rw [decide_eq_false h3]
        have HF : Hid (likeB ⟨k, t, u, a, c, ts, s, g⟩ ⟨k, t', u', a', c', ts', s', g'⟩ = false) := by unfold Hid likeB; simp [h3]
        clear h3
        go_wp2
        go_ret
        exact ⟨ret_bool HF.out.symm, S1.below⟩
  · have HF : Hid (likeB ⟨k, t, u, a, c, ts, s, g⟩ ⟨k', t', u', a', c', ts', s', g'⟩ = false) := by unfold Hid likeB; simp [hk]
    have hk' : (k == k') = false := by simpa using hk
    clear hk
    go_enter Try.func92, Try.ntmps92
    go_wp2
    go_ret
    exact ⟨ret_bool HF.out.symm, S0.below⟩

/-- Whether two slices of versions say the same. -/
def likesB : List V → List V → Bool
  | [], [] => true
  | v :: vs, u :: us => likeB v u && likesB vs us
  | _, _ => false
theorem likesB_iff (vs us : List V) : likesB vs us = true ↔ vs.length = us.length ∧ Like vs us := by
  induction vs generalizing us with
  | nil =>
    cases us with
    | nil => simp [likesB, Like]
    | cons u us => simp [likesB]
  | cons v vs ih =>
    cases us with
    | nil => simp [likesB]
    | cons u us =>
      rw [likesB, Bool.and_eq_true, likeB_iff, ih]
      constructor
      · rintro ⟨h1, h2, h3⟩
        refine ⟨by simp [h2], fun i x y hx hy => ?_⟩
        cases i with
        | zero =>
          simp only [List.getElem?_cons_zero, Option.some.injEq] at hx hy
          rw [← hx, ← hy]
          exact h1
        | succ i => exact h3 i x y hx hy
      · rintro ⟨h2, h3⟩
        exact ⟨h3 0 v u rfl rfl, by simpa using h2, fun i x y hx hy => h3 (i + 1) x y hx hy⟩
theorem likesB_no {vs us : List V} {i : Nat} {v u : V} (h1 : vs[i]? = some v) (h2 : us[i]? = some u) (h : likeB v u = false) : likesB vs us = false := by
  cases hq : likesB vs us with
  | false => rfl
  | true =>
    have := (likesB_iff vs us).1 hq
    rw [(likeB_iff v u).2 (this.2 i v u h1 h2)] at h
    cases h
set_option maxRecDepth 100000 in
set_option maxHeartbeats 2000000 in
theorem equalFunc_any (a a' : Option Addr) (c c' : Nat) (vs us : List V) (w : World) (hn : vs.length ≤ 1048576) (hm : Small vs) (hm' : Small us) (hv : Vg w w.heap.size a vs) (hu : Vg w w.heap.size a' us) :
    Calls Try.prog 91 #[.slice a vs.length c, .slice a' us.length c', .func (.func 92) #[] #[]] w fun e w' => e = .returned (.bool (likesB vs us)) ∧ Below w.heap.size w w' := by
  have HM := hide hm
  have HM' := hide hm'
  clear hm hm'
  by_cases hlen : vs.length = us.length
  · generalize hnn : vs.length = n at *
    rw [← hlen]
    have HN := hide hnn
    have HL := hide hlen
    clear hnn hlen
    go_enter Try.func91, Try.ntmps91
    go_wp2
    go_loopw [17] (fun i wr => ∃ k : Nat, k ≤ n ∧ i = .int .i64 (k : Int) ∧ Hid (∀ (j : Nat) x y, j < k → vs[j]? = some x → us[j]? = some y → V.like x y) ∧ Below w.heap.size w wr) (fun i _ => n - (intOf i).toNat)
    case atStart => exact ⟨0, Nat.zero_le _, rfl, fun j x y hj => absurd hj (by omega), Below.refl _ _⟩
    case round =>
      obtain ⟨k, hk, rfl, heq, hL⟩ := hrel
      by_cases hlt : k < n
      · rcases hv with h0 | ⟨b, off, rfl, hb, hx⟩
        · have := HN.out; subst h0; simp at this; omega
        · rcases hu with h0 | ⟨b', off', rfl, hb', hx'⟩
          · have := HL.out; subst h0; simp at this; omega
          · have hkl : k < vs.length := by have := HN.out; omega
            have hkl' : k < us.length := by have := HL.out; omega
            obtain ⟨hS, hT⟩ := hx k _ (List.getElem?_eq_getElem hkl)
            obtain ⟨hS2, hT2⟩ := hx' k _ (List.getElem?_eq_getElem hkl')
            have HX := hide (List.getElem?_eq_getElem hkl)
            have HY := hide (List.getElem?_eq_getElem hkl')
            generalize vs[k] = v at hS hT HX
            generalize us[k] = v' at hS2 hT2 HY
            have HB := hide (HM.out v (List.mem_of_getElem? HX.out)).1
            have HB' := hide (HM'.out v' (List.mem_of_getElem? HY.out)).1
            obtain ⟨vk, vt, vu, va, vc, vts, vs', vg⟩ := v
            obtain ⟨uk, ut, uu, ua, uc, uts, us', ug⟩ := v'
            have Q1 := (hS.keep hb fun _ hp => hL.cell hp)
            have hLa := hL.trans ((below_alloc1 wr (.cells (verC vk vt vu va vts.length vc vs' vg) 55)).mono hL.size)
            have Q2 := (hS2.keep hb' fun _ hp => hLa.cell hp)
            simp only at Q1 Q2 hT hT2
            have T1 := hide hT
            have T2 := hide hT2
            clear hS hS2 hT hT2 hx hx'
            have i1 : (0 : Int) ≤ (k : Int) := by omega
            have i2 : (k : Int) < (n : Int) := by omega
            have S0 := (((Inv.start w).on hL).top.box 55 (verC vk vt vu va vts.length vc vs' vg)).box 55 (verC uk ut uu ua uts.length uc us' ug)
            simp only [World.size_alloc] at S0
            go_wp2_with fail
            generalize (wr.alloc (.cells (verC vk vt vu va vts.length vc vs' vg) 55)).alloc (.cells (verC uk ut uu ua uts.length uc us' ug) 55) = W at S0 ⊢
            refine (verSame_any vk vt vu va vc vts vs' vg uk ut uu ua uc uts us' ug W HB.out HB'.out ((T1.out.on S0.below).up S0.base) ((T2.out.on S0.below).up S0.base)).mono ?_
            rintro e w1 ⟨rfl, hb1⟩
            have S1 := S0.on hb1
            clear S0 Q1 Q2 hLa hL
            cases hq : likeB ⟨vk, vt, vu, va, vc, vts, vs', vg⟩ ⟨uk, ut, uu, ua, uc, uts, us', ug⟩
            · have HF := hide (likesB_no HX.out HY.out hq)
              clear hq
              go_wp2
              go_ret
              exact ⟨ret_bool HF.out.symm, S1.below⟩
            · have HS : Hid (∀ (j : Nat) x y, j < k + 1 → vs[j]? = some x → us[j]? = some y → V.like x y) := fun j x y hj hx hy => by
                by_cases e : j = k
                · subst e
                  have h1 := HX.out
                  have h2 := HY.out
                  rw [h1] at hx
                  rw [h2] at hy
                  injection hx with hx
                  injection hy with hy
                  rw [← hx, ← hy]
                  exact (likeB_iff _ _).1 hq
                · exact heq.out j x y (by omega) hx hy
              clear hq heq
              go_wp2
              exact ⟨⟨k + 1, by omega, by go_num, HS, S1.below⟩, by simp [intOf]; omega⟩
      · have hkn : k = n := by omega
        subst hkn
        clear hlt
        have hf : Hid (likesB vs us = true) := (likesB_iff vs us).2 ⟨by have := HN.out; have := HL.out; omega, fun i x y hx hy => heq.out i x y (by have := (List.getElem?_eq_some_iff.1 hx).1; have := HN.out; omega) hx hy⟩
        clear heq
        go_wp2
        go_ret
        exact ⟨ret_bool hf.out.symm, hL⟩
  · have hd : Hid (likesB vs us = false) := by
      cases hq : likesB vs us with
      | false => rfl
      | true => exact absurd ((likesB_iff vs us).1 hq).1 hlen
    have hne : ((vs.length : Int) != (us.length : Int)) = true := by simp; omega
    clear hlen
    go_enter Try.func91, Try.ntmps91
    go_wp2
    go_ret
    exact ⟨ret_bool hd.out.symm, Below.refl _ _⟩
end Go.Proofs.Ytpelibkdphgpjaa
/- Contracts of the program's links: a node at its place in a chain, and the way to the next one. Condition: a chain's nodes, none or from the beginning of a block. -/
namespace Go.Proofs.Ytpelibkdphgpjaa
open Go.RowKit Go.Joins
attribute [local go_sem ↓] Go.wp_at_zero Go.wp_at_succ

/-- The link of node k as it lies in memory, in blocks from B on. -/
def LinkAt (w : World) (B L : Nat) (A : Option Addr) (G n c k : Nat) : Prop :=
  ∃ b1 b2 : Nat, B ≤ L ∧ B ≤ b1 ∧ B ≤ b2 ∧ Blk w L 87 #[.pointer (some ⟨G, k * 2, none⟩), .func (.func 88) #[] #[.pointer (some ⟨b1, 0, none⟩), .pointer (some ⟨b2, 0, none⟩)]] ∧ Blk w b1 24 #[.slice A n c] ∧ Blk w b2 3 #[.int .i64 (k : Int)]
theorem LinkAt.on {w w' : World} {B L G n c k : Nat} {A : Option Addr} (h : LinkAt w B L A G n c k) (hb : Below w.heap.size w w') : LinkAt w' B L A G n c k := by
  obtain ⟨b1, b2, h1, h2, h3, h4, h5, h6⟩ := h
  exact ⟨b1, b2, h1, h2, h3, h4.on hb, h5.on hb, h6.on hb⟩
theorem LinkAt.low {w : World} {B B' L G n c k : Nat} {A : Option Addr} (h : LinkAt w B L A G n c k) (hb : B' ≤ B) : LinkAt w B' L A G n c k := by
  obtain ⟨b1, b2, h1, h2, h3, h4, h5, h6⟩ := h
  exact ⟨b1, b2, by omega, by omega, by omega, h4, h5, h6⟩
/-- What linkAt leaves: nothing behind the last node, else a link. -/
def LinkEnd (w : World) (A : Option Addr) (G n c k : Nat) (e : Ending) (w' : World) : Prop :=
  (if k < n then ∃ L, e = .returned (.pointer (some ⟨L, 0, none⟩)) ∧ LinkAt w' w.heap.size L A G n c k else e = .returned (.pointer none)) ∧ Below w.heap.size w w'
set_option maxRecDepth 100000 in
set_option maxHeartbeats 2000000 in
theorem linkAt_any (G n c k : Nat) (w : World) (_hn : n ≤ 1048576) (hk : k ≤ 1048576) :
    Calls Try.prog 49 #[.slice (some ⟨G, 0, none⟩) n c, .int .i64 (k : Int)] w (LinkEnd w (some ⟨G, 0, none⟩) G n c k) := by
  have hmf : ∀ (fn : Fn) (first cap : Array Value) (w : World), (Instr.makeFunc fn first cap).run Try.prog w = .ok (.func fn first cap) w := fun _ _ _ _ => rfl
  have h0 : ¬ ((k : Int) < 0) := by omega
  have S0 := ((Inv.start w).box 24 #[.slice (some ⟨G, 0, none⟩) n c]).box 3 #[.int .i64 (k : Int)]
  simp only [World.size_alloc] at S0
  by_cases hlt : k < n
  · have h1 : ¬ ((k : Int) ≥ (n : Int)) := by omega
    have h2 : (k : Int) < (n : Int) := by omega
    have i1 : (0 : Int) ≤ (k : Int) := by omega
    go_enter Try.func49, Try.ntmps49
    go_wp2
    go_ret
    have S1 := (((Inv.start w).box 24 #[.slice (some ⟨G, 0, none⟩) n c]).box 3 #[.int .i64 (k : Int)]).box 87 #[.pointer (some ⟨G, k * 2, none⟩), .func (.func 88) #[] #[.pointer (some ⟨w.heap.size, 0, none⟩), .pointer (some ⟨w.heap.size + 1, 0, none⟩)]]
    simp only [World.size_alloc] at S1
    refine ⟨?_, S1.below⟩
    rw [if_pos hlt]
    exact ⟨w.heap.size + 1 + 1, rfl, w.heap.size, w.heap.size + 1, by omega, by omega, by omega, S1.nth 0 rfl, S1.nth 2 rfl, S1.nth 1 rfl⟩
  · have h1 : (k : Int) ≥ (n : Int) := by omega
    have h2 : ¬ ((k : Int) < (n : Int)) := by omega
    go_enter Try.func49, Try.ntmps49
    go_wp2
    go_ret
    exact ⟨by rw [if_neg hlt]; rfl, S0.below⟩
set_option maxRecDepth 100000 in
set_option maxHeartbeats 2000000 in
/-- The way to the next one. -/
theorem next_any (G n c k b1 b2 : Nat) (w : World) (hn : n ≤ 1048576) (hk : k ≤ 1048575) (h1 : Blk w b1 24 #[.slice (some ⟨G, 0, none⟩) n c]) (h2 : Blk w b2 3 #[.int .i64 (k : Int)]) :
    Calls Try.prog 88 #[.pointer (some ⟨b1, 0, none⟩), .pointer (some ⟨b2, 0, none⟩)] w (LinkEnd w (some ⟨G, 0, none⟩) G n c (k + 1)) := by
  have q1 := h1.one.1
  have q2 := h2.one.1
  go_enter Try.func88, Try.ntmps88
  go_wp2_with fail
  have e1 : (k : Int) + 1 = ((k + 1 : Nat) : Int) := by omega
  have CT := linkAt_any G n c (k + 1) w hn (by omega)
  rw [← e1] at CT
  clear e1
  with_reducible refine CT.mono ?_
  clear CT
  rintro e w1 ⟨hE, hb⟩
  have HE := hide hE
  have HB := hide hb
  clear hE hb
  by_cases hlt : k + 1 < n
  · have hq := HE.out
    rw [if_pos hlt] at hq
    obtain ⟨L, rfl, hL⟩ := hq
    have HLL := hide hL
    clear hL
    go_wp2
    go_ret
    exact ⟨by rw [if_pos hlt]; exact ⟨L, rfl, HLL.out⟩, HB.out⟩
  · have hq := HE.out
    rw [if_neg hlt] at hq
    subst hq
    go_wp2
    go_ret
    exact ⟨by rw [if_neg hlt]; rfl, HB.out⟩
end Go.Proofs.Ytpelibkdphgpjaa
