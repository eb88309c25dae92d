/- Contract of the model's decimals. Condition: a number that is not negative. -/
import Derived.Test.YtnaggcdhimcilaaGreatJPastOk
import Derived.Laws.IdiomStrings
import Derived.Laws.BitsAllLaws
import Derived.Test.YtnaggcdhimcilaaGreatJStoreOk
namespace Go.Proofs.YtnaggcdhimcilaaGreat
open Go.RowKit Go.Joins
attribute [local go_sem ↓] Go.wp_at_zero Go.wp_at_succ

/-- A figure. -/
def figS (n : Nat) : ByteArray := ⟨#[UInt8.ofNat (48 + n)]⟩
/-- A number in decimals. -/
def decS (n : Nat) : ByteArray := if _h : n < 10 then figS n else decS (n / 10) ++ figS (n % 10)
termination_by n
theorem decS_low {n : Nat} (h : n < 10) : decS n = figS n := by rw [decS, dif_pos h]
theorem decS_high {n : Nat} (h : ¬ n < 10) : decS n = decS (n / 10) ++ figS (n % 10) := by rw [decS, dif_neg h]

theorem figS_size (n : Nat) : (figS n).size = 1 := rfl
theorem decS_size (n : Nat) : (decS n).size ≤ n + 1 := by
  induction n using Nat.strongRecOn with
  | ind n ih =>
    by_cases h : n < 10
    · rw [decS_low h, figS_size]
      omega
    · rw [decS_high h, ByteArray.size_append, figS_size]
      have := ih (n / 10) (by omega)
      omega
theorem conv_fig (n : Nat) (hn : n < 10) (g : Nat) (W : World) (h : W.cell? ⟨g, 0, none⟩ = some (.int .u8 (48 + (n : Int)))) : (convert 145 9 (.slice (some ⟨g, 0, none⟩) 1 1)).run Tryz.prog W = .ok (.string (figS n)) W := by
  have hb : (UInt8.ofNat (48 + n)).toNat = 48 + n := by
    rw [UInt8.toNat_ofNat']
    omega
  exact run_convert_bytes_back (P := Tryz.prog) W 145 9 5 ⟨g, 0, none⟩ 1 [UInt8.ofNat (48 + n)] Tryz.underlying145 Tryz.underlying5 Tryz.underlying9 (fun j hj => by
    have hj0 : j = 0 := by simp at hj; omega
    subst hj0
    have e0 : (⟨g, 0, none⟩ : Addr).add 0 = ⟨g, 0, none⟩ := by simp [Addr.add]
    rw [e0, h]
    simp only [List.getElem_cons_zero, hb]
    rfl)
set_option maxRecDepth 100000 in
set_option maxHeartbeats 2000000 in
theorem l1Dec_any : ∀ (n : Nat), n ≤ 1000000 → ∀ w : World, Calls Tryz.prog 177 #[.int .i64 (n : Int)] w fun e w' => e = .returned (.string (decS n)) ∧ Below w.heap.size w w' := by
  intro n
  induction n using Nat.strongRecOn with
  | ind n ih =>
    intro hn w
    have h0 : ¬ ((n : Int) < -9223372036854775807) := by omega
    have h1 : ¬ ((n : Int) < 0) := by omega
    by_cases hlt : n < 10
    · have h2 : (n : Int) < 10 := by omega
      have HS := hide (decS_low hlt)
      have hcv := conv_fig n hlt w.heap.size (w.alloc (.cells #[.int .u8 (48 + (n : Int))] 5)) ((Blk.made _ _ _).at 0)
      have L0 := below_alloc1 w (.cells #[.int .u8 (48 + (n : Int))] 5)
      clear ih
      go_enter Tryz.func177, Tryz.ntmps177
      go_wp2
      go_ret
      exact ⟨by rw [HS.out]; rfl, L0⟩
    · have h2 : ¬ ((n : Int) < 10) := by omega
      have HS := hide (decS_high hlt)
      have IH := hide (ih (n / 10) (by omega) (by omega))
      clear ih
      obtain ⟨q, hq⟩ : ∃ q, q = n / 10 := ⟨_, rfl⟩
      obtain ⟨r, hr⟩ : ∃ r, r = n % 10 := ⟨_, rfl⟩
      rw [← hq] at IH HS
      rw [← hr] at HS
      have e1 : (n : Int) / 10 = (q : Int) := by omega
      have e2 : (n : Int) % 10 = (r : Int) := by omega
      have hr10 : r < 10 := by omega
      have e3 : (n : Int).tmod 10 = (r : Int) := by rw [Int.tmod_eq_emod_of_nonneg (by omega)]; omega
      have b1 : (0 : Int) ≤ (r : Int) ∧ (r : Int) < 10 := by omega
      have v1 : IntKind.i64.wrap (q : Int) = (q : Int) := by rw [IntKind.wrap_i64]; omega
      have v2 : IntKind.i64.wrap (48 + (r : Int)) = 48 + (r : Int) := by rw [IntKind.wrap_i64]; omega
      have v3 : IntKind.u8.wrap (48 + (r : Int)) = 48 + (r : Int) := by rw [IntKind.wrap_u8']; omega
      have v4 : IntKind.i64.wrap (r : Int) = (r : Int) := by rw [IntKind.wrap_i64]; omega
      have hz : ¬ (9223372036854775807 < (decS q).size + (figS r).size) := by have := decS_size q; rw [figS_size]; omega
      have B0 := hide (Blk.made w 5 #[.int .u8 (48 + (r : Int))])
      clear hq hr
      go_enter Tryz.func177, Tryz.ntmps177
      go_wp2_with fail
      refine wp_region_noPanic ?_
      refine wp_region_held_drew (S := (fun w' => Below w.heap.size w w')) (by kernel_rfl) (by exact (Below.refl _ _).drew) (fun hHeld => ?_)
      refine take_run 0 (some 18) (v := ?_) rfl rfl (by kernel_rfl) (by kernel_rfl) (by kernel_rfl) (fun _ _ _ h => h) (by rfl) ?_ hHeld ?_
      rotate_left
      · ((intro w hSw); (try dsimp only at hSw); go_simp <;> with_reducible rfl)
      simp only [Act.put, List.setIfInBounds_toArray, List.set_cons_zero, List.set_cons_succ]
      refine take_run 1 (some 19) (v := ?_) rfl rfl (by kernel_rfl) (by kernel_rfl) (by kernel_rfl) (fun _ _ _ h => h) (by rfl) ?_ hHeld ?_
      rotate_left
      · ((intro w hSw); (try dsimp only at hSw); go_simp <;> with_reducible rfl)
      simp only [Act.put, List.setIfInBounds_toArray, List.set_cons_zero, List.set_cons_succ]
      refine take_run 3 (some 21) (v := ?_) rfl rfl (by kernel_rfl) (by kernel_rfl) (by kernel_rfl) (fun _ _ _ h => h) (by rfl) ?_ hHeld ?_
      rotate_left
      · ((intro w hSw); (try dsimp only at hSw); go_simp <;> with_reducible rfl)
      simp only [Act.put, List.setIfInBounds_toArray, List.set_cons_zero, List.set_cons_succ]
      refine take_run 4 (some 22) (v := ?_) rfl rfl (by kernel_rfl) (by kernel_rfl) (by kernel_rfl) (fun _ _ _ h => h) (by rfl) ?_ hHeld ?_
      rotate_left
      · ((intro w hSw); (try dsimp only at hSw); go_simp <;> with_reducible rfl)
      simp only [Act.put, List.setIfInBounds_toArray, List.set_cons_zero, List.set_cons_succ]
      refine take_run 5 (some 23) (v := ?_) rfl rfl (by kernel_rfl) (by kernel_rfl) (by kernel_rfl) (fun _ _ _ h => h) (by rfl) ?_ hHeld ?_
      rotate_left
      · ((intro w hSw); (try dsimp only at hSw); go_simp <;> with_reducible rfl)
      simp only [Act.put, List.setIfInBounds_toArray, List.set_cons_zero, List.set_cons_succ]
      refine take_run 6 (some 24) (v := ?_) rfl rfl (by kernel_rfl) (by kernel_rfl) (by kernel_rfl) (fun _ _ _ h => h) (by rfl) ?_ hHeld ?_
      rotate_left
      · ((intro w hSw); (try dsimp only at hSw); go_simp <;> with_reducible rfl)
      simp only [Act.put, List.setIfInBounds_toArray, List.set_cons_zero, List.set_cons_succ]
      refine wpAnyH_ready (rs := [2, 7]) (by kernel_rfl) (by simp) ?_
      refine AllReadyH.cons rfl (fun K hK => ?_) (AllReadyH.cons rfl (fun K hK => ?_) AllReadyH.nil)
      · skip
        go_simp
        ((with_reducible refine (IH.out _).mono ?_); rintro e w1 ⟨rfl, hb1⟩; (try have BG2 := hide (BG.out.on hb1)); (try have hcv2 := conv_fig r hr10 _ _ (BG2.out.at 0)))
        try go_wp2_with fail
        refine hK.out _ _ (by exact hHeld.trans (hb1.mono hHeld.size)) (fun hHeld => ?_)
        clear hK K
        refine take_one 7 (by kernel_rfl) rfl (fun K hK => ?_)
        go_simp
        ((first | have BG := hide (Blk.made w1 5 #[.int .u8 (48 + (r : Int))]) | have BG := hide B0.out.drew); have hcv := conv_fig r hr10 _ _ (BG.out.at 0))
        try go_wp2_with fail
        refine hK.out _ _ (by exact hHeld.trans ((below_alloc1 _ _).mono hHeld.size)) (fun hHeld => ?_)
        clear hK K
        refine take_one 8 (by kernel_rfl) rfl (fun K hK => ?_)
        go_simp
        refine hK.out _ _ (by exact hHeld) (fun hHeld => ?_)
        clear hK K
        refine take_run 9 (some 27) (v := ?_) rfl rfl (by kernel_rfl) (by kernel_rfl) (by kernel_rfl) (fun _ _ _ h => h) (by rfl) ?_ hHeld ?_
        rotate_left
        · ((intro w hSw); (try dsimp only at hSw); go_simp <;> with_reducible rfl)
        simp only [Act.put, List.setIfInBounds_toArray, List.set_cons_zero, List.set_cons_succ]
        refine take_run 10 (some 2) (v := ?_) rfl rfl (by kernel_rfl) (by kernel_rfl) (by kernel_rfl) (fun _ _ _ h => h) (by rfl) ?_ hHeld ?_
        rotate_left
        · ((intro w hSw); (try dsimp only at hSw); go_simp <;> with_reducible rfl)
        simp only [Act.put, List.setIfInBounds_toArray, List.set_cons_zero, List.set_cons_succ]
        refine wpAnyH_done (by kernel_rfl) ?_ _
        refine NoPanic.normal ?_
        have L9 := hHeld
        clear hHeld
        go_wp2
        go_ret
        exact ⟨by rw [HS.out]; rfl, L9⟩
      · skip
        go_simp
        ((first | have BG := hide (Blk.made w1 5 #[.int .u8 (48 + (r : Int))]) | have BG := hide B0.out.drew); have hcv := conv_fig r hr10 _ _ (BG.out.at 0))
        try go_wp2_with fail
        refine hK.out _ _ (by exact hHeld.trans ((below_alloc1 _ _).mono hHeld.size)) (fun hHeld => ?_)
        clear hK K
        refine wpAnyH_ready (rs := [2, 8]) (by kernel_rfl) (by simp) ?_
        refine AllReadyH.cons rfl (fun K hK => ?_) (AllReadyH.cons rfl (fun K hK => ?_) AllReadyH.nil)
        · skip
          go_simp
          ((with_reducible refine (IH.out _).mono ?_); rintro e w1 ⟨rfl, hb1⟩; (try have BG2 := hide (BG.out.on hb1)); (try have hcv2 := conv_fig r hr10 _ _ (BG2.out.at 0)))
          try go_wp2_with fail
          refine hK.out _ _ (by exact hHeld.trans (hb1.mono hHeld.size)) (fun hHeld => ?_)
          clear hK K
          refine take_one 8 (by kernel_rfl) rfl (fun K hK => ?_)
          go_simp
          refine hK.out _ _ (by exact hHeld) (fun hHeld => ?_)
          clear hK K
          refine take_run 9 (some 27) (v := ?_) rfl rfl (by kernel_rfl) (by kernel_rfl) (by kernel_rfl) (fun _ _ _ h => h) (by rfl) ?_ hHeld ?_
          rotate_left
          · ((intro w hSw); (try dsimp only at hSw); go_simp <;> with_reducible rfl)
          simp only [Act.put, List.setIfInBounds_toArray, List.set_cons_zero, List.set_cons_succ]
          refine take_run 10 (some 2) (v := ?_) rfl rfl (by kernel_rfl) (by kernel_rfl) (by kernel_rfl) (fun _ _ _ h => h) (by rfl) ?_ hHeld ?_
          rotate_left
          · ((intro w hSw); (try dsimp only at hSw); go_simp <;> with_reducible rfl)
          simp only [Act.put, List.setIfInBounds_toArray, List.set_cons_zero, List.set_cons_succ]
          refine wpAnyH_done (by kernel_rfl) ?_ _
          refine NoPanic.normal ?_
          have L9 := hHeld
          clear hHeld
          go_wp2
          go_ret
          exact ⟨by rw [HS.out]; rfl, L9⟩
        · skip
          go_simp
          refine hK.out _ _ (by exact hHeld) (fun hHeld => ?_)
          clear hK K
          refine take_one 2 (by kernel_rfl) rfl (fun K hK => ?_)
          go_simp
          ((with_reducible refine (IH.out _).mono ?_); rintro e w1 ⟨rfl, hb1⟩; (try have BG2 := hide (BG.out.on hb1)); (try have hcv2 := conv_fig r hr10 _ _ (BG2.out.at 0)))
          try go_wp2_with fail
          refine hK.out _ _ (by exact hHeld.trans (hb1.mono hHeld.size)) (fun hHeld => ?_)
          clear hK K
          refine take_run 9 (some 27) (v := ?_) rfl rfl (by kernel_rfl) (by kernel_rfl) (by kernel_rfl) (fun _ _ _ h => h) (by rfl) ?_ hHeld ?_
          rotate_left
          · ((intro w hSw); (try dsimp only at hSw); go_simp <;> with_reducible rfl)
          simp only [Act.put, List.setIfInBounds_toArray, List.set_cons_zero, List.set_cons_succ]
          refine take_run 10 (some 2) (v := ?_) rfl rfl (by kernel_rfl) (by kernel_rfl) (by kernel_rfl) (fun _ _ _ h => h) (by rfl) ?_ hHeld ?_
          rotate_left
          · ((intro w hSw); (try dsimp only at hSw); go_simp <;> with_reducible rfl)
          simp only [Act.put, List.setIfInBounds_toArray, List.set_cons_zero, List.set_cons_succ]
          refine wpAnyH_done (by kernel_rfl) ?_ _
          refine NoPanic.normal ?_
          have L9 := hHeld
          clear hHeld
          go_wp2
          go_ret
          exact ⟨by rw [HS.out]; rfl, L9⟩
end Go.Proofs.YtnaggcdhimcilaaGreat
/- Contracts of how the model writes tags, causes and versions. Condition: numbers that are not negative, or a version whatever it is. -/
namespace Go.Proofs.YtnaggcdhimcilaaGreat
open Go.RowKit Go.Joins
attribute [local go_sem ↓] Go.wp_at_zero Go.wp_at_succ

/-- A tag as it is written. -/
def tagS (t u : Nat) : ByteArray := decS t ++ ⟨#[46]⟩ ++ decS u
theorem tagS_size (t u : Nat) : (tagS t u).size ≤ t + u + 3 := by
  unfold tagS
  rw [ByteArray.size_append, ByteArray.size_append]
  have := decS_size t
  have := decS_size u
  have : (ByteArray.mk #[46]).size = 1 := rfl
  omega
set_option maxRecDepth 100000 in
set_option maxHeartbeats 2000000 in
theorem l1Put_any (t u : Nat) (ht : t ≤ 1000000) (hu : u ≤ 1000000) (w : World) : Calls Tryz.prog 178 #[.agg #[.int .i64 (t : Int), .int .i64 (u : Int)]] w fun e w' => e = .returned (.string (tagS t u)) ∧ Below w.heap.size w w' := by
  have L0 := below_alloc1 w (.cells #[.int .i64 (t : Int), .int .i64 (u : Int)] 91)
  have B0 := Blk.made w 91 #[.int .i64 (t : Int), .int .i64 (u : Int)]
  have z1 := decS_size t
  have z2 := decS_size u
  have hz1 : ¬ (9223372036854775807 < (decS t).size + 1) := by omega
  have hz2 : ¬ (9223372036854775807 < (decS t).size + 1 + (decS u).size) := by omega
  have HS : Hid (tagS t u = decS t ++ ⟨#[46]⟩ ++ decS u) := rfl
  clear z1 z2
  go_enter Tryz.func178, Tryz.ntmps178
  go_wp2_with fail
  generalize w.alloc (.cells #[.int .i64 (t : Int), .int .i64 (u : Int)] 91) = W at L0 B0 ⊢
  refine wp_region_noPanic ?_
  refine wp_region_held_drew (S := (fun w' => (w'.cell? ⟨w.heap.size, 0, none⟩ = some (.int .i64 (t : Int)) ∧ w'.cell? ⟨w.heap.size, 1, none⟩ = some (.int .i64 (u : Int))) ∧ Blk w' w.heap.size 91 #[.int .i64 (t : Int), .int .i64 (u : Int)] ∧ Below w.heap.size w w')) (by kernel_rfl) (by exact ⟨⟨B0.at 0, B0.at 1⟩, B0.drew, L0.drew⟩) (fun hHeld => ?_)
  refine take_run 0 (some 3) (v := ?_) rfl rfl (by kernel_rfl) (by kernel_rfl) (by kernel_rfl) (fun _ _ _ h => h) (by rfl) ?_ hHeld ?_
  rotate_left
  · ((intro w hSw); (try dsimp only at hSw); go_simp <;> with_reducible rfl)
  simp only [Act.put, List.setIfInBounds_toArray, List.set_cons_zero, List.set_cons_succ]
  refine take_run 1 (some 4) (v := ?_) rfl rfl (by kernel_rfl) (by kernel_rfl) (by kernel_rfl) (fun _ _ _ h => h) (by rfl) ?_ hHeld ?_
  rotate_left
  · ((intro w hSw); (try dsimp only at hSw); go_simp <;> with_reducible rfl)
  simp only [Act.put, List.setIfInBounds_toArray, List.set_cons_zero, List.set_cons_succ]
  refine take_run 4 (some 7) (v := ?_) rfl rfl (by kernel_rfl) (by kernel_rfl) (by kernel_rfl) (fun _ _ _ h => h) (by rfl) ?_ hHeld ?_
  rotate_left
  · ((intro w hSw); (try dsimp only at hSw); go_simp <;> with_reducible rfl)
  simp only [Act.put, List.setIfInBounds_toArray, List.set_cons_zero, List.set_cons_succ]
  refine take_run 5 (some 8) (v := ?_) rfl rfl (by kernel_rfl) (by kernel_rfl) (by kernel_rfl) (fun _ _ _ h => h) (by rfl) ?_ hHeld ?_
  rotate_left
  · ((intro w hSw); (try dsimp only at hSw); go_simp <;> with_reducible rfl)
  simp only [Act.put, List.setIfInBounds_toArray, List.set_cons_zero, List.set_cons_succ]
  refine take_one 2 (by kernel_rfl) rfl (fun K hK => ?_)
  go_simp
  ((with_reducible refine (l1Dec_any t ht _).mono ?_); rintro e w1 ⟨rfl, hb⟩)
  try go_wp2_with fail
  refine hK.out _ _ (by exact ⟨⟨(hHeld.2.1.on hb).at 0, (hHeld.2.1.on hb).at 1⟩, hHeld.2.1.on hb, hHeld.2.2.trans (hb.mono hHeld.2.2.size)⟩) (fun hHeld => ?_)
  clear hK K
  refine take_run 3 (some 6) (v := ?_) rfl rfl (by kernel_rfl) (by kernel_rfl) (by kernel_rfl) (fun _ _ _ h => h) (by rfl) ?_ hHeld ?_
  rotate_left
  · ((intro w hSw); (try dsimp only at hSw); go_simp <;> with_reducible rfl)
  simp only [Act.put, List.setIfInBounds_toArray, List.set_cons_zero, List.set_cons_succ]
  refine take_one 6 (by kernel_rfl) rfl (fun K hK => ?_)
  go_simp
  ((with_reducible refine (l1Dec_any u hu _).mono ?_); rintro e w2 ⟨rfl, hb⟩)
  try go_wp2_with fail
  refine hK.out _ _ (by exact ⟨⟨(hHeld.2.1.on hb).at 0, (hHeld.2.1.on hb).at 1⟩, hHeld.2.1.on hb, hHeld.2.2.trans (hb.mono hHeld.2.2.size)⟩) (fun hHeld => ?_)
  clear hK K
  refine take_run 7 (some 10) (v := ?_) rfl rfl (by kernel_rfl) (by kernel_rfl) (by kernel_rfl) (fun _ _ _ h => h) (by rfl) ?_ hHeld ?_
  rotate_left
  · ((intro w hSw); (try dsimp only at hSw); go_simp <;> with_reducible rfl)
  simp only [Act.put, List.setIfInBounds_toArray, List.set_cons_zero, List.set_cons_succ]
  refine take_run 8 (some 2) (v := ?_) rfl rfl (by kernel_rfl) (by kernel_rfl) (by kernel_rfl) (fun _ _ _ h => h) (by rfl) ?_ hHeld ?_
  rotate_left
  · ((intro w hSw); (try dsimp only at hSw); go_simp <;> with_reducible rfl)
  simp only [Act.put, List.setIfInBounds_toArray, List.set_cons_zero, List.set_cons_succ]
  refine wpAnyH_done (by kernel_rfl) ?_ _
  refine NoPanic.normal ?_
  have L9 := hHeld.2.2
  clear hHeld
  go_wp2
  go_ret
  exact ⟨by rw [HS.out]; rfl, L9⟩
/-- Causes as they are written. -/
def pastS (ts : List (Int × Int)) : ByteArray := ts.foldl (fun s x => s ++ ⟨#[32]⟩ ++ tagS x.1.toNat x.2.toNat) ⟨#[]⟩
theorem pastS_step {ts : List (Int × Int)} {k : Nat} {x : Int × Int} (h : ts[k]? = some x) : pastS (ts.take (k + 1)) = pastS (ts.take k) ++ ⟨#[32]⟩ ++ tagS x.1.toNat x.2.toNat := by
  unfold pastS
  rw [List.take_add_one, h, List.foldl_append]
  rfl
/-- Numbers that are written in few figures. -/
def LowT (ts : List (Int × Int)) : Prop := ts.length ≤ 4 ∧ ∀ x ∈ ts, (0 ≤ x.1 ∧ x.1 ≤ 1000) ∧ 0 ≤ x.2 ∧ x.2 ≤ 1000
theorem pastS_size {ts : List (Int × Int)} (h : LowT ts) : ∀ k, k ≤ ts.length → (pastS (ts.take k)).size ≤ 2004 * k
  | 0, _ => Nat.zero_le _
  | k + 1, hk => by
    have hx := List.getElem?_eq_getElem (l := ts) (i := k) (by omega)
    rw [pastS_step hx, ByteArray.size_append, ByteArray.size_append]
    have h1 := pastS_size h k (by omega)
    have h2 := tagS_size ts[k].1.toNat ts[k].2.toNat
    have h3 := h.2 _ (List.mem_of_getElem? hx)
    have : (ByteArray.mk #[32]).size = 1 := rfl
    omega
set_option maxRecDepth 100000 in
set_option maxHeartbeats 2000000 in
theorem l2Past_any (a : Option Addr) (c : Nat) (ts : List (Int × Int)) (w : World) (hT : LowT ts) (ht : Tg w w.heap.size a ts) : Calls Tryz.prog 179 #[.agg #[.slice a ts.length c]] w fun e w' => e = .returned (.string (pastS ts)) ∧ Below w.heap.size w w' := by
  have S0 := (Inv.start w).box 94 #[.slice a ts.length c]
  simp only [World.size_alloc] at S0
  have HT := hide hT
  have HA : Hid (pastS (ts.take ts.length) = pastS ts) := by unfold Hid; rw [List.take_length]
  have h4 := hT.1
  clear hT
  generalize hnn : ts.length = n at *
  have HN := hide hnn
  clear hnn
  go_enter Tryz.func179, Tryz.ntmps179
  go_wp2
  go_loopw [3, 4] (fun v i wr => ∃ (k : Nat) (s : ByteArray), k ≤ n ∧ i = .int .i64 (k : Int) ∧ v = .string s ∧ Hid (s = pastS (ts.take k)) ∧ Inv w (w.heap.size + 1) [(w.heap.size, 94, #[.slice a n c])] wr) (fun _ i _ => n - (intOf i).toNat)
  case atStart => exact ⟨0, _, Nat.zero_le _, rfl, rfl, rfl, S0⟩
  case round =>
    obtain ⟨k, s, hk, rfl, rfl, HS, hI⟩ := hrel
    clear S0
    have q0 := (hI.nth 0 rfl).one.1
    by_cases hlt : k < n
    · rcases ht with e0 | ⟨b, off, rfl, hb, hx⟩
      · have := HN.out; subst e0; simp at this; omega
      · obtain ⟨x, hxx⟩ : ∃ x, ts[k]? = some x := ⟨_, List.getElem?_eq_getElem (by have := HN.out; omega)⟩
        have hlow := HT.out.2 x (List.mem_of_getElem? hxx)
        have hst := pastS_step hxx
        have hsz := pastS_size HT.out k (by have := HN.out; omega)
        rw [← HS.out] at hst hsz
        have c0 := (hI.below.cell (p := ⟨b, off + k * 2, none⟩) hb).trans (hx k x hxx).1
        have c1 := (hI.below.cell (p := ⟨b, off + k * 2 + 1, none⟩) hb).trans (hx k x hxx).2
        obtain ⟨x1, x2⟩ := x
        simp only at c0 c1 hlow hst
        obtain ⟨t, rfl⟩ := Int.eq_ofNat_of_zero_le hlow.1.1
        obtain ⟨u, rfl⟩ := Int.eq_ofNat_of_zero_le hlow.2.1
        simp only [Int.toNat_natCast] at hst
        have HST := hide hst
        have z3 := tagS_size t u
        have hz1 : ¬ (9223372036854775807 < s.size + 1) := by omega
        have hz2 : ¬ (9223372036854775807 < s.size + 1 + (tagS t u).size) := by omega
        have i1 : (0 : Int) ≤ (k : Int) := by omega
        have i2 : (k : Int) < (n : Int) := by omega
        have t6 : t ≤ 1000000 := by omega
        have u6 : u ≤ 1000000 := by omega
        clear hx hxx hst z3 hsz hlow
        go_wp2_with fail
        refine (l1Put_any t u t6 u6 _).mono ?_
        rintro e w1 ⟨rfl, hb1⟩
        have I1 := hI.on hb1
        clear hI q0 c0 c1 hb1
        go_wp2
        exact ⟨⟨k + 1, _, by omega, by go_num, rfl, HST.out.symm, I1⟩, by simp [intOf]; omega⟩
    · have hkn : k = n := by omega
      subst hkn
      clear hlt
      go_wp2
      go_ret
      exact ⟨by rw [← HA.out, ← HS.out]; rfl, hI.below⟩
/-- The text of a version as it is written. -/
def textS (s : ByteArray) (g : Bool) : ByteArray := if g = true then ⟨#[45]⟩ else ⟨#[61]⟩ ++ s
/-- A version as it is written. -/
def verS (k t u : Nat) (ts : List (Int × Int)) (s : ByteArray) (g : Bool) : ByteArray := decS k ++ ⟨#[32]⟩ ++ tagS t u ++ pastS ts ++ ⟨#[32]⟩ ++ textS s g
set_option maxRecDepth 100000 in
set_option maxHeartbeats 2000000 in
theorem l2Put_any (k t u : Nat) (a : Option Addr) (c : Nat) (ts : List (Int × Int)) (s : ByteArray) (g : Bool) (w : World) (hk : k ≤ 1000) (ht : t ≤ 1000) (hu : u ≤ 1000) (hT : LowT ts) (hs : s.size ≤ 1000) (hg : Tg w w.heap.size a ts) :
    Calls Tryz.prog 170 #[.agg (verC (k : Int) (t : Int) (u : Int) a ts.length c s g)] w fun e w' => e = .returned (.string (verS k t u ts s g)) ∧ Below w.heap.size w w' := by
  have S0 := (Inv.start w).box 96 (verC (k : Int) (t : Int) (u : Int) a ts.length c s g)
  simp only [World.size_alloc] at S0
  have z1 := decS_size k
  have z2 := tagS_size t u
  have z3 := pastS_size hT ts.length (Nat.le_refl _)
  rw [List.take_length] at z3
  have z4 := hT.1
  have hz0 : ¬ (9223372036854775807 < 1 + s.size) := by omega
  have hz1 : ¬ (9223372036854775807 < (decS k).size + 1) := by omega
  have hz2 : ¬ (9223372036854775807 < (decS k).size + 1 + (tagS t u).size) := by omega
  have hz3 : ¬ (9223372036854775807 < (decS k).size + 1 + (tagS t u).size + (pastS ts).size) := by omega
  have hz4 : ¬ (9223372036854775807 < (decS k).size + 1 + (tagS t u).size + (pastS ts).size + 1) := by omega
  have hz5 : ¬ (9223372036854775807 < (decS k).size + 1 + (tagS t u).size + (pastS ts).size + 1 + 1) := by omega
  have hz6 : ¬ (9223372036854775807 < (decS k).size + 1 + (tagS t u).size + (pastS ts).size + 1 + (1 + s.size)) := by omega
  have HT := hide hT
  have HG := hide hg
  clear hT hg z1 z2 z3 z4
  have q0 := (S0.nth 0 rfl).six.1
  have B0 := S0.nth 0 rfl
  have L0 := S0.below
  clear S0
  cases g
  all_goals
    go_enter Tryz.func170, Tryz.ntmps170
    go_wp2_with fail
  · have HS : Hid (verS k t u ts s false = decS k ++ ⟨#[32]⟩ ++ tagS t u ++ pastS ts ++ ⟨#[32]⟩ ++ (⟨#[61]⟩ ++ s)) := rfl
    generalize w.alloc (.cells (verC (k : Int) (t : Int) (u : Int) a ts.length c s false) 96) = W at L0 B0 q0 ⊢
    refine wp_region_noPanic ?_
    refine wp_region_held_drew (S := (fun w' => (w'.cell? ⟨w.heap.size, 0, none⟩ = some (.int .i64 (k : Int)) ∧ w'.cell? ⟨w.heap.size, 1, none⟩ = some (.int .i64 (t : Int)) ∧ w'.cell? ⟨w.heap.size, 2, none⟩ = some (.int .i64 (u : Int)) ∧ w'.cell? ⟨w.heap.size, 3, none⟩ = some (.slice a ts.length c)) ∧ Blk w' w.heap.size 96 (verC (k : Int) (t : Int) (u : Int) a ts.length c s false) ∧ Below w.heap.size w w')) (by kernel_rfl) (by exact ⟨⟨B0.at 0, B0.at 1, B0.at 2, B0.at 3⟩, B0.drew, L0.drew⟩) (fun hHeld => ?_)
    refine take_run 0 (some 9) (v := ?_) rfl rfl (by kernel_rfl) (by kernel_rfl) (by kernel_rfl) (fun _ _ _ h => h) (by rfl) ?_ hHeld ?_
    rotate_left
    · ((intro w hSw); (try dsimp only at hSw); go_simp <;> with_reducible rfl)
    simp only [Act.put, List.setIfInBounds_toArray, List.set_cons_zero, List.set_cons_succ]
    refine take_run 1 (some 10) (v := ?_) rfl rfl (by kernel_rfl) (by kernel_rfl) (by kernel_rfl) (fun _ _ _ h => h) (by rfl) ?_ hHeld ?_
    rotate_left
    · ((intro w hSw); (try dsimp only at hSw); go_simp <;> with_reducible rfl)
    simp only [Act.put, List.setIfInBounds_toArray, List.set_cons_zero, List.set_cons_succ]
    refine take_run 4 (some 13) (v := ?_) rfl rfl (by kernel_rfl) (by kernel_rfl) (by kernel_rfl) (fun _ _ _ h => h) (by rfl) ?_ hHeld ?_
    rotate_left
    · ((intro w hSw); (try dsimp only at hSw); go_simp <;> with_reducible rfl)
    simp only [Act.put, List.setIfInBounds_toArray, List.set_cons_zero, List.set_cons_succ]
    refine take_run 5 (some 14) (v := ?_) rfl rfl (by kernel_rfl) (by kernel_rfl) (by kernel_rfl) (fun _ _ _ h => h) (by rfl) ?_ hHeld ?_
    rotate_left
    · ((intro w hSw); (try dsimp only at hSw); go_simp <;> with_reducible rfl)
    simp only [Act.put, List.setIfInBounds_toArray, List.set_cons_zero, List.set_cons_succ]
    refine take_run 8 (some 17) (v := ?_) rfl rfl (by kernel_rfl) (by kernel_rfl) (by kernel_rfl) (fun _ _ _ h => h) (by rfl) ?_ hHeld ?_
    rotate_left
    · ((intro w hSw); (try dsimp only at hSw); go_simp <;> with_reducible rfl)
    simp only [Act.put, List.setIfInBounds_toArray, List.set_cons_zero, List.set_cons_succ]
    refine take_run 9 (some 18) (v := ?_) rfl rfl (by kernel_rfl) (by kernel_rfl) (by kernel_rfl) (fun _ _ _ h => h) (by rfl) ?_ hHeld ?_
    rotate_left
    · ((intro w hSw); (try dsimp only at hSw); go_simp <;> with_reducible rfl)
    simp only [Act.put, List.setIfInBounds_toArray, List.set_cons_zero, List.set_cons_succ]
    refine take_run 13 (some 22) (v := ?_) rfl rfl (by kernel_rfl) (by kernel_rfl) (by kernel_rfl) (fun _ _ _ h => h) (by rfl) ?_ hHeld ?_
    rotate_left
    · ((intro w hSw); (try dsimp only at hSw); go_simp <;> with_reducible rfl)
    simp only [Act.put, List.setIfInBounds_toArray, List.set_cons_zero, List.set_cons_succ]
    refine take_one 2 (by kernel_rfl) rfl (fun K hK => ?_)
    go_simp
    ((with_reducible refine (l1Dec_any k (by omega) _).mono ?_); rintro e w1 ⟨rfl, hb⟩)
    try go_wp2_with fail
    refine hK.out _ _ (by exact ⟨⟨(hHeld.2.1.on hb).at 0, (hHeld.2.1.on hb).at 1, (hHeld.2.1.on hb).at 2, (hHeld.2.1.on hb).at 3⟩, hHeld.2.1.on hb, hHeld.2.2.trans (hb.mono hHeld.2.2.size)⟩) (fun hHeld => ?_)
    clear hK K
    refine take_run 3 (some 12) (v := ?_) rfl rfl (by kernel_rfl) (by kernel_rfl) (by kernel_rfl) (fun _ _ _ h => h) (by rfl) ?_ hHeld ?_
    rotate_left
    · ((intro w hSw); (try dsimp only at hSw); go_simp <;> with_reducible rfl)
    simp only [Act.put, List.setIfInBounds_toArray, List.set_cons_zero, List.set_cons_succ]
    refine take_one 6 (by kernel_rfl) rfl (fun K hK => ?_)
    go_simp
    ((with_reducible refine (l1Put_any t u (by omega) (by omega) _).mono ?_); rintro e w2 ⟨rfl, hb⟩)
    try go_wp2_with fail
    refine hK.out _ _ (by exact ⟨⟨(hHeld.2.1.on hb).at 0, (hHeld.2.1.on hb).at 1, (hHeld.2.1.on hb).at 2, (hHeld.2.1.on hb).at 3⟩, hHeld.2.1.on hb, hHeld.2.2.trans (hb.mono hHeld.2.2.size)⟩) (fun hHeld => ?_)
    clear hK K
    refine take_run 7 (some 16) (v := ?_) rfl rfl (by kernel_rfl) (by kernel_rfl) (by kernel_rfl) (fun _ _ _ h => h) (by rfl) ?_ hHeld ?_
    rotate_left
    · ((intro w hSw); (try dsimp only at hSw); go_simp <;> with_reducible rfl)
    simp only [Act.put, List.setIfInBounds_toArray, List.set_cons_zero, List.set_cons_succ]
    refine take_one 10 (by kernel_rfl) rfl (fun K hK => ?_)
    go_simp
    ((with_reducible refine (l2Past_any a c ts _ HT.out ((HG.out.on hHeld.2.2).up hHeld.2.2.size)).mono ?_); rintro e w3 ⟨rfl, hb⟩)
    try go_wp2_with fail
    refine hK.out _ _ (by exact ⟨⟨(hHeld.2.1.on hb).at 0, (hHeld.2.1.on hb).at 1, (hHeld.2.1.on hb).at 2, (hHeld.2.1.on hb).at 3⟩, hHeld.2.1.on hb, hHeld.2.2.trans (hb.mono hHeld.2.2.size)⟩) (fun hHeld => ?_)
    clear hK K
    refine take_run 11 (some 20) (v := ?_) rfl rfl (by kernel_rfl) (by kernel_rfl) (by kernel_rfl) (fun _ _ _ h => h) (by rfl) ?_ hHeld ?_
    rotate_left
    · ((intro w hSw); (try dsimp only at hSw); go_simp <;> with_reducible rfl)
    simp only [Act.put, List.setIfInBounds_toArray, List.set_cons_zero, List.set_cons_succ]
    refine take_run 12 (some 21) (v := ?_) rfl rfl (by kernel_rfl) (by kernel_rfl) (by kernel_rfl) (fun _ _ _ h => h) (by rfl) ?_ hHeld ?_
    rotate_left
    · ((intro w hSw); (try dsimp only at hSw); go_simp <;> with_reducible rfl)
    simp only [Act.put, List.setIfInBounds_toArray, List.set_cons_zero, List.set_cons_succ]
    refine take_run 14 (some 23) (v := ?_) rfl rfl (by kernel_rfl) (by kernel_rfl) (by kernel_rfl) (fun _ _ _ h => h) (by rfl) ?_ hHeld ?_
    rotate_left
    · ((intro w hSw); (try dsimp only at hSw); go_simp <;> with_reducible rfl)
    simp only [Act.put, List.setIfInBounds_toArray, List.set_cons_zero, List.set_cons_succ]
    refine take_run 15 (some 2) (v := ?_) rfl rfl (by kernel_rfl) (by kernel_rfl) (by kernel_rfl) (fun _ _ _ h => h) (by rfl) ?_ hHeld ?_
    rotate_left
    · ((intro w hSw); (try dsimp only at hSw); go_simp <;> with_reducible rfl)
    simp only [Act.put, List.setIfInBounds_toArray, List.set_cons_zero, List.set_cons_succ]
    refine wpAnyH_done (by kernel_rfl) ?_ _
    refine NoPanic.normal ?_
    have L9 := hHeld.2.2
    clear hHeld
    go_wp2
    go_ret
    exact ⟨by rw [HS.out]; rfl, L9⟩
  · have HS : Hid (verS k t u ts s true = decS k ++ ⟨#[32]⟩ ++ tagS t u ++ pastS ts ++ ⟨#[32]⟩ ++ ⟨#[45]⟩) := rfl
    generalize w.alloc (.cells (verC (k : Int) (t : Int) (u : Int) a ts.length c s true) 96) = W at L0 B0 q0 ⊢
    refine wp_region_noPanic ?_
    refine wp_region_held_drew (S := (fun w' => (w'.cell? ⟨w.heap.size, 0, none⟩ = some (.int .i64 (k : Int)) ∧ w'.cell? ⟨w.heap.size, 1, none⟩ = some (.int .i64 (t : Int)) ∧ w'.cell? ⟨w.heap.size, 2, none⟩ = some (.int .i64 (u : Int)) ∧ w'.cell? ⟨w.heap.size, 3, none⟩ = some (.slice a ts.length c)) ∧ Blk w' w.heap.size 96 (verC (k : Int) (t : Int) (u : Int) a ts.length c s true) ∧ Below w.heap.size w w')) (by kernel_rfl) (by exact ⟨⟨B0.at 0, B0.at 1, B0.at 2, B0.at 3⟩, B0.drew, L0.drew⟩) (fun hHeld => ?_)
    refine take_run 0 (some 9) (v := ?_) rfl rfl (by kernel_rfl) (by kernel_rfl) (by kernel_rfl) (fun _ _ _ h => h) (by rfl) ?_ hHeld ?_
    rotate_left
    · ((intro w hSw); (try dsimp only at hSw); go_simp <;> with_reducible rfl)
    simp only [Act.put, List.setIfInBounds_toArray, List.set_cons_zero, List.set_cons_succ]
    refine take_run 1 (some 10) (v := ?_) rfl rfl (by kernel_rfl) (by kernel_rfl) (by kernel_rfl) (fun _ _ _ h => h) (by rfl) ?_ hHeld ?_
    rotate_left
    · ((intro w hSw); (try dsimp only at hSw); go_simp <;> with_reducible rfl)
    simp only [Act.put, List.setIfInBounds_toArray, List.set_cons_zero, List.set_cons_succ]
    refine take_run 4 (some 13) (v := ?_) rfl rfl (by kernel_rfl) (by kernel_rfl) (by kernel_rfl) (fun _ _ _ h => h) (by rfl) ?_ hHeld ?_
    rotate_left
    · ((intro w hSw); (try dsimp only at hSw); go_simp <;> with_reducible rfl)
    simp only [Act.put, List.setIfInBounds_toArray, List.set_cons_zero, List.set_cons_succ]
    refine take_run 5 (some 14) (v := ?_) rfl rfl (by kernel_rfl) (by kernel_rfl) (by kernel_rfl) (fun _ _ _ h => h) (by rfl) ?_ hHeld ?_
    rotate_left
    · ((intro w hSw); (try dsimp only at hSw); go_simp <;> with_reducible rfl)
    simp only [Act.put, List.setIfInBounds_toArray, List.set_cons_zero, List.set_cons_succ]
    refine take_run 8 (some 17) (v := ?_) rfl rfl (by kernel_rfl) (by kernel_rfl) (by kernel_rfl) (fun _ _ _ h => h) (by rfl) ?_ hHeld ?_
    rotate_left
    · ((intro w hSw); (try dsimp only at hSw); go_simp <;> with_reducible rfl)
    simp only [Act.put, List.setIfInBounds_toArray, List.set_cons_zero, List.set_cons_succ]
    refine take_run 9 (some 18) (v := ?_) rfl rfl (by kernel_rfl) (by kernel_rfl) (by kernel_rfl) (fun _ _ _ h => h) (by rfl) ?_ hHeld ?_
    rotate_left
    · ((intro w hSw); (try dsimp only at hSw); go_simp <;> with_reducible rfl)
    simp only [Act.put, List.setIfInBounds_toArray, List.set_cons_zero, List.set_cons_succ]
    refine take_run 13 (some 22) (v := ?_) rfl rfl (by kernel_rfl) (by kernel_rfl) (by kernel_rfl) (fun _ _ _ h => h) (by rfl) ?_ hHeld ?_
    rotate_left
    · ((intro w hSw); (try dsimp only at hSw); go_simp <;> with_reducible rfl)
    simp only [Act.put, List.setIfInBounds_toArray, List.set_cons_zero, List.set_cons_succ]
    refine take_one 2 (by kernel_rfl) rfl (fun K hK => ?_)
    go_simp
    ((with_reducible refine (l1Dec_any k (by omega) _).mono ?_); rintro e w1 ⟨rfl, hb⟩)
    try go_wp2_with fail
    refine hK.out _ _ (by exact ⟨⟨(hHeld.2.1.on hb).at 0, (hHeld.2.1.on hb).at 1, (hHeld.2.1.on hb).at 2, (hHeld.2.1.on hb).at 3⟩, hHeld.2.1.on hb, hHeld.2.2.trans (hb.mono hHeld.2.2.size)⟩) (fun hHeld => ?_)
    clear hK K
    refine take_run 3 (some 12) (v := ?_) rfl rfl (by kernel_rfl) (by kernel_rfl) (by kernel_rfl) (fun _ _ _ h => h) (by rfl) ?_ hHeld ?_
    rotate_left
    · ((intro w hSw); (try dsimp only at hSw); go_simp <;> with_reducible rfl)
    simp only [Act.put, List.setIfInBounds_toArray, List.set_cons_zero, List.set_cons_succ]
    refine take_one 6 (by kernel_rfl) rfl (fun K hK => ?_)
    go_simp
    ((with_reducible refine (l1Put_any t u (by omega) (by omega) _).mono ?_); rintro e w2 ⟨rfl, hb⟩)
    try go_wp2_with fail
    refine hK.out _ _ (by exact ⟨⟨(hHeld.2.1.on hb).at 0, (hHeld.2.1.on hb).at 1, (hHeld.2.1.on hb).at 2, (hHeld.2.1.on hb).at 3⟩, hHeld.2.1.on hb, hHeld.2.2.trans (hb.mono hHeld.2.2.size)⟩) (fun hHeld => ?_)
    clear hK K
    refine take_run 7 (some 16) (v := ?_) rfl rfl (by kernel_rfl) (by kernel_rfl) (by kernel_rfl) (fun _ _ _ h => h) (by rfl) ?_ hHeld ?_
    rotate_left
    · ((intro w hSw); (try dsimp only at hSw); go_simp <;> with_reducible rfl)
    simp only [Act.put, List.setIfInBounds_toArray, List.set_cons_zero, List.set_cons_succ]
    refine take_one 10 (by kernel_rfl) rfl (fun K hK => ?_)
    go_simp
    ((with_reducible refine (l2Past_any a c ts _ HT.out ((HG.out.on hHeld.2.2).up hHeld.2.2.size)).mono ?_); rintro e w3 ⟨rfl, hb⟩)
    try go_wp2_with fail
    refine hK.out _ _ (by exact ⟨⟨(hHeld.2.1.on hb).at 0, (hHeld.2.1.on hb).at 1, (hHeld.2.1.on hb).at 2, (hHeld.2.1.on hb).at 3⟩, hHeld.2.1.on hb, hHeld.2.2.trans (hb.mono hHeld.2.2.size)⟩) (fun hHeld => ?_)
    clear hK K
    refine take_run 11 (some 20) (v := ?_) rfl rfl (by kernel_rfl) (by kernel_rfl) (by kernel_rfl) (fun _ _ _ h => h) (by rfl) ?_ hHeld ?_
    rotate_left
    · ((intro w hSw); (try dsimp only at hSw); go_simp <;> with_reducible rfl)
    simp only [Act.put, List.setIfInBounds_toArray, List.set_cons_zero, List.set_cons_succ]
    refine take_run 12 (some 21) (v := ?_) rfl rfl (by kernel_rfl) (by kernel_rfl) (by kernel_rfl) (fun _ _ _ h => h) (by rfl) ?_ hHeld ?_
    rotate_left
    · ((intro w hSw); (try dsimp only at hSw); go_simp <;> with_reducible rfl)
    simp only [Act.put, List.setIfInBounds_toArray, List.set_cons_zero, List.set_cons_succ]
    refine take_run 14 (some 23) (v := ?_) rfl rfl (by kernel_rfl) (by kernel_rfl) (by kernel_rfl) (fun _ _ _ h => h) (by rfl) ?_ hHeld ?_
    rotate_left
    · ((intro w hSw); (try dsimp only at hSw); go_simp <;> with_reducible rfl)
    simp only [Act.put, List.setIfInBounds_toArray, List.set_cons_zero, List.set_cons_succ]
    refine take_run 15 (some 2) (v := ?_) rfl rfl (by kernel_rfl) (by kernel_rfl) (by kernel_rfl) (fun _ _ _ h => h) (by rfl) ?_ hHeld ?_
    rotate_left
    · ((intro w hSw); (try dsimp only at hSw); go_simp <;> with_reducible rfl)
    simp only [Act.put, List.setIfInBounds_toArray, List.set_cons_zero, List.set_cons_succ]
    refine wpAnyH_done (by kernel_rfl) ?_ _
    refine NoPanic.normal ?_
    have L9 := hHeld.2.2
    clear hHeld
    go_wp2
    go_ret
    exact ⟨by rw [HS.out]; rfl, L9⟩
theorem verB_parts {k t u : Int} {ts : List (Int × Int)} {s : ByteArray} {g : Bool} (h : verB k t u ts s g = true) : (0 ≤ k ∧ k ≤ 3) ∧ textB s = true ∧ okB t u = true ∧ pastB ts = true := by
  unfold verB at h
  simp only [Bool.and_eq_true, decide_eq_true_eq] at h
  exact ⟨h.1.1.1.1.1.1, h.1.1.1.1.1.2, h.1.1.1.1.2, h.1.2⟩
theorem lowT_past {ts : List (Int × Int)} (h : pastB ts = true) : LowT ts := by
  unfold pastB at h
  rw [Bool.and_eq_true, List.all_eq_true, decide_eq_true_eq] at h
  refine ⟨by omega, fun x hx => ?_⟩
  have := okB_i (h.2 x hx)
  omega
/-- A version as VerPut writes it. -/
def verPutS (k t u : Int) (ts : List (Int × Int)) (s : ByteArray) (g : Bool) : ByteArray := if verB k t u ts s g = true then verS k.toNat t.toNat u.toNat ts s g else ⟨#[]⟩
end Go.Proofs.YtnaggcdhimcilaaGreat
/- Versions are told apart by how the model writes them. Condition: versions that are valid. -/
namespace Go.Proofs.YtnaggcdhimcilaaGreat

/-- The bytes of a text. -/
def bl (s : ByteArray) : List UInt8 := s.data.toList
theorem bl_app (s t : ByteArray) : bl (s ++ t) = bl s ++ bl t := by simp [bl, ByteArray.data_append]
theorem bl_inj {s t : ByteArray} (h : bl s = bl t) : s = t := by
  cases s with | mk a =>
  cases t with | mk b =>
  have : a = b := Array.toList_inj.1 h
  rw [this]
def Dig (b : UInt8) : Prop := 48 ≤ b.toNat ∧ b.toNat ≤ 57
theorem bl_fig (n : Nat) : bl (figS n) = [UInt8.ofNat (48 + n)] := rfl
theorem dig_fig {n : Nat} (h : n < 10) : Dig (UInt8.ofNat (48 + n)) := by
  unfold Dig
  rw [UInt8.toNat_ofNat']
  omega
theorem dec_dig (n : Nat) : ∀ b ∈ bl (decS n), Dig b := by
  induction n using Nat.strongRecOn with
  | ind n ih =>
    intro b hb
    by_cases h : n < 10
    · rw [decS_low h, bl_fig] at hb
      rw [List.mem_singleton.1 hb]
      exact dig_fig h
    · rw [decS_high h, bl_app, bl_fig, List.mem_append] at hb
      rcases hb with hb | hb
      · exact ih (n / 10) (by omega) b hb
      · rw [List.mem_singleton.1 hb]
        exact dig_fig (by omega)
def valL (l : List UInt8) : Nat := l.foldl (fun a b => a * 10 + (b.toNat - 48)) 0
theorem val_snoc (l : List UInt8) (b : UInt8) : valL (l ++ [b]) = valL l * 10 + (b.toNat - 48) := by simp [valL, List.foldl_append]
theorem val_dec (n : Nat) : valL (bl (decS n)) = n := by
  induction n using Nat.strongRecOn with
  | ind n ih =>
    by_cases h : n < 10
    · rw [decS_low h, bl_fig]
      have : (UInt8.ofNat (48 + n)).toNat = 48 + n := by rw [UInt8.toNat_ofNat']; omega
      show 0 * 10 + ((UInt8.ofNat (48 + n)).toNat - 48) = n
      omega
    · have : (UInt8.ofNat (48 + n % 10)).toNat = 48 + n % 10 := by rw [UInt8.toNat_ofNat']; omega
      rw [decS_high h, bl_app, bl_fig, val_snoc, ih (n / 10) (by omega), this]
      omega
theorem split_at : ∀ (a a' : List UInt8) (c c' : UInt8) (r r' : List UInt8), (∀ b ∈ a, Dig b) → (∀ b ∈ a', Dig b) → ¬ Dig c → ¬ Dig c' → a ++ c :: r = a' ++ c' :: r' → a = a' ∧ c = c' ∧ r = r'
  | [], [], c, c', r, r', _, _, _, _, h => by
    injection h with h1 h2
    exact ⟨rfl, h1, h2⟩
  | [], x :: a', c, c', r, r', _, h2, h3, _, h => by
    injection h with h _
    exact absurd (h2 x (List.mem_cons_self ..)) (h ▸ h3)
  | x :: a, [], c, c', r, r', h1, _, _, h4, h => by
    injection h with h _
    exact absurd (h1 x (List.mem_cons_self ..)) (h.symm ▸ h4)
  | x :: a, y :: a', c, c', r, r', h1, h2, h3, h4, h => by
    injection h with e h
    obtain ⟨q1, q2, q3⟩ := split_at a a' c c' r r' (fun b hb => h1 b (List.mem_cons_of_mem _ hb)) (fun b hb => h2 b (List.mem_cons_of_mem _ hb)) h3 h4 h
    exact ⟨by rw [e, q1], q2, q3⟩
theorem dec_split {n n' : Nat} {c c' : UInt8} {r r' : List UInt8} (hc : ¬ Dig c) (hc' : ¬ Dig c') (h : bl (decS n) ++ c :: r = bl (decS n') ++ c' :: r') : n = n' ∧ r = r' := by
  obtain ⟨h1, _, h3⟩ := split_at _ _ _ _ _ _ (dec_dig n) (dec_dig n') hc hc' h
  exact ⟨by rw [← val_dec n, h1, val_dec], h3⟩
theorem nodig32 : ¬ Dig 32 := by unfold Dig; decide
theorem nodig46 : ¬ Dig 46 := by unfold Dig; decide
/-- Causes and what follows them, as they are written. -/
def pastT (ts : List (Int × Int)) (R : List UInt8) : List UInt8 := ts.foldr (fun x r => 32 :: (bl (decS x.1.toNat) ++ 46 :: (bl (decS x.2.toNat) ++ r))) R
theorem pastS_from (ts : List (Int × Int)) (s : ByteArray) (R : List UInt8) : bl (ts.foldl (fun s x => s ++ ⟨#[32]⟩ ++ tagS x.1.toNat x.2.toNat) s) ++ R = bl s ++ pastT ts R := by
  induction ts generalizing s with
  | nil => rfl
  | cons x r ih =>
    rw [List.foldl_cons, ih]
    have e1 : bl (ByteArray.mk #[32]) = [32] := rfl
    have e2 : bl (ByteArray.mk #[46]) = [46] := rfl
    simp only [tagS, bl_app, e1, e2, pastT, List.foldr_cons, List.append_assoc, List.cons_append, List.nil_append]
theorem pastS_T (ts : List (Int × Int)) (R : List UInt8) : bl (pastS ts) ++ R = pastT ts R := pastS_from ts ⟨#[]⟩ R
theorem pastT_head (ts : List (Int × Int)) (r : List UInt8) : ∃ q, pastT ts (32 :: r) = 32 :: q := by
  cases ts with
  | nil => exact ⟨r, rfl⟩
  | cons x l => exact ⟨_, rfl⟩
theorem pastT_inj : ∀ (ts ts' : List (Int × Int)) (r r' : List UInt8), ts.length = ts'.length → (∀ x ∈ ts, 0 ≤ x.1 ∧ 0 ≤ x.2) → (∀ x ∈ ts', 0 ≤ x.1 ∧ 0 ≤ x.2) → pastT ts (32 :: r) = pastT ts' (32 :: r') → ts = ts' ∧ r = r'
  | [], [], r, r', _, _, _, h => ⟨rfl, by injection h⟩
  | [], _ :: _, _, _, h, _, _, _ => by simp at h
  | _ :: _, [], _, _, h, _, _, _ => by simp at h
  | x :: ts, y :: ts', r, r', hl, h1, h2, h => by
    simp only [pastT, List.foldr_cons] at h
    injection h with _ h
    obtain ⟨e1, h⟩ := dec_split nodig46 nodig46 h
    obtain ⟨q, hq⟩ := pastT_head ts r
    obtain ⟨q', hq'⟩ := pastT_head ts' r'
    have h' : bl (decS x.2.toNat) ++ pastT ts (32 :: r) = bl (decS y.2.toNat) ++ pastT ts' (32 :: r') := h
    rw [hq, hq'] at h'
    obtain ⟨e2, h'⟩ := dec_split nodig32 nodig32 h'
    have h'' : pastT ts (32 :: r) = pastT ts' (32 :: r') := by rw [hq, hq', h']
    simp only [List.length_cons] at hl
    obtain ⟨e3, e4⟩ := pastT_inj ts ts' r r' (by omega) (fun b hb => h1 b (List.mem_cons_of_mem _ hb)) (fun b hb => h2 b (List.mem_cons_of_mem _ hb)) h''
    have p1 := h1 x (List.mem_cons_self ..)
    have p2 := h2 y (List.mem_cons_self ..)
    refine ⟨?_, e4⟩
    rw [e3]
    congr 1
    exact Prod.ext (by omega) (by omega)
theorem text_inj {s s' : ByteArray} {g g' : Bool} (h : bl (textS s g) = bl (textS s' g')) : g = g' ∧ (g = false → s = s') := by
  have e1 : bl (ByteArray.mk #[45]) = [45] := rfl
  have e2 : bl (ByteArray.mk #[61]) = [61] := rfl
  cases g <;> cases g'
  · refine ⟨rfl, fun _ => bl_inj ?_⟩
    simp only [textS, Bool.false_eq_true, if_false, bl_app, e2, List.singleton_append] at h
    injection h
  · simp only [textS, Bool.false_eq_true, if_false, if_true, bl_app, e1, e2, List.singleton_append] at h
    injection h with h _
    exact absurd h (by decide)
  · simp only [textS, Bool.false_eq_true, if_false, if_true, bl_app, e1, e2, List.singleton_append] at h
    injection h with h _
    exact absurd h (by decide)
  · exact ⟨rfl, fun h => by cases h⟩
theorem verS_inj {k t u k' t' u' : Nat} {ts ts' : List (Int × Int)} {s s' : ByteArray} {g g' : Bool} (hl : ts.length = ts'.length) (h1 : ∀ x ∈ ts, 0 ≤ x.1 ∧ 0 ≤ x.2) (h2 : ∀ x ∈ ts', 0 ≤ x.1 ∧ 0 ≤ x.2) (h : verS k t u ts s g = verS k' t' u' ts' s' g') :
    k = k' ∧ t = t' ∧ u = u' ∧ ts = ts' ∧ g = g' ∧ (g = false → s = s') := by
  have h := congrArg bl h
  have e1 : bl (ByteArray.mk #[32]) = [32] := rfl
  have e2 : bl (ByteArray.mk #[46]) = [46] := rfl
  simp only [verS, tagS, bl_app, e1, e2, List.append_assoc, List.cons_append, List.nil_append] at h
  rw [pastS_T, pastS_T] at h
  obtain ⟨q1, h⟩ := dec_split nodig32 nodig32 h
  obtain ⟨q2, h⟩ := dec_split nodig46 nodig46 h
  obtain ⟨q, hq⟩ := pastT_head ts (bl (textS s g))
  obtain ⟨q', hq'⟩ := pastT_head ts' (bl (textS s' g'))
  rw [hq, hq'] at h
  obtain ⟨q3, h⟩ := dec_split nodig32 nodig32 h
  have h'' : pastT ts (32 :: bl (textS s g)) = pastT ts' (32 :: bl (textS s' g')) := by rw [hq, hq', h]
  obtain ⟨q4, h⟩ := pastT_inj ts ts' _ _ hl h1 h2 h''
  obtain ⟨q5, q6⟩ := text_inj h
  exact ⟨q1, q2, q3, q4, q5, q6⟩
end Go.Proofs.YtnaggcdhimcilaaGreat
