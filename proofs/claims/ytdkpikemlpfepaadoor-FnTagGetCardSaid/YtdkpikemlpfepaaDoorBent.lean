/- Contracts of the draws of texts that are nearly written right. Condition: as in Draw. -/
import Derived.Test.YtdkpikemlpfepaaDoorDrawTags
import Derived.Test.YtdkpikemlpfepaaDoorTagPutI
namespace Go.Proofs.YtdkpikemlpfepaaDoor
open Go.RowKit Go.Joins
attribute [local go_sem ↓] Go.wp_at_zero Go.wp_at_succ

set_option maxHeartbeats 1000000 in
theorem ofB_any (w : World) (g : Nat) (a : Option Addr) (len cap m c n : Nat) (h : Rd w g a len cap m) (hm : m + 1 ≤ 1000000) (hne : c ≠ g) (hc : c < w.heap.size) (hn : 1 ≤ n) (hn' : n ≤ 1000)
    (hx : ∀ i : Nat, i < n → ∃ s : ByteArray, s.size ≤ 16 ∧ w.cell? ⟨c, i, none⟩ = some (.string s)) :
    Calls Tryd.prog 35 #[.pointer (some ⟨g, 0, none⟩), .slice (some ⟨c, 0, none⟩) n n] w fun e w' => ∃ s : ByteArray, s.size ≤ 16 ∧ e = .returned (.string s) ∧ w.grownBy w' (some g) := by
  go_enter Tryd.func35, Tryd.ntmps35
  go_wp2_with fail
  refine (pick_any _ g a len cap m _ h (by omega) (by omega)).mono ?_
  rintro e w1 ⟨x, hxx, rfl, hg1, h1⟩
  have hxa := hxx.1
  have hxb := hxx.2 (by omega)
  obtain ⟨k, rfl⟩ := Int.eq_ofNat_of_zero_le hxa
  obtain ⟨s, hs, hcell⟩ := hx k (by omega)
  have c0 : w1.cell? ⟨c, k, none⟩ = some (.string s) := (World.cell?_of_block (hg1.block c hc (fun e => hne (by injection e)))).trans hcell
  have HS := hide hs
  have HG := hide hg1
  clear hx hg1 h1 hcell h hxx hs
  go_wp2
  go_ret
  exact ⟨s, HS.out, rfl, HG.out⟩
/-- What a draw of a bent text leaves. -/
def BentS (w : World) (g : Nat) (s : ByteArray) (e : Ending) (w' : World) : Prop := ∃ s' : ByteArray, s'.size ≤ s.size + 16 ∧ e = .returned (.string s') ∧ w.grownBy w' (some g)
set_option maxRecDepth 100000 in
set_option maxHeartbeats 4000000 in
theorem l20Bent_any (w : World) (g : Nat) (a : Option Addr) (len cap m : Nat) (s : ByteArray) (h : Rd w g a len cap m) (hm : m + 3 ≤ 1000000) (hs : s.size ≤ 900000) :
    Calls Tryd.prog 25 #[.pointer (some ⟨g, 0, none⟩), .string s] w (BentS w g s) := by
  have hgw := h.inside
  have hw1 : IntKind.i64.wrap ((s.size : Int) + 1) = (s.size : Int) + 1 := by rw [IntKind.wrap_i64]; omega
  go_enter Tryd.func25, Tryd.ntmps25
  go_wp2_with fail
  refine (pick_any _ g a len cap m _ h (by omega) (by omega)).mono ?_
  rintro e w1 ⟨x, hxx, rfl, hg1, h1⟩
  have hxa := hxx.1
  have hxb := hxx.2 (by omega)
  obtain ⟨k, rfl⟩ := Int.eq_ofNat_of_zero_le hxa
  clear hxx hxa h
  go_wp2_with fail
  refine (pick_any _ g a len cap (m + 1) _ h1 (by omega) (by omega)).mono ?_
  rintro e w2 ⟨y, hyy, rfl, hg2, h2⟩
  have hg := hg1.trans hg2
  have z1 := h1.inside
  have z2 := h2.inside
  have HG := hide hg
  have i1 : (0 : Int) ≤ (k : Int) := by omega
  have i2 : (k : Int) ≤ (s.size : Int) := by omega
  clear hyy hg1 hg2 h1 hg
  by_cases y0 : y = 0
  · subst y0
    by_cases hk : k < s.size
    · have hk' : (k : Int) < (s.size : Int) := by omega
      have hw2 : IntKind.i64.wrap ((k : Int) + 1) = (k : Int) + 1 := by rw [IntKind.wrap_i64]; omega
      have i3 : (0 : Int) ≤ (k : Int) + 1 := by omega
      have i4 : (k : Int) + 1 ≤ (s.size : Int) := by omega
      have hoff := hide (fun (W : World) (h : Rd W g a len cap (m + 1 + 1)) => ofB_any W g a len cap (m + 1 + 1) w2.heap.size 8 h (by omega) (by omega))
      have HC : Hid (∀ i : Nat, i < 8 → ∃ s : ByteArray, s.size ≤ 16 ∧ (w2.alloc (.cells #[.string ⟨#[48]⟩, .string ⟨#[49]⟩, .string ⟨#[32]⟩, .string ⟨#[46]⟩, .string ⟨#[35]⟩, .string ⟨#[61]⟩, .string ⟨#[10]⟩, .string ⟨#[57]⟩] 9)).drew.cell? ⟨w2.heap.size, i, none⟩ = some (.string s)) := fun i hi => by
        rw [Blk.at (Blk.drew (Blk.made _ _ _))]
        match i, hi with
        | 0, _ => exact ⟨_, by decide, rfl⟩
        | 1, _ => exact ⟨_, by decide, rfl⟩
        | 2, _ => exact ⟨_, by decide, rfl⟩
        | 3, _ => exact ⟨_, by decide, rfl⟩
        | 4, _ => exact ⟨_, by decide, rfl⟩
        | 5, _ => exact ⟨_, by decide, rfl⟩
        | 6, _ => exact ⟨_, by decide, rfl⟩
        | 7, _ => exact ⟨_, by decide, rfl⟩
        | n + 8, hi => omega
      have zp : (s.extract 0 k).size ≤ s.size := by simp; omega
      have zq : (s.extract (k + 1) s.size).size ≤ s.size := by simp
      have HR := hide h2
      clear h2
      go_wp2_with fail
      refine wp_region_noPanic ?_
      refine wp_region_held_drew (S := (fun w' => w.grownBy w' (some g))) (by kernel_rfl) (by exact HG.out.trans (grown_none (row := some g) (Below.refl _ _).drew)) (fun hHeld => ?_)
      refine take_run 0 (some 19) (v := ?_) rfl rfl (by kernel_rfl) (by kernel_rfl) (by kernel_rfl) (fun _ _ _ h => h) (by rfl) ?_ hHeld ?_
      rotate_left
      · ((intro w hSw); (try dsimp only at hSw); go_simp <;> with_reducible rfl)
      simp only [Act.put, List.setIfInBounds_toArray, List.set_cons_zero, List.set_cons_succ]
      refine take_run 1 (some 20) (v := ?_) rfl rfl (by kernel_rfl) (by kernel_rfl) (by kernel_rfl) (fun _ _ _ h => h) (by rfl) ?_ hHeld ?_
      rotate_left
      · ((intro w hSw); (try dsimp only at hSw); go_simp <;> with_reducible rfl)
      simp only [Act.put, List.setIfInBounds_toArray, List.set_cons_zero, List.set_cons_succ]
      refine take_run 2 (some 21) (v := ?_) rfl rfl (by kernel_rfl) (by kernel_rfl) (by kernel_rfl) (fun _ _ _ h => h) (by rfl) ?_ hHeld ?_
      rotate_left
      · ((intro w hSw); (try dsimp only at hSw); go_simp <;> with_reducible rfl)
      simp only [Act.put, List.setIfInBounds_toArray, List.set_cons_zero, List.set_cons_succ]
      refine take_run 3 (some 22) (v := ?_) rfl rfl (by kernel_rfl) (by kernel_rfl) (by kernel_rfl) (fun _ _ _ h => h) (by rfl) ?_ hHeld ?_
      rotate_left
      · ((intro w hSw); (try dsimp only at hSw); go_simp <;> with_reducible rfl)
      simp only [Act.put, List.setIfInBounds_toArray, List.set_cons_zero, List.set_cons_succ]
      refine take_run 7 (some 26) (v := ?_) rfl rfl (by kernel_rfl) (by kernel_rfl) (by kernel_rfl) (fun _ _ _ h => h) (by rfl) ?_ hHeld ?_
      rotate_left
      · ((intro w hSw); (try dsimp only at hSw); go_simp <;> with_reducible rfl)
      simp only [Act.put, List.setIfInBounds_toArray, List.set_cons_zero, List.set_cons_succ]
      refine take_run 8 (some 27) (v := ?_) rfl rfl (by kernel_rfl) (by kernel_rfl) (by kernel_rfl) (fun _ _ _ h => h) (by rfl) ?_ hHeld ?_
      rotate_left
      · ((intro w hSw); (try dsimp only at hSw); go_simp <;> with_reducible rfl)
      simp only [Act.put, List.setIfInBounds_toArray, List.set_cons_zero, List.set_cons_succ]
      refine take_run 9 (some 28) (v := ?_) rfl rfl (by kernel_rfl) (by kernel_rfl) (by kernel_rfl) (fun _ _ _ h => h) (by rfl) ?_ hHeld ?_
      rotate_left
      · ((intro w hSw); (try dsimp only at hSw); go_simp <;> with_reducible rfl)
      simp only [Act.put, List.setIfInBounds_toArray, List.set_cons_zero, List.set_cons_succ]
      refine take_run 10 (some 29) (v := ?_) rfl rfl (by kernel_rfl) (by kernel_rfl) (by kernel_rfl) (fun _ _ _ h => h) (by rfl) ?_ hHeld ?_
      rotate_left
      · ((intro w hSw); (try dsimp only at hSw); go_simp <;> with_reducible rfl)
      simp only [Act.put, List.setIfInBounds_toArray, List.set_cons_zero, List.set_cons_succ]
      refine take_one 4 (by kernel_rfl) rfl (fun K hK => ?_)
      go_simp
      refine hK.out _ _ (by exact HG.out.trans ((grown_none (row := some g) (below_alloc1 w2 _)).trans (grown_none (row := some g) (Below.refl _ _).drew))) (fun hHeld => ?_)
      clear hK K
      refine take_one 5 (by kernel_rfl) rfl (fun K hK => ?_)
      go_simp
      ((with_reducible refine (hoff.out _ ((HR.out.alloc _).on (Below.refl _ _).drew) (by simp) (by omega) (by omega) (by exact HC.out)).mono ?_); rintro e w3 ⟨x, hx, rfl, hg3⟩; have hz1 : ¬ (9223372036854775807 < min k s.size + x.size) := (by omega); have hz2 : ¬ (9223372036854775807 < min k s.size + x.size + (s.size - (k + 1))) := (by omega))
      try go_wp2_with fail
      refine hK.out _ _ (by exact hHeld.trans hg3) (fun hHeld => ?_)
      clear hK K
      refine take_run 6 (some 25) (v := ?_) rfl rfl (by kernel_rfl) (by kernel_rfl) (by kernel_rfl) (fun _ _ _ h => h) (by rfl) ?_ hHeld ?_
      rotate_left
      · ((intro w hSw); (try dsimp only at hSw); go_simp <;> with_reducible rfl)
      simp only [Act.put, List.setIfInBounds_toArray, List.set_cons_zero, List.set_cons_succ]
      refine take_run 11 (some 30) (v := ?_) rfl rfl (by kernel_rfl) (by kernel_rfl) (by kernel_rfl) (fun _ _ _ h => h) (by rfl) ?_ hHeld ?_
      rotate_left
      · ((intro w hSw); (try dsimp only at hSw); go_simp <;> with_reducible rfl)
      simp only [Act.put, List.setIfInBounds_toArray, List.set_cons_zero, List.set_cons_succ]
      refine take_run 12 (some 4) (v := ?_) rfl rfl (by kernel_rfl) (by kernel_rfl) (by kernel_rfl) (fun _ _ _ h => h) (by rfl) ?_ hHeld ?_
      rotate_left
      · ((intro w hSw); (try dsimp only at hSw); go_simp <;> with_reducible rfl)
      simp only [Act.put, List.setIfInBounds_toArray, List.set_cons_zero, List.set_cons_succ]
      refine wpAnyH_done (by kernel_rfl) ?_ _
      refine NoPanic.normal ?_
      go_wp2
      go_ret
      exact ⟨s.extract 0 k ++ x ++ s.extract (k + 1) s.size, by simp; omega, rfl, hHeld⟩
    · have hk' : ¬ ((k : Int) < (s.size : Int)) := by omega
      go_wp2
      go_ret
      exact ⟨s, by omega, rfl, HG.out⟩
  have hy0 : (y == 0) = false := beq_eq_false_iff_ne.2 y0
  by_cases y1 : y = 1
  · subst y1
    go_wp2
    go_ret
    exact ⟨_, by simp; omega, rfl, HG.out⟩
  have hy1 : (y == 1) = false := beq_eq_false_iff_ne.2 y1
  by_cases y2 : y = 2
  · subst y2
    go_wp2_with fail
    refine (ofB_any _ g a len cap (m + 1 + 1) w2.heap.size 4 (h2.alloc _) (by omega) (by omega) (by simp) (by omega) (by omega) (fun i hi => ?_)).mono ?_
    · rw [Blk.at (Blk.made _ _ _)]
      match i, hi with
      | 0, _ => exact ⟨_, by decide, rfl⟩
      | 1, _ => exact ⟨_, by decide, rfl⟩
      | 2, _ => exact ⟨_, by decide, rfl⟩
      | 3, _ => exact ⟨_, by decide, rfl⟩
      | n + 4, hi => omega
    · rintro e w3 ⟨x, hx, rfl, hg3⟩
      have HG3 := hide (HG.out.trans ((grown_none (row := some g) (below_alloc1 w2 _)).trans hg3))
      have hz : ¬ (9223372036854775807 < s.size + x.size) := by omega
      clear h2 hg3
      go_wp2
      go_ret
      exact ⟨s ++ x, by rw [ByteArray.size_append]; omega, rfl, HG3.out⟩
  have hy2 : (y == 2) = false := beq_eq_false_iff_ne.2 y2
  go_wp2
  go_ret
  exact ⟨s, by omega, rfl, HG.out⟩
end Go.Proofs.YtdkpikemlpfepaaDoor
