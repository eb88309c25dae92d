/- Contract of the draw of a version, valid or not. Condition: as in Draw. -/
import Derived.Test.YtgofeljmpkhkbaaDrawVers2
namespace Go.Proofs.Ytgofeljmpkhkbaa
open Go.RowKit Go.Joins
attribute [local go_sem ↓] Go.wp_at_zero Go.wp_at_succ

set_option maxHeartbeats 1000000 in
theorem oneN_any (w : World) (g : Nat) (a : Option Addr) (len cap m c n : Nat) (h : Rd w g a len cap m) (hm : m + 1 ≤ 1000000) (hne : c ≠ g) (hc : c < w.heap.size) (hn : 1 ≤ n) (hn' : n ≤ 1000)
    (hx : ∀ i : Nat, i < n → ∃ x : Int, w.cell? ⟨c, i, none⟩ = some (.int .i64 x)) :
    Calls Try.prog 49 #[.pointer (some ⟨g, 0, none⟩), .slice (some ⟨c, 0, none⟩) n n] w (Drawn w g a len cap m 1 (fun _ => True)) := by
  go_enter Try.func49, Try.ntmps49
  go_wp2_with fail
  refine (pick_any _ g a len cap m _ h (by omega) (by omega)).mono ?_
  rintro e w1 ⟨x, hxx, rfl, hg1, h1⟩
  have hxa := hxx.1
  have hxb := hxx.2 (by omega)
  obtain ⟨k, rfl⟩ := Int.eq_ofNat_of_zero_le hxa
  obtain ⟨s, hcell⟩ := hx k (by omega)
  have c0 : w1.cell? ⟨c, k, none⟩ = some (.int .i64 s) := (World.cell?_of_block (hg1.block c hc (fun e => hne (by injection e)))).trans hcell
  have HG := hide hg1
  have HR := hide h1
  clear hx hg1 h1 hcell h hxx
  go_wp2
  go_ret
  exact ⟨s, trivial, rfl, HG.out, HR.out⟩

/-- What the draw of a version, valid or not, leaves. -/
def DrawnV (w : World) (g : Nat) (ra : Option Addr) (len cap m d : Nat) (e : Ending) (w' : World) : Prop :=
  ∃ v : V, e = .returned (.agg (verC v.k v.t v.u v.a v.ts.length v.c v.s v.g)) ∧ v.ts.length ≤ 4 ∧ v.s.size ≤ 16 ∧ PastIn w' w.heap.size g v.a v.ts ∧ w.grownBy w' (some g) ∧ Rd w' g ra len cap (m + d)
theorem Fours.len {w : World} {b : Nat} {ts : List (Int × Int)} (h : Fours w b ts) : ts.length = 4 := by
  obtain ⟨_, _, _, e, _⟩ := h
  exact e
theorem DV.finA {w wr : World} {g len cap mm pb gb m d : Nat} {ra : Option Addr} {ts : List (Int × Int)} {k t u : Int} {s : ByteArray} {b : Bool} (h : DV w g ra len cap mm pb gb k t u s b ts wr) (hgw : g < w.heap.size) (hby : Bytes w g ra len) (hb : w.heap.size < gb) (hs : s.size ≤ 16) (hmm : mm ≤ m + d) (hm : m + d ≤ 1000000) (x0 x1 x2 x3 x4 x5 : Value) :
    DrawnV w g ra len cap m d (.returned (.agg (verC k t u (some ⟨gb, 0, none⟩) 4 4 s b))) ((((((wr.setCell ⟨w.heap.size, 0, none⟩ x0).setCell ⟨w.heap.size, 1, none⟩ x1).setCell ⟨w.heap.size, 2, none⟩ x2).setCell ⟨w.heap.size, 3, none⟩ x3).setCell ⟨w.heap.size, 4, none⟩ x4).setCell ⟨w.heap.size, 5, none⟩ x5) :=
  ⟨⟨k, t, u, some ⟨gb, 0, none⟩, 4, ts, s, b⟩, by simp only [h.tags.len], by simp only [h.tags.len]; omega, hs, (h.tags.aside6 (by omega) _ _ _ _ _ _).past (by omega) (by omega), grown_set6 h.grown (Nat.le_refl _) _ _ _ _ _ _, (h.rd.set6 hby hgw h.grown (Nat.le_refl _) _ _ _ _ _ _).more _ hmm hm⟩
/-- As before, but for the first tag, which is left out. -/
theorem DV.finB {w wr : World} {g len cap mm pb gb m d : Nat} {ra : Option Addr} {ts : List (Int × Int)} {k t u : Int} {s : ByteArray} {b : Bool} (h : DV w g ra len cap mm pb gb k t u s b ts wr) (hgw : g < w.heap.size) (hby : Bytes w g ra len) (hp : w.heap.size < pb) (hne : pb ≠ gb) (hb : w.heap.size < gb) (hs : s.size ≤ 16) (hmm : mm ≤ m + d) (hm : m + d ≤ 1000000) (x x0 x1 x2 x3 x4 x5 : Value) :
    DrawnV w g ra len cap m d (.returned (.agg (verC k t u (some ⟨gb, 2, none⟩) 3 3 s b))) (((((((wr.setCell ⟨pb, 3, none⟩ x).setCell ⟨w.heap.size, 0, none⟩ x0).setCell ⟨w.heap.size, 1, none⟩ x1).setCell ⟨w.heap.size, 2, none⟩ x2).setCell ⟨w.heap.size, 3, none⟩ x3).setCell ⟨w.heap.size, 4, none⟩ x4).setCell ⟨w.heap.size, 5, none⟩ x5) := by
  have hl : (ts.drop 1).length = 3 := by rw [List.length_drop, h.tags.len]
  have G1 := grown_set h.grown (p := ⟨pb, 3, none⟩) (by simp only; omega) x
  exact ⟨⟨k, t, u, some ⟨gb, 2, none⟩, 3, ts.drop 1, s, b⟩, by simp only [hl], by simp only [hl]; omega, hs, ((h.tags.aside (p := ⟨pb, 3, none⟩) (by simp only; exact fun e => hne e.symm) _).aside6 (by omega) _ _ _ _ _ _).tail (by omega) (by omega), grown_set6 G1 (Nat.le_refl _) _ _ _ _ _ _, ((h.rd.set hby hgw h.grown (p := ⟨pb, 3, none⟩) (by simp only; omega) _).set6 hby hgw G1 (Nat.le_refl _) _ _ _ _ _ _).more _ hmm hm⟩

set_option maxRecDepth 100000 in
set_option maxHeartbeats 4000000 in
theorem l20AnyVer_any (w : World) (g : Nat) (a : Option Addr) (len cap m : Nat) (h : Rd w g a len cap m) (hm : m + 30 ≤ 1000000) :
    Calls Try.prog 25 #[.pointer (some ⟨g, 0, none⟩)] w (DrawnV w g a len cap m 30) := by
  have hgw := h.inside
  have HBY := hide h.bytes
  have B0 := Blk.made w 32 (verC 0 0 0 none 0 0 ⟨#[]⟩ false)
  have L0 := below_alloc1 w (.cells (verC 0 0 0 none 0 0 ⟨#[]⟩ false) 32)
  have G0 := grown_none (row := some g) L0
  go_enter Try.func25, Try.ntmps25
  go_wp2_with fail
  refine (l20Ver_any _ g a len cap m (h.on L0) (by omega)).mono ?_
  rintro e w1 ⟨k, t, u, gb, ts, s, b, rfl, hk, hs, hF, hgb0, hg1, h1⟩
  have LA := below_alloc1 w1 (.cells (verC k t u (some ⟨gb, 0, none⟩) 4 4 s b) 32)
  have z1 : w.heap.size + 1 ≤ w1.heap.size := by have := hg1.size; simpa using this
  have hgb : w.heap.size < gb := by simp at hgb0; omega
  have hne : w1.heap.size ≠ gb := by have := hF.inside; omega
  have hpb : w.heap.size < w1.heap.size := by omega
  have HD : Hid (DV w g a len cap (m + 20) w1.heap.size gb k t u s b ts (w1.alloc (.cells (verC k t u (some ⟨gb, 0, none⟩) 4 4 s b) 32))) :=
    ⟨(B0.kept hg1 (by intro e; injection e; omega)).on LA, Blk.made _ _ _, hF.kept (grown_none (row := none) LA) (by simp), (G0.trans hg1).trans (grown_none LA), h1.on LA⟩
  clear B0 L0 G0 h hg1 h1 hF LA hgb0 z1
  go_wp2_with fail
  generalize w1.alloc (.cells (verC k t u (some ⟨gb, 0, none⟩) 4 4 s b) 32) = W1 at HD ⊢
  obtain ⟨pb, epb⟩ : ∃ pb, pb = w1.heap.size := ⟨_, rfl⟩
  rw [← epb] at HD hne hpb ⊢
  clear epb
  refine (pick_any _ g a len cap _ _ HD.out.rd (by omega) (by omega)).mono ?_
  rintro e w2 ⟨x, hx, rfl, hg2, h2⟩
  have D2 := HD.out.kept hgw hpb hgb hg2 h2
  clear HD hg2 h2 hx
  by_cases hx0 : x = 0
  · subst hx0
    go_wp2_with fail
    refine (oneN_any _ g a len cap _ w2.heap.size 2 (D2.rd.alloc _) (by omega) (by have := D2.rd.inside; omega) (by simp) (by omega) (by omega) (fun i hi => ?_)).mono ?_
    · rw [Blk.at (Blk.made _ _ _)]
      match i, hi with
      | 0, _ => exact ⟨_, rfl⟩
      | 1, _ => exact ⟨_, rfl⟩
      | n + 2, hi => omega
    · rintro e w3 ⟨y, _, rfl, hg3, h3⟩
      have D3 := D2.kept hgw hpb hgb ((World.grownBy_alloc _ _ _).trans hg3) h3
      have k3 := D3.box.six
      have D4 := D3.turn hgw HBY.out hpb hne 0 (.int .i64 y) (k' := y) (t' := t) (u' := u) (s' := s) (b' := b) rfl
      have r9 := D4.res.six
      have k9 := D4.box.six
      have H9 := hide D4
      clear D4 D3 D2 hg3 h3
      go_wp2
      refine bodyPost_ret (v := .agg (verC y t u (some ⟨gb, 0, none⟩) 4 4 s b)) (by simp [results, Try.results25, go_sem, r9]) rfl ?_
      exact H9.out.finA hgw HBY.out hgb hs (by omega) hm _ _ _ _ _ _
  have hb0 : (x == 0) = false := by simpa using hx0
  by_cases hx1 : x = 1
  · subst hx1
    go_wp2_with fail
    refine (of_any _ g a len cap _ w2.heap.size 3 (D2.rd.alloc _) (by omega) (by have := D2.rd.inside; omega) (by simp) (by omega) (by omega) (fun i hi => ?_)).mono ?_
    · rw [Blk.at (Blk.made _ _ _)]
      match i, hi with
      | 0, _ => exact ⟨_, by decide, rfl⟩
      | 1, _ => exact ⟨_, by decide, rfl⟩
      | 2, _ => exact ⟨_, by decide, rfl⟩
      | n + 3, hi => omega
    · rintro e w3 ⟨s2, hs2, rfl, hg3, h3⟩
      have D3 := D2.kept hgw hpb hgb ((World.grownBy_alloc _ _ _).trans hg3) h3
      have k3 := D3.box.six
      have D4 := D3.turn hgw HBY.out hpb hne 4 (.string s2) (k' := k) (t' := t) (u' := u) (s' := s2) (b' := b) rfl
      have r9 := D4.res.six
      have k9 := D4.box.six
      have H9 := hide D4
      clear D4 D3 D2 hg3 h3
      go_wp2
      refine bodyPost_ret (v := .agg (verC k t u (some ⟨gb, 0, none⟩) 4 4 s2 b)) (by simp [results, Try.results25, go_sem, r9]) rfl ?_
      exact H9.out.finA hgw HBY.out hgb hs2 (by omega) hm _ _ _ _ _ _
  have hb1 : (x == 1) = false := by simpa using hx1
  by_cases hx2 : x = 2
  · subst hx2
    have k3 := D2.box.six
    have r9 := (D2.res.aside (p := ⟨pb, 3, none⟩) (by simp only; omega) (.slice (some ⟨gb, 2, none⟩) 3 3)).six
    have H9 := hide D2
    clear D2
    go_wp2
    refine bodyPost_ret (v := .agg (verC k t u (some ⟨gb, 2, none⟩) 3 3 s b)) (by simp [results, Try.results25, go_sem, r9]) rfl ?_
    exact H9.out.finB hgw HBY.out hpb hne hgb hs (by omega) hm _ _ _ _ _ _ _
  have hb2 : (x == 2) = false := by simpa using hx2
  by_cases hx3 : x = 3
  · subst hx3
    have D3 := D2.drew hgw hpb hgb
    clear D2
    go_wp2_with fail
    refine wp_region_noPanic ?_
    refine wp_region_held_drew (S := (fun w' => w'.cell? ⟨pb, 3, none⟩ = some (.slice (some ⟨gb, 0, none⟩) 4 4) ∧ Blk w' pb 32 (verC k t u (some ⟨gb, 0, none⟩) 4 4 s b))) (by kernel_rfl) (by exact ⟨D3.box.at 3, D3.box⟩) (fun hHeld => ?_)
    refine take_run 0 (some 30) (v := ?_) rfl rfl (by kernel_rfl) (by kernel_rfl) (by kernel_rfl) (fun _ _ _ h => h) (by rfl) ?_ hHeld ?_
    rotate_left
    · ((intro w hSw); (try dsimp only at hSw); go_simp <;> with_reducible rfl)
    simp only [Act.put, List.setIfInBounds_toArray, List.set_cons_zero, List.set_cons_succ]
    refine take_run 1 (some 31) (v := ?_) rfl rfl (by kernel_rfl) (by kernel_rfl) (by kernel_rfl) (fun _ _ _ h => h) (by rfl) ?_ hHeld ?_
    rotate_left
    · ((intro w hSw); (try dsimp only at hSw); go_simp <;> with_reducible rfl)
    simp only [Act.put, List.setIfInBounds_toArray, List.set_cons_zero, List.set_cons_succ]
    refine take_run 2 (some 32) (v := ?_) rfl rfl (by kernel_rfl) (by kernel_rfl) (by kernel_rfl) (fun _ _ _ h => h) (by rfl) ?_ hHeld ?_
    rotate_left
    · ((intro w hSw); (try dsimp only at hSw); go_simp <;> with_reducible rfl)
    simp only [Act.put, List.setIfInBounds_toArray, List.set_cons_zero, List.set_cons_succ]
    refine take_run 3 (some 33) (v := ?_) rfl rfl (by kernel_rfl) (by kernel_rfl) (by kernel_rfl) (fun _ _ _ h => h) (by rfl) ?_ hHeld ?_
    rotate_left
    · ((intro w hSw); (try dsimp only at hSw); go_simp <;> with_reducible rfl)
    simp only [Act.put, List.setIfInBounds_toArray, List.set_cons_zero, List.set_cons_succ]
    refine take_run 5 (some 35) (v := ?_) rfl rfl (by kernel_rfl) (by kernel_rfl) (by kernel_rfl) (fun _ _ _ h => h) (by rfl) ?_ hHeld ?_
    rotate_left
    · ((intro w hSw); (try dsimp only at hSw); go_simp <;> with_reducible rfl)
    simp only [Act.put, List.setIfInBounds_toArray, List.set_cons_zero, List.set_cons_succ]
    refine take_one 4 (by kernel_rfl) rfl (fun K hK => ?_)
    go_simp
    (refine (pick_any _ g a len cap _ _ D3.rd (by omega) (by omega)).mono ?_; rintro e w3 ⟨y, hy, rfl, hg3, h3⟩; have D4 := D3.kept hgw hpb hgb hg3 h3; have hy0 := hy.1; have hy1 := hy.2 (by omega); obtain ⟨yn, rfl⟩ := Int.eq_ofNat_of_zero_le hy0; have hyn : yn < 4 := (by omega); obtain ⟨⟨u0, u1, c0, c1⟩, f0, f1⟩ := D4.tags.cells hyn)
    try go_wp2_with fail
    refine hK.out _ _ (by exact ⟨D4.box.at 3, D4.box⟩) (fun hHeld => ?_)
    clear hK K
    refine take_run 6 (some 36) (v := ?_) rfl rfl (by kernel_rfl) (by kernel_rfl) (by kernel_rfl) (fun _ _ _ h => h) (by rfl) ?_ hHeld ?_
    rotate_left
    · ((intro w hSw); (try dsimp only at hSw); go_simp <;> with_reducible rfl)
    simp only [Act.put, List.setIfInBounds_toArray, List.set_cons_zero, List.set_cons_succ]
    refine take_one 7 (by kernel_rfl) rfl (fun K hK => ?_)
    go_simp
    refine hK.out _ _ (by exact ⟨((D4.put hgw HBY.out hgb hne hyn 50 1).box).at 3, (D4.put hgw HBY.out hgb hne hyn 50 1).box⟩) (fun hHeld => ?_)
    clear hK K
    refine wpAnyH_done (by kernel_rfl) ?_ _
    refine NoPanic.normal ?_
    have D5 := D4.put hgw HBY.out hgb hne hyn 50 1
    clear hHeld D3 D4 c0 c1 f0 f1 h3 hg3
    generalize (w3.setCell ⟨gb, yn * 2, none⟩ (.int .i64 50)).setCell ⟨gb, yn * 2 + 1, none⟩ (.int .i64 1) = W5 at D5 ⊢
    have r9 := D5.res.six
    have k9 := D5.box.six
    have H9 := hide D5
    clear D5
    go_wp2
    refine bodyPost_ret (v := .agg (verC k t u (some ⟨gb, 0, none⟩) 4 4 s b)) (by simp [results, Try.results25, go_sem, r9]) rfl ?_
    exact H9.out.finA hgw HBY.out hgb hs (by omega) hm _ _ _ _ _ _
  have hb3 : (x == 3) = false := by simpa using hx3
  by_cases hx4 : x = 4
  · subst hx4
    go_wp2_with fail
    refine (l20AnyTag_any _ g a len cap _ D2.rd (by omega)).mono ?_
    rintro e w3 ⟨y, z, _, rfl, hg3, h3⟩
    have D3 := D2.kept hgw hpb hgb hg3 h3
    have k3 := D3.box.six
    have D4 := (D3.turn hgw HBY.out hpb hne 1 (.int .i64 y) (k' := k) (t' := y) (u' := u) (s' := s) (b' := b) rfl).turn hgw HBY.out hpb hne 2 (.int .i64 z) (k' := k) (t' := y) (u' := z) (s' := s) (b' := b) rfl
    have r9 := D4.res.six
    have k9 := D4.box.six
    have H9 := hide D4
    clear D4 D3 D2 hg3 h3
    go_wp2
    refine bodyPost_ret (v := .agg (verC k y z (some ⟨gb, 0, none⟩) 4 4 s b)) (by simp [results, Try.results25, go_sem, r9]) rfl ?_
    exact H9.out.finA hgw HBY.out hgb hs (by omega) hm _ _ _ _ _ _
  have hb4 : (x == 4) = false := by simpa using hx4
  by_cases hx5 : x = 5
  · subst hx5
    have k3 := D2.box.six
    have D4 := D2.turn hgw HBY.out hpb hne 5 (.bool true) (k' := k) (t' := t) (u' := u) (s' := s) (b' := true) rfl
    have r9 := D4.res.six
    have k9 := D4.box.six
    have H9 := hide D4
    clear D4 D2
    go_wp2
    refine bodyPost_ret (v := .agg (verC k t u (some ⟨gb, 0, none⟩) 4 4 s true)) (by simp [results, Try.results25, go_sem, r9]) rfl ?_
    exact H9.out.finA hgw HBY.out hgb hs (by omega) hm _ _ _ _ _ _
  have hb5 : (x == 5) = false := by simpa using hx5
  have r9 := D2.res.six
  have k9 := D2.box.six
  have H9 := hide D2
  clear D2
  go_wp2
  refine bodyPost_ret (v := .agg (verC k t u (some ⟨gb, 0, none⟩) 4 4 s b)) (by simp [results, Try.results25, go_sem, r9]) rfl ?_
  exact H9.out.finA hgw HBY.out hgb hs (by omega) hm _ _ _ _ _ _
end Go.Proofs.Ytgofeljmpkhkbaa
