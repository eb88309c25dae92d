/- Contracts of the draws of vectors: what is drawn are three or four tags in memory of their own. Condition: as in Draw. -/
import Derived.Test.YtkkjhfgjjakmfaaDrawPasts
import Derived.Test.YtkkjhfgjjakmfaaPastRes
namespace Go.Proofs.Ytkkjhfgjjakmfaa
open Go.RowKit Go.Joins
attribute [local go_sem ↓] Go.wp_at_zero Go.wp_at_succ

set_option maxHeartbeats 1000000 in
theorem l1None_four (w : World) : Calls Try.prog 80 #[] w fun e w' => e = .returned (.agg #[.slice (some ⟨w.heap.size + 1, 0, none⟩) 4 4]) ∧ Blk w' (w.heap.size + 1) 32 zero8 ∧ Below w.heap.size w w' := by
  have hmk : ∀ W : World, (Instr.makeSlice 23 (.int .i64 4) (.int .i64 4)).run Try.prog W = .ok (.slice (some ⟨W.heap.size, 0, none⟩) 4 4) (W.alloc (.cells zero8 32)) := fun _ => by kernel_rfl
  go_enter Try.func80, Try.ntmps80
  go_wp2
  refine bodyPost_ret (v := .agg #[.slice (some ⟨w.heap.size + 1, 0, none⟩) 4 4]) (by simp [results, Try.results80, go_sem]) rfl ?_
  have B0 := Blk.made (w.alloc (.cells #[.slice (some ⟨w.heap.size + 1, 0, none⟩) 4 4] 25)) 32 zero8
  simp only [World.size_alloc] at B0
  exact ⟨rfl, B0, below_alloc2 _ _ _⟩

/-- Four tags at the beginning of a block. -/
def Fours (w : World) (b : Nat) (ts : List (Int × Int)) : Prop := ∃ cur, Blk w b 32 cur ∧ 8 ≤ cur.size ∧ ts.length = 4 ∧ ∀ i x, ts[i]? = some x → TagAt cur i x
theorem Fours.kept {w w' : World} {b : Nat} {ts : List (Int × Int)} {row : Option Nat} (h : Fours w b ts) (hg : w.grownBy w' row) (hr : row ≠ some b) : Fours w' b ts := by
  obtain ⟨cur, h1, h2⟩ := h
  exact ⟨cur, h1.kept hg hr, h2⟩
theorem Fours.aside {w : World} {b : Nat} {ts : List (Int × Int)} (h : Fours w b ts) {p : Addr} (hp : b ≠ p.block) (u : Value) : Fours (w.setCell p u) b ts := by
  obtain ⟨cur, h1, h2⟩ := h
  exact ⟨cur, h1.aside hp u, h2⟩
theorem Fours.put {w : World} {b k : Nat} {ts : List (Int × Int)} (h : Fours w b ts) (hk : k < 4) (t p : Int) : Fours ((w.setCell ⟨b, k * 2, none⟩ (.int .i64 t)).setCell ⟨b, k * 2 + 1, none⟩ (.int .i64 p)) b (ts.set k (t, p)) := by
  obtain ⟨cur, h1, h2, h3, h4⟩ := h
  refine ⟨_, (h1.put _ _).put _ _, by simpa using h2, by simpa using h3, fun i x hx => ?_⟩
  by_cases e : i = k
  · subst e
    rw [List.getElem?_set_self (by omega)] at hx
    injection hx with hx
    subst hx
    exact tagAt_put (x := (t, p)) (by omega)
  · rw [List.getElem?_set_ne (fun e' => e e'.symm)] at hx
    exact tagAt_other e (h4 i x hx)
theorem Fours.cells {w : World} {b k : Nat} {ts : List (Int × Int)} (h : Fours w b ts) (hk : k < 4) : (∃ u v, w.cell? ⟨b, k * 2, none⟩ = some u ∧ w.cell? ⟨b, k * 2 + 1, none⟩ = some v) ∧ w.frozen? ⟨b, k * 2, none⟩ = false ∧ w.frozen? ⟨b, k * 2 + 1, none⟩ = false := by
  obtain ⟨cur, h1, h2, h3, h4⟩ := h
  obtain ⟨x, hx⟩ : ∃ x, ts[k]? = some x := ⟨_, List.getElem?_eq_getElem (by omega)⟩
  obtain ⟨a0, a1⟩ := h4 k x hx
  exact ⟨⟨_, _, (h1.at _).trans a0, (h1.at _).trans a1⟩, h1.loose _, h1.loose _⟩
theorem Fours.inside {w : World} {b : Nat} {ts : List (Int × Int)} (h : Fours w b ts) : b < w.heap.size := by
  obtain ⟨cur, h1, _⟩ := h
  exact h1.inside
theorem Fours.past {w : World} {b lo g : Nat} {ts : List (Int × Int)} (h : Fours w b ts) (h1 : lo ≤ b) (h2 : b ≠ g) : PastIn w lo g (some ⟨b, 0, none⟩) ts := by
  obtain ⟨cur, e1, e2, e3, e4⟩ := h
  refine ⟨b, 0, rfl, h1, h2, e1.inside, fun i x hx => ?_⟩
  obtain ⟨a0, a1⟩ := e4 i x hx
  rw [Nat.zero_add]
  exact ⟨(e1.at _).trans a0, (e1.at _).trans a1⟩
theorem Fours.tail {w : World} {b lo g : Nat} {ts : List (Int × Int)} (h : Fours w b ts) (h1 : lo ≤ b) (h2 : b ≠ g) : PastIn w lo g (some ⟨b, 2, none⟩) (ts.drop 1) := by
  obtain ⟨cur, e1, e2, e3, e4⟩ := h
  refine ⟨b, 2, rfl, h1, h2, e1.inside, fun i x hx => ?_⟩
  rw [List.getElem?_drop] at hx
  obtain ⟨a0, a1⟩ := e4 (1 + i) x hx
  have e : 2 + i * 2 = (1 + i) * 2 := by omega
  rw [e]
  exact ⟨(e1.at _).trans a0, (e1.at _).trans a1⟩

/-- What the draw of a vector holds between its steps: its result's box, its own box, its tags, the reader. -/
structure DP (w : World) (g : Nat) (ra : Option Addr) (len cap mm pb gb : Nat) (ts : List (Int × Int)) (wr : World) : Prop where
  res : Blk wr w.heap.size 25 #[.slice none 0 0]
  box : Blk wr pb 25 #[.slice (some ⟨gb, 0, none⟩) 4 4]
  tags : Fours wr gb ts
  grown : w.grownBy wr (some g)
  rd : Rd wr g ra len cap mm
section
variable {w wr w2 : World} {g len cap mm pb gb : Nat} {ra : Option Addr} {ts : List (Int × Int)}
theorem DP.kept (h : DP w g ra len cap mm pb gb ts wr) (hgw : g < w.heap.size) (hp : w.heap.size < pb) (hb : w.heap.size < gb) (hg : wr.grownBy w2 (some g)) {mm' : Nat} (hr : Rd w2 g ra len cap mm') : DP w g ra len cap mm' pb gb ts w2 :=
  ⟨h.res.kept hg (by intro e; injection e; omega), h.box.kept hg (by intro e; injection e; omega), h.tags.kept hg (by intro e; injection e; omega), h.grown.trans hg, hr⟩
theorem DP.drew (h : DP w g ra len cap mm pb gb ts wr) (hgw : g < w.heap.size) (hp : w.heap.size < pb) (hb : w.heap.size < gb) : DP w g ra len cap mm pb gb ts wr.drew :=
  h.kept hgw hp hb (grown_none (Below.refl _ _).drew) (h.rd.on (Below.refl _ _).drew)
theorem DP.put (h : DP w g ra len cap mm pb gb ts wr) (hgw : g < w.heap.size) (hby : Bytes w g ra len) (hb : w.heap.size < gb) (hne : pb ≠ gb) {k : Nat} (hk : k < 4) (t p : Int) : DP w g ra len cap mm pb gb (ts.set k (t, p)) ((wr.setCell ⟨gb, k * 2, none⟩ (.int .i64 t)).setCell ⟨gb, k * 2 + 1, none⟩ (.int .i64 p)) := by
  have G1 := grown_set h.grown (p := ⟨gb, k * 2, none⟩) (by simp only; omega) (.int .i64 t)
  exact ⟨(h.res.aside (by simp only; omega) _).aside (by simp only; omega) _, (h.box.aside (by simp only; exact hne) _).aside (by simp only; exact hne) _, h.tags.put hk t p, grown_set G1 (p := ⟨gb, k * 2 + 1, none⟩) (by simp only; omega) _, (h.rd.set hby hgw h.grown (p := ⟨gb, k * 2, none⟩) (by simp only; omega) _).set hby hgw G1 (p := ⟨gb, k * 2 + 1, none⟩) (by simp only; omega) _⟩
theorem DP.seal1 (h : DP w g ra len cap mm pb gb ts wr) (hgw : g < w.heap.size) (hby : Bytes w g ra len) (hb : w.heap.size < gb) (v : Value) : Fours (wr.setCell ⟨w.heap.size, 0, none⟩ v) gb ts ∧ w.grownBy (wr.setCell ⟨w.heap.size, 0, none⟩ v) (some g) ∧ Rd (wr.setCell ⟨w.heap.size, 0, none⟩ v) g ra len cap mm :=
  ⟨h.tags.aside (by simp only; omega) _, grown_set h.grown (p := ⟨w.heap.size, 0, none⟩) (Nat.le_refl _) _, h.rd.set hby hgw h.grown (p := ⟨w.heap.size, 0, none⟩) (Nat.le_refl _) _⟩
theorem DP.seal2 (h : DP w g ra len cap mm pb gb ts wr) (hgw : g < w.heap.size) (hby : Bytes w g ra len) (hp : w.heap.size < pb) (hb : w.heap.size < gb) (hne : pb ≠ gb) (u v : Value) : Fours ((wr.setCell ⟨pb, 0, none⟩ u).setCell ⟨w.heap.size, 0, none⟩ v) gb ts ∧ w.grownBy ((wr.setCell ⟨pb, 0, none⟩ u).setCell ⟨w.heap.size, 0, none⟩ v) (some g) ∧ Rd ((wr.setCell ⟨pb, 0, none⟩ u).setCell ⟨w.heap.size, 0, none⟩ v) g ra len cap mm := by
  have G1 := grown_set h.grown (p := ⟨pb, 0, none⟩) (by simp only; omega) u
  exact ⟨(h.tags.aside (by simp only; omega) _).aside (by simp only; omega) _, grown_set G1 (p := ⟨w.heap.size, 0, none⟩) (Nat.le_refl _) _, (h.rd.set hby hgw h.grown (p := ⟨pb, 0, none⟩) (by simp only; omega) _).set hby hgw G1 (p := ⟨w.heap.size, 0, none⟩) (Nat.le_refl _) _⟩
end

set_option maxRecDepth 100000 in
set_option maxHeartbeats 1000000 in
theorem l20Past_any (w : World) (g : Nat) (a : Option Addr) (len cap m : Nat) (h : Rd w g a len cap m) (hm : m + 18 ≤ 1000000) :
    Calls Try.prog 43 #[.pointer (some ⟨g, 0, none⟩)] w (DrawnPast w g a len cap m 18) := by
  have hgw := h.inside
  have hby := h.bytes
  have HBY := hide hby
  clear hby
  have B0 := Blk.made w 25 #[.slice none 0 0]
  have L0 := below_alloc1 w (.cells #[.slice none 0 0] 25)
  go_enter Try.func43, Try.ntmps43
  go_wp2_with fail
  refine (l1None_four _).mono ?_
  rintro e w1 ⟨rfl, hB1, hb1⟩
  have z1 : w.heap.size + 1 ≤ w1.heap.size := by have := hb1.size; simpa using this
  have hin := hB1.inside
  simp only [World.size_alloc] at hB1 hin ⊢
  have L1 := L0.trans (hb1.mono L0.size)
  have LA := below_alloc1 w1 (.cells #[.slice (some ⟨w.heap.size + 1 + 1, 0, none⟩) 4 4] 25)
  have HD : Hid (DP w g a len cap m w1.heap.size (w.heap.size + 1 + 1) [(0, 0), (0, 0), (0, 0), (0, 0)] (w1.alloc (.cells #[.slice (some ⟨w.heap.size + 1 + 1, 0, none⟩) 4 4] 25))) :=
    ⟨(B0.on hb1).on LA, Blk.made _ _ _, ⟨zero8, hB1.on LA, by simp, rfl, tagAt_eight (0, 0) (0, 0) (0, 0) (0, 0)⟩, grown_none (L1.trans (LA.mono L1.size)), (h.on L1).on LA⟩
  have hpb : w.heap.size < w1.heap.size := by omega
  have hne : w1.heap.size ≠ w.heap.size + 1 + 1 := by omega
  obtain ⟨pb, epb⟩ : ∃ pb, pb = w1.heap.size := ⟨_, rfl⟩
  rw [← epb] at HD hpb hne
  have HPB := hide epb
  obtain ⟨gb, egb⟩ : ∃ gb, gb = w.heap.size + 1 + 1 := ⟨_, rfl⟩
  rw [← egb] at HD hne
  have hgb : w.heap.size < gb := by omega
  have HGB := hide egb
  clear B0 L0 hB1 hb1 L1 LA hin z1 epb egb h
  go_wp2
  rw [← HPB.out, ← HGB.out]
  go_loopw [4] (fun i wr => ∃ (k : Nat) (ts : List (Int × Int)), k ≤ 4 ∧ i = .int .i64 (k : Int) ∧ Hid (DP w g a len cap (m + 3 * k) pb gb ts wr)) (fun i _ => 4 - (intOf i).toNat)
  case atStart => exact ⟨0, _, Nat.zero_le _, rfl, HD.out⟩
  case round =>
    obtain ⟨k, ts, hk, rfl, HP⟩ := hrel
    clear HD
    by_cases hlt : k < 4
    · have i1 : (0 : Int) ≤ (k : Int) := by omega
      have i2 : (k : Int) < 4 := by omega
      have D1 := HP.out.drew hgw hpb hgb
      go_wp2_with fail
      refine wp_region_noPanic ?_
      refine wp_region_held_drew (S := (fun w' => w'.cell? ⟨pb, 0, none⟩ = some (.slice (some ⟨gb, 0, none⟩) 4 4) ∧ Blk w' pb 25 #[.slice (some ⟨gb, 0, none⟩) 4 4])) (by kernel_rfl) (by exact ⟨D1.box.at 0, D1.box⟩) (fun hHeld => ?_)
      refine take_run 0 (some 10) (v := ?_) rfl rfl (by kernel_rfl) (by kernel_rfl) (by kernel_rfl) (fun _ _ _ h => h) (by rfl) ?_ hHeld ?_
      rotate_left
      · ((intro w hSw); (try dsimp only at hSw); go_simp <;> with_reducible rfl)
      simp only [Act.put, List.setIfInBounds_toArray, List.set_cons_zero, List.set_cons_succ]
      refine take_run 1 (some 11) (v := ?_) rfl rfl (by kernel_rfl) (by kernel_rfl) (by kernel_rfl) (fun _ _ _ h => h) (by rfl) ?_ hHeld ?_
      rotate_left
      · ((intro w hSw); (try dsimp only at hSw); go_simp <;> with_reducible rfl)
      simp only [Act.put, List.setIfInBounds_toArray, List.set_cons_zero, List.set_cons_succ]
      refine take_run 2 (some 12) (v := ?_) rfl rfl (by kernel_rfl) (by kernel_rfl) (by kernel_rfl) (fun _ _ _ h => h) (by rfl) ?_ hHeld ?_
      rotate_left
      · ((intro w hSw); (try dsimp only at hSw); go_simp <;> with_reducible rfl)
      simp only [Act.put, List.setIfInBounds_toArray, List.set_cons_zero, List.set_cons_succ]
      refine take_run 3 (some 13) (v := ?_) rfl rfl (by kernel_rfl) (by kernel_rfl) (by kernel_rfl) (fun _ _ _ h => h) (by rfl) ?_ hHeld ?_
      rotate_left
      · ((intro w hSw); (try dsimp only at hSw); go_simp <;> with_reducible rfl)
      simp only [Act.put, List.setIfInBounds_toArray, List.set_cons_zero, List.set_cons_succ]
      refine take_one 4 (by kernel_rfl) rfl (fun K hK => ?_)
      go_simp
      (refine (l20Tag_any _ g a len cap (m + 3 * k) D1.rd (by omega)).mono ?_; rintro e w2 ⟨t, p, htp, rfl, hg2, h2⟩; have D2 := D1.kept hgw hpb hgb hg2 h2; obtain ⟨⟨u0, u1, c0, c1⟩, f0, f1⟩ := D2.tags.cells hlt)
      try go_wp2_with fail
      refine hK.out _ _ (by exact ⟨D2.box.at 0, D2.box⟩) (fun hHeld => ?_)
      clear hK K
      refine take_run 5 (some 15) (v := ?_) rfl rfl (by kernel_rfl) (by kernel_rfl) (by kernel_rfl) (fun _ _ _ h => h) (by rfl) ?_ hHeld ?_
      rotate_left
      · ((intro w hSw); (try dsimp only at hSw); go_simp <;> with_reducible rfl)
      simp only [Act.put, List.setIfInBounds_toArray, List.set_cons_zero, List.set_cons_succ]
      refine take_one 6 (by kernel_rfl) rfl (fun K hK => ?_)
      go_simp
      refine hK.out _ _ (by exact ⟨((D2.put hgw HBY.out hgb hne hlt t p).box).at 0, (D2.put hgw HBY.out hgb hne hlt t p).box⟩) (fun hHeld => ?_)
      clear hK K
      refine wpAnyH_done (by kernel_rfl) ?_ _
      refine NoPanic.normal ?_
      have HD3 := hide (D2.put hgw HBY.out hgb hne hlt t p)
      clear hHeld D1 D2 c0 c1 f0 f1 h2 hg2
      go_wp2
      exact ⟨⟨k + 1, _, by omega, by go_num, by have := HD3.out; rw [show m + 3 * k + 3 = m + 3 * (k + 1) by omega] at this; exact this⟩, by simp [intOf]; omega⟩
    · have hkn : k = 4 := by omega
      subst hkn
      clear hlt hk
      go_wp2_with fail
      refine (pick_any _ g a len cap (m + 3 * 4) _ HP.out.rd (by omega) (by omega)).mono ?_
      rintro e w2 ⟨x, hx, rfl, hg2, h2⟩
      have D2 := HP.out.kept hgw hpb hgb hg2 h2
      have hx0 := hx.1
      have h4 := D2.tags
      clear HP hx
      by_cases hx1 : x = 0
      · subst hx1
        have k1 := D2.box.one
        have k2 := D2.res.one
        have HD2 := hide D2
        clear D2 h4
        go_wp2
        refine bodyPost_ret (v := .agg #[.slice (some ⟨gb, 2, none⟩) 3 3]) (by simp [results, Try.results43, go_sem, k2]) rfl ?_
        obtain ⟨q1, q2, q3⟩ := HD2.out.seal2 hgw HBY.out hpb hgb hne (.slice (some ⟨gb, 2, none⟩) 3 3) (.slice (some ⟨gb, 2, none⟩) 3 3)
        have hl : (ts.drop 1).length = 3 := by rw [List.length_drop]; obtain ⟨_, _, _, e, _⟩ := q1; omega
        exact ⟨some ⟨gb, 2, none⟩, 3, ts.drop 1, by rw [hl], .inl hl, q1.tail (by omega) (by omega), q2, q3.more _ (by omega) hm⟩
      · have hxb : (x == 0) = false := by simpa using hx1
        by_cases hx2 : x = 1
        · subst hx2
          have D3 := D2.drew hgw hpb hgb
          clear D2 h4
          go_wp2_with fail
          refine wp_region_noPanic ?_
          refine wp_region_held_drew (S := (fun w' => w'.cell? ⟨pb, 0, none⟩ = some (.slice (some ⟨gb, 0, none⟩) 4 4) ∧ Blk w' pb 25 #[.slice (some ⟨gb, 0, none⟩) 4 4])) (by kernel_rfl) (by exact ⟨D3.box.at 0, D3.box⟩) (fun hHeld => ?_)
          refine take_run 0 (some 26) (v := ?_) rfl rfl (by kernel_rfl) (by kernel_rfl) (by kernel_rfl) (fun _ _ _ h => h) (by rfl) ?_ hHeld ?_
          rotate_left
          · ((intro w hSw); (try dsimp only at hSw); go_simp <;> with_reducible rfl)
          simp only [Act.put, List.setIfInBounds_toArray, List.set_cons_zero, List.set_cons_succ]
          refine take_run 1 (some 27) (v := ?_) rfl rfl (by kernel_rfl) (by kernel_rfl) (by kernel_rfl) (fun _ _ _ h => h) (by rfl) ?_ hHeld ?_
          rotate_left
          · ((intro w hSw); (try dsimp only at hSw); go_simp <;> with_reducible rfl)
          simp only [Act.put, List.setIfInBounds_toArray, List.set_cons_zero, List.set_cons_succ]
          refine take_run 2 (some 28) (v := ?_) rfl rfl (by kernel_rfl) (by kernel_rfl) (by kernel_rfl) (fun _ _ _ h => h) (by rfl) ?_ hHeld ?_
          rotate_left
          · ((intro w hSw); (try dsimp only at hSw); go_simp <;> with_reducible rfl)
          simp only [Act.put, List.setIfInBounds_toArray, List.set_cons_zero, List.set_cons_succ]
          refine take_run 4 (some 30) (v := ?_) rfl rfl (by kernel_rfl) (by kernel_rfl) (by kernel_rfl) (fun _ _ _ h => h) (by rfl) ?_ hHeld ?_
          rotate_left
          · ((intro w hSw); (try dsimp only at hSw); go_simp <;> with_reducible rfl)
          simp only [Act.put, List.setIfInBounds_toArray, List.set_cons_zero, List.set_cons_succ]
          refine take_one 3 (by kernel_rfl) rfl (fun K hK => ?_)
          go_simp
          (refine (pick_any _ g a len cap (m + 3 * 4 + 1) _ D3.rd (by omega) (by omega)).mono ?_; rintro e w3 ⟨y, hy, rfl, hg3, h3⟩; have D4 := D3.kept hgw hpb hgb hg3 h3; have hy0 := hy.1; have hy1 := hy.2 (by omega); obtain ⟨yn, rfl⟩ := Int.eq_ofNat_of_zero_le hy0; have hyn : yn < 4 := (by omega))
          try go_wp2_with fail
          refine hK.out _ _ (by exact ⟨D4.box.at 0, D4.box⟩) (fun hHeld => ?_)
          clear hK K
          refine take_one 5 (by kernel_rfl) rfl (fun K hK => ?_)
          go_simp
          (refine (l20AnyTag_any _ g a len cap (m + 3 * 4 + 1 + 1) D4.rd (by omega)).mono ?_; rintro e w4 ⟨t, p, htp, rfl, hg4, h4⟩; have D5 := D4.kept hgw hpb hgb hg4 h4; obtain ⟨⟨u0, u1, c0, c1⟩, f0, f1⟩ := D5.tags.cells hyn)
          try go_wp2_with fail
          refine hK.out _ _ (by exact ⟨D5.box.at 0, D5.box⟩) (fun hHeld => ?_)
          clear hK K
          refine take_run 6 (some 32) (v := ?_) rfl rfl (by kernel_rfl) (by kernel_rfl) (by kernel_rfl) (fun _ _ _ h => h) (by rfl) ?_ hHeld ?_
          rotate_left
          · ((intro w hSw); (try dsimp only at hSw); go_simp <;> with_reducible rfl)
          simp only [Act.put, List.setIfInBounds_toArray, List.set_cons_zero, List.set_cons_succ]
          refine take_one 7 (by kernel_rfl) rfl (fun K hK => ?_)
          go_simp
          refine hK.out _ _ (by exact ⟨((D5.put hgw HBY.out hgb hne hyn t p).box).at 0, (D5.put hgw HBY.out hgb hne hyn t p).box⟩) (fun hHeld => ?_)
          clear hK K
          refine wpAnyH_done (by kernel_rfl) ?_ _
          refine NoPanic.normal ?_
          have D6 := D5.put hgw HBY.out hgb hne hyn t p
          clear hHeld D3 D4 D5 c0 c1 f0 f1 h3 h4 hg3 hg4
          generalize (w4.setCell ⟨gb, yn * 2, none⟩ (.int .i64 t)).setCell ⟨gb, yn * 2 + 1, none⟩ (.int .i64 p) = W5 at D6 ⊢
          have k1 := D6.box.one
          have k2 := D6.res.one
          have HD2 := hide D6
          clear D6
          go_wp2
          refine bodyPost_ret (v := .agg #[.slice (some ⟨gb, 0, none⟩) 4 4]) (by simp [results, Try.results43, go_sem, k2]) rfl ?_
          obtain ⟨q1, q2, q3⟩ := HD2.out.seal1 hgw HBY.out hgb (.slice (some ⟨gb, 0, none⟩) 4 4)
          have hl : (ts.set yn (t, p)).length = 4 := by obtain ⟨_, _, _, e, _⟩ := q1; exact e
          exact ⟨some ⟨gb, 0, none⟩, 4, ts.set yn (t, p), by rw [hl], .inr hl, q1.past (by omega) (by omega), q2, q3.more _ (by omega) hm⟩
        · have hxc : (x == 1) = false := by simpa using hx2
          have k1 := D2.box.one
          have k2 := D2.res.one
          have HD2 := hide D2
          clear D2 h4
          go_wp2
          refine bodyPost_ret (v := .agg #[.slice (some ⟨gb, 0, none⟩) 4 4]) (by simp [results, Try.results43, go_sem, k2]) rfl ?_
          obtain ⟨q1, q2, q3⟩ := HD2.out.seal1 hgw HBY.out hgb (.slice (some ⟨gb, 0, none⟩) 4 4)
          have hl : ts.length = 4 := by obtain ⟨_, _, _, e, _⟩ := q1; exact e
          exact ⟨some ⟨gb, 0, none⟩, 4, ts, by rw [hl], .inr hl, q1.past (by omega) (by omega), q2, q3.more _ (by omega) hm⟩
end Go.Proofs.Ytkkjhfgjjakmfaa
