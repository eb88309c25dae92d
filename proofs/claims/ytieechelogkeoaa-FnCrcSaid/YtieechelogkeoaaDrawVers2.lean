/- Contract of the draw of a version. Condition: as in Draw. -/
import Derived.Test.YtieechelogkeoaaDrawVers
namespace Go.Proofs.Ytieechelogkeoaa
open Go.RowKit Go.Joins
attribute [local go_sem ↓] Go.wp_at_zero Go.wp_at_succ

/-- What the draw of a version holds between its steps: its result's box, its own box, its tags, the reader. -/
structure DV (w : World) (g : Nat) (ra : Option Addr) (len cap mm pb gb : Nat) (k t u : Int) (s : ByteArray) (b : Bool) (ts : List (Int × Int)) (wr : World) : Prop where
  res : Blk wr w.heap.size 79 (verC 0 0 0 none 0 0 ⟨#[]⟩ false)
  box : Blk wr pb 79 (verC k t u (some ⟨gb, 0, none⟩) 4 4 s b)
  tags : Fours wr gb ts
  grown : w.grownBy wr (some g)
  rd : Rd wr g ra len cap mm
section
variable {w wr w2 : World} {g len cap mm pb gb : Nat} {ra : Option Addr} {ts : List (Int × Int)} {k t u : Int} {s : ByteArray} {b : Bool}
theorem DV.kept (h : DV w g ra len cap mm pb gb k t u s b ts wr) (hgw : g < w.heap.size) (hp : w.heap.size < pb) (hb : w.heap.size < gb) (hg : wr.grownBy w2 (some g)) {mm' : Nat} (hr : Rd w2 g ra len cap mm') : DV w g ra len cap mm' pb gb k t u s b ts w2 :=
  ⟨h.res.kept hg (by intro e; injection e; omega), h.box.kept hg (by intro e; injection e; omega), h.tags.kept hg (by intro e; injection e; omega), h.grown.trans hg, hr⟩
theorem DV.drew (h : DV w g ra len cap mm pb gb k t u s b ts wr) (hgw : g < w.heap.size) (hp : w.heap.size < pb) (hb : w.heap.size < gb) : DV w g ra len cap mm pb gb k t u s b ts wr.drew :=
  h.kept hgw hp hb (grown_none (Below.refl _ _).drew) (h.rd.on (Below.refl _ _).drew)
theorem DV.put (h : DV w g ra len cap mm pb gb k t u s b ts wr) (hgw : g < w.heap.size) (hby : Bytes w g ra len) (hb : w.heap.size < gb) (hne : pb ≠ gb) {i : Nat} (hk : i < 4) (x p : Int) : DV w g ra len cap mm pb gb k t u s b (ts.set i (x, p)) ((wr.setCell ⟨gb, i * 2, none⟩ (.int .i64 x)).setCell ⟨gb, i * 2 + 1, none⟩ (.int .i64 p)) := by
  have G1 := grown_set h.grown (p := ⟨gb, i * 2, none⟩) (by simp only; omega) (.int .i64 x)
  exact ⟨(h.res.aside (by simp only; omega) _).aside (by simp only; omega) _, (h.box.aside (by simp only; exact hne) _).aside (by simp only; exact hne) _, h.tags.put hk x p, grown_set G1 (p := ⟨gb, i * 2 + 1, none⟩) (by simp only; omega) _, (h.rd.set hby hgw h.grown (p := ⟨gb, i * 2, none⟩) (by simp only; omega) _).set hby hgw G1 (p := ⟨gb, i * 2 + 1, none⟩) (by simp only; omega) _⟩
/-- One cell of the box is turned. -/
theorem DV.turn (h : DV w g ra len cap mm pb gb k t u s b ts wr) (hgw : g < w.heap.size) (hby : Bytes w g ra len) (hp : w.heap.size < pb) (hne : pb ≠ gb) (i : Nat) (x : Value) {k' t' u' : Int} {s' : ByteArray} {b' : Bool}
    (e : (verC k t u (some ⟨gb, 0, none⟩) 4 4 s b).setIfInBounds i x = verC k' t' u' (some ⟨gb, 0, none⟩) 4 4 s' b') : DV w g ra len cap mm pb gb k' t' u' s' b' ts (wr.setCell ⟨pb, i, none⟩ x) :=
  ⟨h.res.aside (by simp only; omega) _, e ▸ h.box.put i x, h.tags.aside (by simp only; exact fun e => hne e.symm) _, grown_set h.grown (p := ⟨pb, i, none⟩) (by simp only; omega) _, h.rd.set hby hgw h.grown (p := ⟨pb, i, none⟩) (by simp only; omega) _⟩
end
theorem grown_set6 {w w' : World} {g : Nat} (h : w.grownBy w' (some g)) {b : Nat} (hp : w.heap.size ≤ b) (x0 x1 x2 x3 x4 x5 : Value) : w.grownBy ((((((w'.setCell ⟨b, 0, none⟩ x0).setCell ⟨b, 1, none⟩ x1).setCell ⟨b, 2, none⟩ x2).setCell ⟨b, 3, none⟩ x3).setCell ⟨b, 4, none⟩ x4).setCell ⟨b, 5, none⟩ x5) (some g) :=
  grown_set (grown_set (grown_set (grown_set (grown_set (grown_set h (p := ⟨b, 0, none⟩) hp _) (p := ⟨b, 1, none⟩) hp _) (p := ⟨b, 2, none⟩) hp _) (p := ⟨b, 3, none⟩) hp _) (p := ⟨b, 4, none⟩) hp _) (p := ⟨b, 5, none⟩) hp _
theorem Rd.set6 {w w' : World} {g : Nat} {a : Option Addr} {len cap m : Nat} (h : Rd w' g a len cap m) (hb : Bytes w g a len) (hg : g < w.heap.size) (hw : w.grownBy w' (some g)) {b : Nat} (hp : w.heap.size ≤ b) (x0 x1 x2 x3 x4 x5 : Value) :
    Rd ((((((w'.setCell ⟨b, 0, none⟩ x0).setCell ⟨b, 1, none⟩ x1).setCell ⟨b, 2, none⟩ x2).setCell ⟨b, 3, none⟩ x3).setCell ⟨b, 4, none⟩ x4).setCell ⟨b, 5, none⟩ x5) g a len cap m :=
  (((((h.set hb hg hw (p := ⟨b, 0, none⟩) hp _).set hb hg (grown_set hw (p := ⟨b, 0, none⟩) hp _) (p := ⟨b, 1, none⟩) hp _).set hb hg (grown_set (grown_set hw (p := ⟨b, 0, none⟩) hp _) (p := ⟨b, 1, none⟩) hp _) (p := ⟨b, 2, none⟩) hp _).set hb hg (grown_set (grown_set (grown_set hw (p := ⟨b, 0, none⟩) hp _) (p := ⟨b, 1, none⟩) hp _) (p := ⟨b, 2, none⟩) hp _) (p := ⟨b, 3, none⟩) hp _).set hb hg (grown_set (grown_set (grown_set (grown_set hw (p := ⟨b, 0, none⟩) hp _) (p := ⟨b, 1, none⟩) hp _) (p := ⟨b, 2, none⟩) hp _) (p := ⟨b, 3, none⟩) hp _) (p := ⟨b, 4, none⟩) hp _).set hb hg (grown_set (grown_set (grown_set (grown_set (grown_set hw (p := ⟨b, 0, none⟩) hp _) (p := ⟨b, 1, none⟩) hp _) (p := ⟨b, 2, none⟩) hp _) (p := ⟨b, 3, none⟩) hp _) (p := ⟨b, 4, none⟩) hp _) (p := ⟨b, 5, none⟩) hp _
theorem Fours.aside6 {w : World} {g b : Nat} {ts : List (Int × Int)} (h : Fours w g ts) (hg : g ≠ b) (x0 x1 x2 x3 x4 x5 : Value) : Fours ((((((w.setCell ⟨b, 0, none⟩ x0).setCell ⟨b, 1, none⟩ x1).setCell ⟨b, 2, none⟩ x2).setCell ⟨b, 3, none⟩ x3).setCell ⟨b, 4, none⟩ x4).setCell ⟨b, 5, none⟩ x5) g ts :=
  (((((h.aside (p := ⟨b, 0, none⟩) hg _).aside (p := ⟨b, 1, none⟩) hg _).aside (p := ⟨b, 2, none⟩) hg _).aside (p := ⟨b, 3, none⟩) hg _).aside (p := ⟨b, 4, none⟩) hg _).aside (p := ⟨b, 5, none⟩) hg _
theorem PastIn.aside1 {w : World} {lo g : Nat} {a : Option Addr} {ts : List (Int × Int)} (h : PastIn w lo g a ts) {p : Addr} (hp : p.block < lo) (u : Value) : PastIn (w.setCell p u) lo g a ts := by
  obtain ⟨b, off, ha, hl, hne, hb, hx⟩ := h
  refine ⟨b, off, ha, hl, hne, by simpa [World.setCell] using hb, fun i x hi => ?_⟩
  have hk : ∀ o : Nat, (w.setCell p u).cell? ⟨b, o, none⟩ = w.cell? ⟨b, o, none⟩ := fun o => World.cell?_of_block (w := w) (w' := w.setCell p u) (a := ⟨b, o, none⟩) (Below.heap_setCell w p u b (by omega))
  exact ⟨(hk _).trans (hx i x hi).1, (hk _).trans (hx i x hi).2⟩

theorem Fours.at1 {w : World} {b n : Nat} {ts : List (Int × Int)} {t p : Int} (h : Fours w b (ts.set n (t, p))) (hn : n < 4) : w.cell? ⟨b, n * 2, none⟩ = some (.int .i64 t) := by
  obtain ⟨cur, h1, h2, h3, h4⟩ := h
  have hl : n < ts.length := by rw [List.length_set] at h3; omega
  have := (h4 n (t, p) (List.getElem?_set_self hl)).1
  exact (h1.at _).trans this
/-- What the draw of a version leaves. -/
def DrawnV4 (w : World) (g : Nat) (ra : Option Addr) (len cap m d : Nat) (e : Ending) (w' : World) : Prop :=
  ∃ (k t u : Int) (gb : Nat) (ts : List (Int × Int)) (s : ByteArray) (b : Bool), e = .returned (.agg (verC k t u (some ⟨gb, 0, none⟩) 4 4 s b)) ∧ (0 ≤ k ∧ k ≤ 3) ∧ s.size ≤ 16 ∧ Fours w' gb ts ∧ w.heap.size ≤ gb ∧ w.grownBy w' (some g) ∧ Rd w' g ra len cap (m + d)
theorem DV.fin {w wr : World} {g len cap mm pb gb m d : Nat} {ra : Option Addr} {ts : List (Int × Int)} {k t u : Int} {s : ByteArray} {b : Bool} (h : DV w g ra len cap mm pb gb k t u s b ts wr) (hgw : g < w.heap.size) (hby : Bytes w g ra len) (hb : w.heap.size < gb) (hk : 0 ≤ k ∧ k ≤ 3) (hs : s.size ≤ 16) (hmm : mm ≤ m + d) (hm : m + d ≤ 1000000) (x0 x1 x2 x3 x4 x5 : Value) :
    DrawnV4 w g ra len cap m d (.returned (.agg (verC k t u (some ⟨gb, 0, none⟩) 4 4 s b))) ((((((wr.setCell ⟨w.heap.size, 0, none⟩ x0).setCell ⟨w.heap.size, 1, none⟩ x1).setCell ⟨w.heap.size, 2, none⟩ x2).setCell ⟨w.heap.size, 3, none⟩ x3).setCell ⟨w.heap.size, 4, none⟩ x4).setCell ⟨w.heap.size, 5, none⟩ x5) :=
  ⟨k, t, u, gb, ts, s, b, rfl, hk, hs, h.tags.aside6 (by omega) _ _ _ _ _ _, by omega, grown_set6 h.grown (Nat.le_refl _) _ _ _ _ _ _, (h.rd.set6 hby hgw h.grown (Nat.le_refl _) _ _ _ _ _ _).more _ hmm hm⟩

set_option maxRecDepth 100000 in
set_option maxHeartbeats 4000000 in
theorem l20Ver_any (w : World) (g : Nat) (a : Option Addr) (len cap m : Nat) (h : Rd w g a len cap m) (hm : m + 20 ≤ 1000000) :
    Calls Try.prog 37 #[.pointer (some ⟨g, 0, none⟩)] w (DrawnV4 w g a len cap m 20) := by
  have hgw := h.inside
  have HBY := hide h.bytes
  have B0 := Blk.made w 79 (verC 0 0 0 none 0 0 ⟨#[]⟩ false)
  have L0 := below_alloc1 w (.cells (verC 0 0 0 none 0 0 ⟨#[]⟩ false) 79)
  have G0 := grown_none (row := some g) L0
  go_enter Try.func37, Try.ntmps37
  go_wp2_with fail
  refine (pick_any _ g a len cap m _ (h.on L0) (by omega) (by omega)).mono ?_
  rintro e w1 ⟨k, hk, rfl, hg1, h1⟩
  have hk0 := hk.1
  have hk1 := hk.2 (by omega)
  have B1 := B0.kept hg1 (by intro e; injection e; omega)
  have G1 := G0.trans hg1
  have z1 : w.heap.size + 1 ≤ w1.heap.size := by have := hg1.size; simpa using this
  clear B0 L0 G0 hg1 hk h
  go_wp2_with fail
  refine (l1None_four _).mono ?_
  rintro e w2 ⟨rfl, hB2, hb2⟩
  have z2 := hb2.size
  have B2 := B1.on hb2
  have G2 := G1.trans (grown_none (row := some g) hb2)
  have R2 := h1.on hb2
  have i2 := hB2.inside
  clear B1 G1 h1 hb2
  go_wp2_with fail
  refine (l20Text_any _ g a len cap (m + 1) R2 (by omega)).mono ?_
  rintro e w3 ⟨s, hs, rfl, hg3, h3⟩
  have z3 := hg3.size
  have B3 := B2.kept hg3 (by intro e; injection e; omega)
  have T3 := hB2.kept hg3 (by intro e; injection e; omega)
  have G3 := G2.trans hg3
  have LA := below_alloc1 w3 (.cells (verC k 0 0 (some ⟨w1.heap.size + 1, 0, none⟩) 4 4 s false) 79)
  have HD : Hid (DV w g a len cap (m + 1 + 1) w3.heap.size (w1.heap.size + 1) k 0 0 s false [(0, 0), (0, 0), (0, 0), (0, 0)] (w3.alloc (.cells (verC k 0 0 (some ⟨w1.heap.size + 1, 0, none⟩) 4 4 s false) 79))) :=
    ⟨B3.on LA, Blk.made _ _ _, ⟨zero8, T3.on LA, by simp, rfl, tagAt_eight (0, 0) (0, 0) (0, 0) (0, 0)⟩, G3.trans (grown_none LA), h3.on LA⟩
  have hpb : w.heap.size < w3.heap.size := by omega
  have hne : w3.heap.size ≠ w1.heap.size + 1 := by omega
  have hgb : w.heap.size < w1.heap.size + 1 := by omega
  clear B2 B3 G2 G3 hB2 T3 h3 hg3 LA R2
  go_wp2
  generalize w3.alloc (.cells (verC k 0 0 (some ⟨w1.heap.size + 1, 0, none⟩) 4 4 s false) 79) = W3 at HD ⊢
  obtain ⟨pb, epb⟩ : ∃ pb, pb = w3.heap.size := ⟨_, rfl⟩
  obtain ⟨gb, egb⟩ : ∃ gb, gb = w1.heap.size + 1 := ⟨_, rfl⟩
  rw [← epb, ← egb] at HD hne
  rw [← epb] at hpb
  rw [← egb] at hgb
  rw [← epb]
  try rw [← egb]
  clear epb egb z1 z2 z3 i2
  go_loopw [4, 5] (fun v i wr => ∃ (n : Nat) (q : Int) (ts : List (Int × Int)), n ≤ 4 ∧ i = .int .i64 (n : Int) ∧ v = .int .i64 q ∧ (0 ≤ q ∧ q ≤ 9) ∧ Hid (DV w g a len cap (m + 1 + 1 + 3 * n) pb gb k 0 0 s false ts wr)) (fun _ i _ => 4 - (intOf i).toNat)
  case atStart => exact ⟨0, 0, _, Nat.zero_le _, rfl, rfl, by omega, HD.out⟩
  case round =>
    obtain ⟨n, q, ts, hn, rfl, rfl, hq, HP⟩ := hrel
    clear HD
    by_cases hlt : n < 4
    · have i1 : (0 : Int) ≤ (n : Int) := by omega
      have i2 : (n : Int) < 4 := by omega
      have D1 := HP.out.drew hgw hpb hgb
      go_wp2_with fail
      refine wp_region_noPanic ?_
      refine wp_region_held_drew (S := (fun w' => w'.cell? ⟨pb, 3, none⟩ = some (.slice (some ⟨gb, 0, none⟩) 4 4) ∧ Blk w' pb 79 (verC k 0 0 (some ⟨gb, 0, none⟩) 4 4 s false))) (by kernel_rfl) (by exact ⟨D1.box.at 3, D1.box⟩) (fun hHeld => ?_)
      refine take_run 0 (some 16) (v := ?_) rfl rfl (by kernel_rfl) (by kernel_rfl) (by kernel_rfl) (fun _ _ _ h => h) (by rfl) ?_ hHeld ?_
      rotate_left
      · ((intro w hSw); (try dsimp only at hSw); go_simp <;> with_reducible rfl)
      simp only [Act.put, List.setIfInBounds_toArray, List.set_cons_zero, List.set_cons_succ]
      refine take_run 1 (some 17) (v := ?_) rfl rfl (by kernel_rfl) (by kernel_rfl) (by kernel_rfl) (fun _ _ _ h => h) (by rfl) ?_ hHeld ?_
      rotate_left
      · ((intro w hSw); (try dsimp only at hSw); go_simp <;> with_reducible rfl)
      simp only [Act.put, List.setIfInBounds_toArray, List.set_cons_zero, List.set_cons_succ]
      refine take_run 2 (some 18) (v := ?_) rfl rfl (by kernel_rfl) (by kernel_rfl) (by kernel_rfl) (fun _ _ _ h => h) (by rfl) ?_ hHeld ?_
      rotate_left
      · ((intro w hSw); (try dsimp only at hSw); go_simp <;> with_reducible rfl)
      simp only [Act.put, List.setIfInBounds_toArray, List.set_cons_zero, List.set_cons_succ]
      refine take_run 3 (some 19) (v := ?_) rfl rfl (by kernel_rfl) (by kernel_rfl) (by kernel_rfl) (fun _ _ _ h => h) (by rfl) ?_ hHeld ?_
      rotate_left
      · ((intro w hSw); (try dsimp only at hSw); go_simp <;> with_reducible rfl)
      simp only [Act.put, List.setIfInBounds_toArray, List.set_cons_zero, List.set_cons_succ]
      refine take_run 4 (some 20) (v := ?_) rfl rfl (by kernel_rfl) (by kernel_rfl) (by kernel_rfl) (fun _ _ _ h => h) (by rfl) ?_ hHeld ?_
      rotate_left
      · ((intro w hSw); (try dsimp only at hSw); go_simp <;> with_reducible rfl)
      simp only [Act.put, List.setIfInBounds_toArray, List.set_cons_zero, List.set_cons_succ]
      refine take_one 5 (by kernel_rfl) rfl (fun K hK => ?_)
      go_simp
      (refine (l20Tag_any _ g a len cap (m + 1 + 1 + 3 * n) D1.rd (by omega)).mono ?_; rintro e w2 ⟨t, p, htp, rfl, hg2, h2⟩; have D2 := D1.kept hgw hpb hgb hg2 h2; obtain ⟨⟨u0, u1, c0, c1⟩, f0, f1⟩ := D2.tags.cells hlt)
      try go_wp2_with fail
      refine hK.out _ _ (by exact ⟨D2.box.at 3, D2.box⟩) (fun hHeld => ?_)
      clear hK K
      refine take_run 6 (some 22) (v := ?_) rfl rfl (by kernel_rfl) (by kernel_rfl) (by kernel_rfl) (fun _ _ _ h => h) (by rfl) ?_ hHeld ?_
      rotate_left
      · ((intro w hSw); (try dsimp only at hSw); go_simp <;> with_reducible rfl)
      simp only [Act.put, List.setIfInBounds_toArray, List.set_cons_zero, List.set_cons_succ]
      refine take_one 7 (by kernel_rfl) rfl (fun K hK => ?_)
      go_simp
      refine hK.out _ _ (by exact ⟨((D2.put hgw HBY.out hgb hne hlt t p).box).at 3, (D2.put hgw HBY.out hgb hne hlt t p).box⟩) (fun hHeld => ?_)
      clear hK K
      refine wpAnyH_done (by kernel_rfl) ?_ _
      refine NoPanic.normal ?_
      have D3 := D2.put hgw HBY.out hgb hne hlt t p
      have HT : Hid (SmallTag t p) := htp
      clear hHeld D1 D2 c0 c1 f0 f1 h2 hg2 htp
      generalize (w2.setCell ⟨gb, n * 2, none⟩ (.int .i64 t)).setCell ⟨gb, n * 2 + 1, none⟩ (.int .i64 p) = W4 at D3 ⊢
      have k3 := D3.box.six.1
      have c4 := D3.tags.at1 hlt
      have HD3 : Hid (DV w g a len cap (m + 1 + 1 + 3 * (n + 1)) pb gb k 0 0 s false (ts.set n (t, p)) W4) := by
        have := D3
        rw [show m + 1 + 1 + 3 * n + 3 = m + 1 + 1 + 3 * (n + 1) by omega] at this
        exact this
      clear D3 HP
      by_cases hgt : t > q
      · go_wp2
        exact ⟨⟨n + 1, t, _, by omega, by go_num, rfl, by have := HT.out; unfold SmallTag at this; omega, HD3⟩, by simp [intOf]; omega⟩
      · go_wp2
        exact ⟨⟨n + 1, q, _, by omega, by go_num, rfl, hq, HD3⟩, by simp [intOf]; omega⟩
    · have hn4 : n = 4 := by omega
      subst hn4
      clear hlt hn
      have D0 := HP.out
      clear HP
      go_wp2_with fail
      refine (pick_any _ g a len cap _ _ D0.rd (by omega) (by omega)).mono ?_
      rintro e w4 ⟨x, hx, rfl, hg4, h4⟩
      have D4 := D0.kept hgw hpb hgb hg4 h4
      have hx0 := hx.1
      have hx1 := hx.2 (by omega)
      clear D0 hg4 h4 hx
      go_wp2_with fail
      refine (pick_any _ g a len cap _ _ D4.rd (by omega) (by omega)).mono ?_
      rintro e w5 ⟨y, hy, rfl, hg5, h5⟩
      have D5 := D4.kept hgw hpb hgb hg5 h5
      have hy0 := hy.1
      have hy1 := hy.2 (by omega)
      have k5 := D5.box.six
      have D6 := (D5.turn hgw HBY.out hpb hne 1 (.int .i64 (q + 1 + x)) (k' := k) (t' := q + 1 + x) (u' := 0) (s' := s) (b' := false) rfl).turn hgw HBY.out hpb hne 2 (.int .i64 y) (k' := k) (t' := q + 1 + x) (u' := y) (s' := s) (b' := false) rfl
      have HD5 := hide D5.rd
      clear D4 D5 hg5 h5 hy
      go_wp2_with fail
      generalize (w5.setCell ⟨pb, 1, none⟩ (.int .i64 (q + 1 + x))).setCell ⟨pb, 2, none⟩ (.int .i64 y) = W6 at D6 ⊢
      refine (pick_any _ g a len cap _ _ D6.rd (by omega) (by omega)).mono ?_
      rintro e w7 ⟨z, hz, rfl, hg7, h7⟩
      have D7 := D6.kept hgw hpb hgb hg7 h7
      have k7 := D7.box.six
      clear D6 hg7 h7 k5
      by_cases hz0 : z = 0
      · subst hz0
        have D8 := (D7.turn hgw HBY.out hpb hne 4 (.string ⟨#[]⟩) (k' := k) (t' := q + 1 + x) (u' := y) (s' := ⟨#[]⟩) (b' := false) rfl).turn hgw HBY.out hpb hne 5 (.bool true) (k' := k) (t' := q + 1 + x) (u' := y) (s' := ⟨#[]⟩) (b' := true) rfl
        have k8 := D8.box.six
        have r8 := D8.res.six
        have HD8 := hide D8
        clear D7 D8
        go_wp2
        refine bodyPost_ret (v := .agg (verC k (q + 1 + x) y (some ⟨gb, 0, none⟩) 4 4 ⟨#[]⟩ true)) (by simp [results, Try.results37, go_sem, r8]) rfl ?_
        exact HD8.out.fin hgw HBY.out hgb ⟨hk0, by omega⟩ (by decide) (by omega) hm _ _ _ _ _ _
      · have hzb : (z == 0) = false := by simpa using hz0
        have r7 := D7.res.six
        have HD7 := hide D7
        clear D7
        go_wp2
        refine bodyPost_ret (v := .agg (verC k (q + 1 + x) y (some ⟨gb, 0, none⟩) 4 4 s false)) (by simp [results, Try.results37, go_sem, r7]) rfl ?_
        exact HD7.out.fin hgw HBY.out hgb ⟨hk0, by omega⟩ hs (by omega) hm _ _ _ _ _ _
end Go.Proofs.Ytieechelogkeoaa
