/- Contracts of the draws of tags: what is drawn are two integers, and the reader goes on. Condition: as in Draw. -/
import Derived.Test.YtdkpikemlpfepaaDoorDraw
import Derived.Deep.RegionHeld3
namespace Go.Proofs.YtdkpikemlpfepaaDoor
open Go.RowKit Go.Joins

theorem grown_below {w w' : World} {row : Option Nat} (h : Below w.heap.size w w') : w.grownBy w' row := ⟨h.os, h.tape, h.output, h.size, fun i hi _ => h.block i hi⟩
theorem grown_set {w w' : World} {g : Nat} (h : w.grownBy w' (some g)) {p : Addr} (hp : w.heap.size ≤ p.block) (u : Value) : w.grownBy (w'.setCell p u) (some g) :=
  ⟨h.os, h.tape, h.output, by simpa [World.setCell] using h.size, fun i hi hne => (Below.heap_setCell w' p u i (by omega)).trans (h.block i hi hne)⟩
theorem Bytes.on {w w' : World} {g : Nat} {a : Option Addr} {len : Nat} (h : Bytes w g a len) (hb : Below w.heap.size w w') : Bytes w' g a len := h.kept (grown_below hb)
theorem Rd.on {w w' : World} {g : Nat} {a : Option Addr} {len cap m : Nat} (h : Rd w g a len cap m) (hb : Below w.heap.size w w') : Rd w' g a len cap m := by
  obtain ⟨⟨p, h0, hp, hB⟩, h1, h2, h3, h4⟩ := h
  exact ⟨⟨p, h0, hp, hB.on hb⟩, h1, h2, h3, h4.on hb⟩
theorem Rd.alloc {w : World} {g : Nat} {a : Option Addr} {len cap m : Nat} (h : Rd w g a len cap m) (o : Obj) : Rd (w.alloc o) g a len cap m := h.on (below_alloc1 w o)
theorem Rd.inside {w : World} {g : Nat} {a : Option Addr} {len cap m : Nat} (h : Rd w g a len cap m) : g < w.heap.size := by
  obtain ⟨⟨p, h0, hp, hB⟩, _⟩ := h
  exact hB.inside
/-- A store into another block than the reader's, made since. -/
theorem Rd.set {w w' : World} {g : Nat} {a : Option Addr} {len cap m : Nat} (h : Rd w' g a len cap m) (hb : Bytes w g a len) (hg : g < w.heap.size) (hw : w.grownBy w' (some g)) {p : Addr} (hp : w.heap.size ≤ p.block) (u : Value) : Rd (w'.setCell p u) g a len cap m := by
  obtain ⟨⟨q, h0, hq, hB⟩, h1, h2, h3, _⟩ := h
  exact ⟨⟨q, h0, hq, hB.aside (by omega) u⟩, h1, h2, h3, hb.kept (grown_set hw hp u)⟩

/-- What a draw of a tag leaves. -/
def DrawnTag (w : World) (g : Nat) (a : Option Addr) (len cap m : Nat) (d : Nat) (P : Int → Int → Prop) (e : Ending) (w' : World) : Prop :=
  ∃ t p : Int, P t p ∧ e = .returned (.agg #[.int .i64 t, .int .i64 p]) ∧ w.grownBy w' (some g) ∧ Rd w' g a len cap (m + d)
/-- A small tag: nothing, or a time from 1 to 9 and a place. -/
def SmallTag (t p : Int) : Prop := t = 0 ∧ p = 0 ∨ 1 ≤ t ∧ t ≤ 9 ∧ 0 ≤ p ∧ p ≤ 2
/-- A tag of the drawn kinds, valid or not. -/
def AnyTag (t p : Int) : Prop := -1 ≤ t ∧ t ≤ 1000 ∧ -1 ≤ p ∧ p ≤ 3

set_option maxHeartbeats 1000000 in
theorem l20Tag_any (w : World) (g : Nat) (a : Option Addr) (len cap m : Nat) (h : Rd w g a len cap m) (hm : m + 3 ≤ 1000000) :
    Calls Tryd.prog 29 #[.pointer (some ⟨g, 0, none⟩)] w (DrawnTag w g a len cap m 3 SmallTag) := by
  have hg := h.inside
  have hby := h.bytes
  have h0 := h.alloc (.cells #[.int .i64 0, .int .i64 0] 24)
  have B0 := Blk.made w 24 #[.int .i64 0, .int .i64 0]
  have G0 := World.grownBy_alloc w (.cells #[.int .i64 0, .int .i64 0] 24) (some g)
  go_enter Tryd.func29, Tryd.ntmps29
  go_wp2_with fail
  refine (pick_any _ g a len cap m _ h0 (by omega) (by omega)).mono ?_
  rintro e w1 ⟨x, hx, rfl, hg1, h1⟩
  have B1 := B0.kept hg1 (by intro e; injection e; omega)
  have G1 := G0.trans hg1
  by_cases hx0 : x = 0
  · subst hx0
    obtain ⟨k0, k1, k2, k3⟩ := B1.two
    go_wp2
    refine bodyPost_ret (v := .agg #[.int .i64 0, .int .i64 0]) (by simp [results, Tryd.results29, go_sem, k0, k1]) rfl ?_
    exact ⟨0, 0, .inl ⟨rfl, rfl⟩, rfl, grown_set (grown_set G1 (Nat.le_refl _) _) (Nat.le_refl _) _, ((h1.set hby hg G1 (Nat.le_refl _) _).set hby hg (grown_set G1 (Nat.le_refl _) _) (Nat.le_refl _) _).more _ (by omega) hm⟩
  · have hxb : (x == 0) = false := by simpa using hx0
    go_wp2_with fail
    refine (pick_any _ g a len cap (m + 1) _ h1 (by omega) (by omega)).mono ?_
    rintro e w2 ⟨y, hy, rfl, hg2, h2⟩
    have B2 := B1.kept hg2 (by intro e; injection e; omega)
    have G2 := G1.trans hg2
    have hy0 := hy.1
    have hy1 := hy.2 (by omega)
    go_wp2_with fail
    refine (pick_any _ g a len cap (m + 1 + 1) _ h2 (by omega) (by omega)).mono ?_
    rintro e w3 ⟨z, hz, rfl, hg3, h3⟩
    have B3 := B2.kept hg3 (by intro e; injection e; omega)
    have G3 := G2.trans hg3
    obtain ⟨k0, k1, k2, k3⟩ := B3.two
    have hz0 := hz.1
    have hz1 := hz.2 (by omega)
    go_wp2
    refine bodyPost_ret (v := .agg #[.int .i64 (1 + y), .int .i64 z]) (by simp [results, Tryd.results29, go_sem, k0, k1]) rfl ?_
    exact ⟨1 + y, z, .inr ⟨by omega, by omega, by omega, by omega⟩, rfl, grown_set (grown_set G3 (Nat.le_refl _) _) (Nat.le_refl _) _, ((h3.set hby hg G3 (Nat.le_refl _) _).set hby hg (grown_set G3 (Nat.le_refl _) _) (Nat.le_refl _) _).more _ (by omega) hm⟩

/-- Any integer at all. -/
def AnyInt (lo hi x : Int) : Prop := lo ≤ x ∧ x ≤ hi

set_option maxHeartbeats 1000000 in
theorem one4_any (w : World) (g : Nat) (a : Option Addr) (len cap m c : Nat) (x0 x1 x2 x3 lo hi : Int) (h : Rd w g a len cap m) (hm : m + 1 ≤ 1000000) (hne : c ≠ g)
    (hB : Blk w c 3 #[.int .i64 x0, .int .i64 x1, .int .i64 x2, .int .i64 x3]) (hx0 : AnyInt lo hi x0) (hx1 : AnyInt lo hi x1) (hx2 : AnyInt lo hi x2) (hx3 : AnyInt lo hi x3) :
    Calls Tryd.prog 28 #[.pointer (some ⟨g, 0, none⟩), .slice (some ⟨c, 0, none⟩) 4 4] w (Drawn w g a len cap m 1 (AnyInt lo hi)) := by
  go_enter Tryd.func28, Tryd.ntmps28
  go_wp2_with fail
  refine (pick_any _ g a len cap m _ h (by omega) (by omega)).mono ?_
  rintro e w1 ⟨x, hx, rfl, hg1, h1⟩
  have B1 := hB.kept hg1 (by intro e; injection e; omega)
  have c0 := B1.at 0
  have c1 := B1.at 1
  have c2 := B1.at 2
  have c3 := B1.at 3
  have hxa := hx.1
  have hxb := hx.2 (by omega)
  have hcase : x = 0 ∨ x = 1 ∨ x = 2 ∨ x = 3 := by omega
  rcases hcase with rfl | rfl | rfl | rfl
  all_goals
    go_wp2
    go_ret
  · exact ⟨_, hx0, rfl, hg1, h1⟩
  · exact ⟨_, hx1, rfl, hg1, h1⟩
  · exact ⟨_, hx2, rfl, hg1, h1⟩
  · exact ⟨_, hx3, rfl, hg1, h1⟩

set_option maxHeartbeats 1000000 in
theorem l20AnyTag_any (w : World) (g : Nat) (a : Option Addr) (len cap m : Nat) (h : Rd w g a len cap m) (hm : m + 4 ≤ 1000000) :
    Calls Tryd.prog 17 #[.pointer (some ⟨g, 0, none⟩)] w (DrawnTag w g a len cap m 4 AnyTag) := by
  have hg := h.inside
  have hby := h.bytes
  have h0 := h.alloc (.cells #[.int .i64 0, .int .i64 0] 24)
  have B0 := Blk.made w 24 #[.int .i64 0, .int .i64 0]
  have G0 := World.grownBy_alloc w (.cells #[.int .i64 0, .int .i64 0] 24) (some g)
  go_enter Tryd.func17, Tryd.ntmps17
  go_wp2_with fail
  refine (pick_any _ g a len cap m _ h0 (by omega) (by omega)).mono ?_
  rintro e w1 ⟨x, hx, rfl, hg1, h1⟩
  have B1 := B0.kept hg1 (by intro e; injection e; omega)
  have G1 := G0.trans hg1
  by_cases hx0 : x = 0
  · subst hx0
    go_wp2_with fail
    refine (one4_any _ g a len cap (m + 1) w1.heap.size _ _ _ _ (-1) 1000 (h1.alloc _) (by omega) (by have := h1.inside; omega) (Blk.made _ _ _) (by unfold AnyInt; omega) (by unfold AnyInt; omega) (by unfold AnyInt; omega) (by unfold AnyInt; omega)).mono ?_
    rintro e w2 ⟨t, ht, rfl, hg2, h2⟩
    have G2 := G1.trans ((World.grownBy_alloc _ _ _).trans hg2)
    have B2 := (B1.more _).kept hg2 (by intro e; injection e; omega)
    go_wp2_with fail
    refine (one4_any _ g a len cap (m + 1 + 1) w2.heap.size _ _ _ _ (-1) 3 (h2.alloc _) (by omega) (by have := h2.inside; omega) (Blk.made _ _ _) (by unfold AnyInt; omega) (by unfold AnyInt; omega) (by unfold AnyInt; omega) (by unfold AnyInt; omega)).mono ?_
    rintro e w3 ⟨p, hp, rfl, hg3, h3⟩
    have G3 := G2.trans ((World.grownBy_alloc _ _ _).trans hg3)
    have B3 := (B2.more _).kept hg3 (by intro e; injection e; omega)
    obtain ⟨k0, k1, k2, k3⟩ := B3.two
    go_wp2
    refine bodyPost_ret (v := .agg #[.int .i64 t, .int .i64 p]) (by simp [results, Tryd.results17, go_sem, k0, k1]) rfl ?_
    exact ⟨t, p, ⟨ht.1, ht.2, hp.1, hp.2⟩, rfl, grown_set (grown_set G3 (Nat.le_refl _) _) (Nat.le_refl _) _, ((h3.set hby hg G3 (Nat.le_refl _) _).set hby hg (grown_set G3 (Nat.le_refl _) _) (Nat.le_refl _) _).more _ (by omega) hm⟩
  · have hxb : (x == 0) = false := by simpa using hx0
    go_wp2_with fail
    refine (l20Tag_any _ g a len cap (m + 1) h1 (by omega)).mono ?_
    rintro e w2 ⟨t, p, htp, rfl, hg2, h2⟩
    have B2 := B1.kept hg2 (by intro e; injection e; omega)
    have G2 := G1.trans hg2
    obtain ⟨k0, k1, k2, k3⟩ := B2.two
    go_wp2
    refine bodyPost_ret (v := .agg #[.int .i64 t, .int .i64 p]) (by simp [results, Tryd.results17, go_sem, k0, k1]) rfl ?_
    exact ⟨t, p, by unfold SmallTag at htp; unfold AnyTag; omega, rfl, grown_set (grown_set G2 (Nat.le_refl _) _) (Nat.le_refl _) _, ((h2.set hby hg G2 (Nat.le_refl _) _).set hby hg (grown_set G2 (Nat.le_refl _) _) (Nat.le_refl _) _).more _ (by omega) hm⟩

/-- The code that came in: bytes that can be read, in old memory. -/
def Code0 (w : World) (a : Option Addr) (len cap : Nat) : Prop :=
  len ≤ cap ∧ (len = 0 ∨ ∃ b off : Nat, a = some ⟨b, off, none⟩ ∧ b < w.heap.size ∧ ∀ i : Nat, i < len → ∃ x : Int, 0 ≤ x ∧ x ≤ 255 ∧ w.cell? ⟨b, off + i, none⟩ = some (.int .u8 x))
theorem Code0.on {w w' : World} {a : Option Addr} {len cap : Nat} (h : Code0 w a len cap) (hb : Below w.heap.size w w') : Code0 w' a len cap := by
  obtain ⟨hc, h | ⟨b, off, ha, hlt, hx⟩⟩ := h
  · exact ⟨hc, .inl h⟩
  · refine ⟨hc, .inr ⟨b, off, ha, Nat.lt_of_lt_of_le hlt hb.size, fun i hi => ?_⟩⟩
    obtain ⟨x, h0, h1, hcell⟩ := hx i hi
    exact ⟨x, h0, h1, (hb.cell (p := ⟨b, off + i, none⟩) hlt).trans hcell⟩

/-- A new reader. -/
def Opened (w : World) (e : Ending) (w' : World) : Prop :=
  ∃ (a : Option Addr) (len cap : Nat), e = .returned (.pointer (some ⟨w.heap.size, 0, none⟩)) ∧ Below w.heap.size w w' ∧ Rd w' w.heap.size a len cap 0

set_option maxHeartbeats 1000000 in
theorem l20Open_any (w : World) (a : Option Addr) (len cap : Nat) (hc : Code0 w a len cap) (hl : len ≤ 1048576) :
    Calls Tryd.prog 18 #[.slice a len cap] w (Opened w) := by
  have fin : ∀ (l c : Nat), l ≤ len → l ≤ 2000 → l ≤ c → Opened w (.returned (.pointer (some ⟨w.heap.size, 0, none⟩))) (w.alloc (.cells #[.slice a l c, .int .i64 0] 53)) := by
    intro l c h1 h2 h3
    have hb := below_alloc1 w (.cells #[.slice a l c, .int .i64 0] 53)
    refine ⟨a, l, c, rfl, hb, ⟨⟨0, by omega, by omega, Blk.made _ _ _⟩, by omega, h2, h3, ?_⟩⟩
    obtain ⟨_, h | ⟨b, off, ha, hlt, hx⟩⟩ := hc.on hb
    · exact .inl (by omega)
    · obtain ⟨_, h' | ⟨b', off', ha', hlt', hx'⟩⟩ := hc
      · exact .inl (by omega)
      · rw [ha] at ha'
        injection ha' with e
        injection e with e1 e2
        subst e1 e2
        exact .inr ⟨b, off, ha, by omega, hlt, fun i hi => hx i (by omega)⟩
  have hlc := hc.1
  by_cases h2 : 2000 < len
  · obtain ⟨hcc, h | ⟨b, off, rfl, hlt, hx⟩⟩ := hc
    · omega
    · go_enter Tryd.func18, Tryd.ntmps18
      go_wp2
      go_ret
      exact fin 2000 cap (by omega) (by omega) (by omega)
  · go_enter Tryd.func18, Tryd.ntmps18
    go_wp2
    go_ret
    exact fin len cap (Nat.le_refl _) (by omega) hlc

/-- From a new reader on only its block turns: nothing older than the call. -/
theorem below_grown {w w1 w2 : World} {g : Nat} (h : Below w.heap.size w w1) (hg : w1.grownBy w2 (some g)) (hw : w.heap.size ≤ g) : Below w.heap.size w w2 :=
  h.grown hg h.size (fun k hk => by injection hk; omega)

/-- Two tags were drawn. -/
def TwoTags (w : World) (e : Ending) (w' : World) : Prop :=
  ∃ t p t' p' : Int, AnyTag t p ∧ AnyTag t' p' ∧ e = .returned (.tuple #[.agg #[.int .i64 t, .int .i64 p], .agg #[.int .i64 t', .int .i64 p']]) ∧ Below w.heap.size w w'

end Go.Proofs.YtdkpikemlpfepaaDoor
