/- Contracts of the reader of a code (spec.l20Rd): what it draws is within bounds, whatever the code. Condition: the code has at most 2000 bytes, as spec.l20Open leaves it. -/
import Derived.Test.YtjnloillcgeodaaGreatProg
import Derived.Test.YtjnloillcgeodaaGreatJLift0
import Derived.WalkLawsBesides
import Derived.Deep.QuietTactic
import Derived.BigQuiet
import Derived.Deep.DeepCutAuto
import Derived.Laws.BitsAllLaws
import Derived.Laws.BitsLemmas
import Derived.IntWalk
import Derived.Deep.RegionHeld3
namespace Go.Proofs.YtjnloillcgeodaaGreat
open Go.RowKit Go.Joins

/-- A slice of bytes that can be read: below block n, in another block than g. -/
def Bytes (w : World) (g : Nat) (a : Option Addr) (len : Nat) : Prop :=
  len = 0 ∨ ∃ b off : Nat, a = some ⟨b, off, none⟩ ∧ b ≠ g ∧ b < w.heap.size ∧ ∀ i : Nat, i < len → ∃ x : Int, 0 ≤ x ∧ x ≤ 255 ∧ w.cell? ⟨b, off + i, none⟩ = some (.int .u8 x)

/-- The reader in block g, over these bytes, has drawn at most m times. -/
structure Rd (w : World) (g : Nat) (a : Option Addr) (len cap m : Nat) : Prop where
  blk : ∃ p : Int, 0 ≤ p ∧ p ≤ m ∧ Blk w g 99 #[.slice a len cap, .int .i64 p]
  most : m ≤ 1000000
  short : len ≤ 2000
  fits : len ≤ cap
  bytes : Bytes w g a len

theorem Bytes.kept {w w' : World} {g : Nat} {a : Option Addr} {len : Nat} (h : Bytes w g a len) (hb : w.grownBy w' (some g)) : Bytes w' g a len := by
  rcases h with h | ⟨b, off, ha, hne, hlt, hx⟩
  · exact .inl h
  · refine .inr ⟨b, off, ha, hne, Nat.lt_of_lt_of_le hlt hb.size, fun i hi => ?_⟩
    obtain ⟨x, h0, h1, hc⟩ := hx i hi
    exact ⟨x, h0, h1, (World.cell?_of_block (hb.block b hlt (fun e => hne (by injection e)))).trans hc⟩
theorem Rd.more {w : World} {g : Nat} {a : Option Addr} {len cap m : Nat} (h : Rd w g a len cap m) (k : Nat) (hk : m ≤ k) (h1 : k ≤ 1000000) : Rd w g a len cap k := by
  obtain ⟨⟨p, h0, hp, hb⟩, _, h2, h3, h4⟩ := h
  exact ⟨⟨p, h0, by omega, hb⟩, h1, h2, h3, h4⟩

/-- What a draw leaves: an integer from 0 to n - 1 (0 where there is no choice); the reader went on by at most d. -/
def Drawn (w : World) (g : Nat) (a : Option Addr) (len cap m : Nat) (d : Nat) (P : Int → Prop) (e : Ending) (w' : World) : Prop :=
  ∃ x : Int, P x ∧ e = .returned (.int .i64 x) ∧ w.grownBy w' (some g) ∧ Rd w' g a len cap (m + d)

def PickOk (n x : Int) : Prop := 0 ≤ x ∧ (1 ≤ n → x < n)

theorem ofInt_small (a : Nat) (ha : a < 9223372036854775808) : (BitVec.ofInt 64 (a : Int)).toNat = a := by
  rw [BitVec.ofInt_natCast, BitVec.toNat_ofNat]
  exact Nat.mod_eq_of_lt (by omega)
theorem xor_fits (x : Int) (h0 : 0 ≤ x) (h1 : x ≤ 1000000000) : 0 ≤ bits .xor .i64 x (x / 64) ∧ bits .xor .i64 x (x / 64) ≤ 4294967296 := by
  obtain ⟨n, rfl⟩ := Int.eq_ofNat_of_zero_le h0
  have e : (n : Int) / 64 = ((n / 64 : Nat) : Int) := by omega
  rw [e]
  have hx : n ^^^ (n / 64) < 2 ^ 32 := Nat.xor_lt_two_pow (by omega) (by omega)
  have hb : bits .xor .i64 (n : Int) ((n / 64 : Nat) : Int) = ((n ^^^ (n / 64) : Nat) : Int) := by
    show IntKind.i64.wrap ((BitVec.ofInt 64 (n : Int) ^^^ BitVec.ofInt 64 ((n / 64 : Nat) : Int)).toNat : Int) = _
    rw [BitVec.toNat_xor, ofInt_small n (by omega), ofInt_small (n / 64) (by omega), IntKind.wrap_i64]
    omega
  rw [hb]
  omega

set_option maxRecDepth 100000 in
set_option maxHeartbeats 1000000 in
theorem pick_any (w : World) (g : Nat) (a : Option Addr) (len cap m : Nat) (n : Int) (h : Rd w g a len cap m) (hm : m + 1 ≤ 1000000) (hn : n ≤ 1000000) :
    Calls Tryz.prog 49 #[.pointer (some ⟨g, 0, none⟩), .int .i64 n] w (Drawn w g a len cap m 1 (PickOk n)) := by
  obtain ⟨⟨p, hp0, hp1, hB⟩, _, hl, hlc, hby⟩ := h
  obtain ⟨k0, k1, k2, k3⟩ := hB.two
  have fin : ∀ (q : Nat) (x : Int), PickOk n x → Drawn w g a len cap m 1 (PickOk n) (.returned (.int .i64 x)) ((w.setCell ⟨g, 1, none⟩ (.int .i64 (p + 1))).drewN q) := by
    intro q x hx
    have hg : w.grownBy ((w.setCell ⟨g, 1, none⟩ (.int .i64 (p + 1))).drewN q) (some g) := ⟨rfl, rfl, rfl, by simp [World.setCell], fun i _ hne => Below.heap_setCell _ _ _ _ (by rintro rfl; exact hne rfl)⟩
    exact ⟨x, hx, rfl, hg, ⟨⟨p + 1, by omega, by push_cast; omega, hB.put 1 _⟩, hm, hl, hlc, hby.kept hg⟩⟩
  by_cases hn1 : n < 1
  · go_enter Tryz.func49, Tryz.ntmps49
    go_wp2
    go_ret
    exact fin 0 0 ⟨by omega, by omega⟩
  · by_cases hl0 : len = 0
    · subst hl0
      go_enter Tryz.func49, Tryz.ntmps49
      go_wp2
      go_ret
      exact fin 0 0 ⟨by omega, by omega⟩
    · rcases hby with h | ⟨b, off, rfl, hne, hlt, hx⟩
      · exact absurd h hl0
      · by_cases hk : p < len
        · obtain ⟨pn, rfl⟩ := Int.eq_ofNat_of_zero_le hp0
          obtain ⟨x, hx0, hx1, hc⟩ := hx pn (by omega)
          have hlb : ((len : Int) == 0) = false := by simp; omega
          go_enter Tryz.func49, Tryz.ntmps49
          go_wp2
          go_ret
          exact fin 0 _ ⟨Int.emod_nonneg _ (by omega), fun _ => Int.emod_lt_of_pos _ (by omega)⟩
        · obtain ⟨pn, rfl⟩ := Int.eq_ofNat_of_zero_le hp0
          have hlp : 0 < len := by omega
          obtain ⟨x, hx0, hx1, hc⟩ := hx (pn % len) (Nat.mod_lt _ hlp)
          obtain ⟨y, hy0, hy1, hd⟩ := hx ((pn * 7 + 3) % len) (Nat.mod_lt _ hlp)
          have hlb : ((len : Int) == 0) = false := by simp; omega
          go_enter Tryz.func49, Tryz.ntmps49
          go_upto_region 7 with (fail)
          go_cut [6] (fun s wx => ∃ z : Int, 0 ≤ z ∧ z ≤ 1000000000 ∧ s = .int .i64 z ∧ ∃ q, wx = (w.setCell ⟨g, 1, none⟩ (.int .i64 ((pn : Int) + 1))).drewN q)
          case first =>
            have c0 : (w.setCell ⟨g, 1, none⟩ (.int .i64 ((pn : Int) + 1))).cell? ⟨g, 0, none⟩ = some (.slice (some ⟨b, off, none⟩) len cap) := (hB.put 1 _).at 0
            have c1 : (w.setCell ⟨g, 1, none⟩ (.int .i64 ((pn : Int) + 1))).cell? ⟨b, off + pn % len, none⟩ = some (.int .u8 x) := by
              rw [World.cell?_setCell_other _ _ _ _ (by intro e; injection e with e1; exact hne e1.symm)]; exact hc
            have c2 : (w.setCell ⟨g, 1, none⟩ (.int .i64 ((pn : Int) + 1))).cell? ⟨b, off + (pn * 7 + 3) % len, none⟩ = some (.int .u8 y) := by
              rw [World.cell?_setCell_other _ _ _ _ (by intro e; injection e with e1; exact hne e1.symm)]; exact hd
            generalize hW : w.setCell ⟨g, 1, none⟩ (.int .i64 ((pn : Int) + 1)) = W at c0 c1 c2 ⊢
            have HW := hide hW
            clear hW
            clear k0 k1 k2 k3 hc hd hx fin hB
            have i1 : 0 ≤ (pn : Int) % (len : Int) := Int.emod_nonneg _ (by omega)
            have i2 : (pn : Int) % (len : Int) < (len : Int) := Int.emod_lt_of_pos _ (by omega)
            have i3 : 0 ≤ ((pn : Int) * 7 + 3) % (len : Int) := Int.emod_nonneg _ (by omega)
            have i4 : ((pn : Int) * 7 + 3) % (len : Int) < (len : Int) := Int.emod_lt_of_pos _ (by omega)
            have i5 : ((pn : Int) % (len : Int)).toNat = pn % len := by
              have e : (pn : Int) % (len : Int) = ((pn % len : Nat) : Int) := by push_cast; rfl
              rw [e]; exact Int.toNat_natCast _
            have i6 : (((pn : Int) * 7 + 3) % (len : Int)).toNat = (pn * 7 + 3) % len := by
              have e : ((pn : Int) * 7 + 3) % (len : Int) = (((pn * 7 + 3) % len : Nat) : Int) := by push_cast; rfl
              rw [e]; exact Int.toNat_natCast _
            have i7 : 0 ≤ (pn : Int) / (len : Int) := Int.ediv_nonneg (by omega) (by omega)
            have i8 : (pn : Int) / (len : Int) ≤ (pn : Int) := Int.ediv_le_self _ (by omega)
            go_quiet (fail)
            go_wp2_with fail
            go_meet
            exact ⟨_, by omega, by omega, rfl, nq, by rw [HW.out]⟩
          case rest =>
            obtain ⟨z, hz0, hz1, rfl, q, rfl⟩ := hcut
            obtain ⟨hf0, hf1⟩ := xor_fits z hz0 hz1
            go_wp2
            go_ret
            exact fin q _ ⟨Int.emod_nonneg _ (by omega), fun _ => Int.emod_lt_of_pos _ (by omega)⟩
end Go.Proofs.YtjnloillcgeodaaGreat
/- Contracts of the draws of tags: what is drawn are two integers, and the reader goes on. Condition: as in Draw. -/
namespace Go.Proofs.YtjnloillcgeodaaGreat
open Go.RowKit Go.Joins

theorem grown_below {w w' : World} {row : Option Nat} (h : Below w.heap.size w w') : w.grownBy w' row := ⟨h.os, h.tape, h.output, h.size, fun i hi _ => h.block i hi⟩
theorem grown_set {w w' : World} {g : Nat} (h : w.grownBy w' (some g)) {p : Addr} (hp : w.heap.size ≤ p.block) (u : Value) : w.grownBy (w'.setCell p u) (some g) :=
  ⟨h.os, h.tape, h.output, by simpa [World.setCell] using h.size, fun i hi hne => (Below.heap_setCell w' p u i (by omega)).trans (h.block i hi hne)⟩
theorem Bytes.on {w w' : World} {g : Nat} {a : Option Addr} {len : Nat} (h : Bytes w g a len) (hb : Below w.heap.size w w') : Bytes w' g a len := h.kept (grown_below hb)
theorem Rd.on {w w' : World} {g : Nat} {a : Option Addr} {len cap m : Nat} (h : Rd w g a len cap m) (hb : Below w.heap.size w w') : Rd w' g a len cap m := by
  obtain ⟨⟨p, h0, hp, hB⟩, h1, h2, h3, h4⟩ := h
  exact ⟨⟨p, h0, hp, hB.on hb⟩, h1, h2, h3, h4.on hb⟩
theorem Rd.alloc {w : World} {g : Nat} {a : Option Addr} {len cap m : Nat} (h : Rd w g a len cap m) (o : Obj) : Rd (w.alloc o) g a len cap m := h.on (below_alloc1 w o)
theorem Rd.inside {w : World} {g : Nat} {a : Option Addr} {len cap m : Nat} (h : Rd w g a len cap m) : g < w.heap.size := by
  obtain ⟨⟨p, h0, hp, hB⟩, _⟩ := h
  exact hB.inside
/-- A store into another block than the reader's, made since. -/
theorem Rd.set {w w' : World} {g : Nat} {a : Option Addr} {len cap m : Nat} (h : Rd w' g a len cap m) (hb : Bytes w g a len) (hg : g < w.heap.size) (hw : w.grownBy w' (some g)) {p : Addr} (hp : w.heap.size ≤ p.block) (u : Value) : Rd (w'.setCell p u) g a len cap m := by
  obtain ⟨⟨q, h0, hq, hB⟩, h1, h2, h3, _⟩ := h
  exact ⟨⟨q, h0, hq, hB.aside (by omega) u⟩, h1, h2, h3, hb.kept (grown_set hw hp u)⟩

/-- What a draw of a tag leaves. -/
def DrawnTag (w : World) (g : Nat) (a : Option Addr) (len cap m : Nat) (d : Nat) (P : Int → Int → Prop) (e : Ending) (w' : World) : Prop :=
  ∃ t p : Int, P t p ∧ e = .returned (.agg #[.int .i64 t, .int .i64 p]) ∧ w.grownBy w' (some g) ∧ Rd w' g a len cap (m + d)
/-- A small tag: nothing, or a time from 1 to 9 and a place. -/
def SmallTag (t p : Int) : Prop := t = 0 ∧ p = 0 ∨ 1 ≤ t ∧ t ≤ 9 ∧ 0 ≤ p ∧ p ≤ 2
/-- A tag of the drawn kinds, valid or not. -/
def AnyTag (t p : Int) : Prop := -1 ≤ t ∧ t ≤ 1000 ∧ -1 ≤ p ∧ p ≤ 3

set_option maxHeartbeats 1000000 in
theorem l20Tag_any (w : World) (g : Nat) (a : Option Addr) (len cap m : Nat) (h : Rd w g a len cap m) (hm : m + 3 ≤ 1000000) :
    Calls Tryz.prog 123 #[.pointer (some ⟨g, 0, none⟩)] w (DrawnTag w g a len cap m 3 SmallTag) := by
  have hg := h.inside
  have hby := h.bytes
  have h0 := h.alloc (.cells #[.int .i64 0, .int .i64 0] 49)
  have B0 := Blk.made w 49 #[.int .i64 0, .int .i64 0]
  have G0 := World.grownBy_alloc w (.cells #[.int .i64 0, .int .i64 0] 49) (some g)
  go_enter Tryz.func123, Tryz.ntmps123
  go_wp2_with fail
  refine (pick_any _ g a len cap m _ h0 (by omega) (by omega)).mono ?_
  rintro e w1 ⟨x, hx, rfl, hg1, h1⟩
  have B1 := B0.kept hg1 (by intro e; injection e; omega)
  have G1 := G0.trans hg1
  by_cases hx0 : x = 0
  · subst hx0
    obtain ⟨k0, k1, k2, k3⟩ := B1.two
    go_wp2
    refine bodyPost_ret (v := .agg #[.int .i64 0, .int .i64 0]) (by simp [results, Tryz.results123, go_sem, k0, k1]) rfl ?_
    exact ⟨0, 0, .inl ⟨rfl, rfl⟩, rfl, grown_set (grown_set G1 (Nat.le_refl _) _) (Nat.le_refl _) _, ((h1.set hby hg G1 (Nat.le_refl _) _).set hby hg (grown_set G1 (Nat.le_refl _) _) (Nat.le_refl _) _).more _ (by omega) hm⟩
  · have hxb : (x == 0) = false := by simpa using hx0
    go_wp2_with fail
    refine (pick_any _ g a len cap (m + 1) _ h1 (by omega) (by omega)).mono ?_
    rintro e w2 ⟨y, hy, rfl, hg2, h2⟩
    have B2 := B1.kept hg2 (by intro e; injection e; omega)
    have G2 := G1.trans hg2
    have hy0 := hy.1
    have hy1 := hy.2 (by omega)
    go_wp2_with fail
    refine (pick_any _ g a len cap (m + 1 + 1) _ h2 (by omega) (by omega)).mono ?_
    rintro e w3 ⟨z, hz, rfl, hg3, h3⟩
    have B3 := B2.kept hg3 (by intro e; injection e; omega)
    have G3 := G2.trans hg3
    obtain ⟨k0, k1, k2, k3⟩ := B3.two
    have hz0 := hz.1
    have hz1 := hz.2 (by omega)
    go_wp2
    refine bodyPost_ret (v := .agg #[.int .i64 (1 + y), .int .i64 z]) (by simp [results, Tryz.results123, go_sem, k0, k1]) rfl ?_
    exact ⟨1 + y, z, .inr ⟨by omega, by omega, by omega, by omega⟩, rfl, grown_set (grown_set G3 (Nat.le_refl _) _) (Nat.le_refl _) _, ((h3.set hby hg G3 (Nat.le_refl _) _).set hby hg (grown_set G3 (Nat.le_refl _) _) (Nat.le_refl _) _).more _ (by omega) hm⟩

/-- Any integer at all. -/
def AnyInt (lo hi x : Int) : Prop := lo ≤ x ∧ x ≤ hi

set_option maxHeartbeats 1000000 in
theorem one4_any (w : World) (g : Nat) (a : Option Addr) (len cap m c : Nat) (x0 x1 x2 x3 lo hi : Int) (h : Rd w g a len cap m) (hm : m + 1 ≤ 1000000) (hne : c ≠ g)
    (hB : Blk w c 3 #[.int .i64 x0, .int .i64 x1, .int .i64 x2, .int .i64 x3]) (hx0 : AnyInt lo hi x0) (hx1 : AnyInt lo hi x1) (hx2 : AnyInt lo hi x2) (hx3 : AnyInt lo hi x3) :
    Calls Tryz.prog 31 #[.pointer (some ⟨g, 0, none⟩), .slice (some ⟨c, 0, none⟩) 4 4] w (Drawn w g a len cap m 1 (AnyInt lo hi)) := by
  go_enter Tryz.func31, Tryz.ntmps31
  go_wp2_with fail
  refine (pick_any _ g a len cap m _ h (by omega) (by omega)).mono ?_
  rintro e w1 ⟨x, hx, rfl, hg1, h1⟩
  have B1 := hB.kept hg1 (by intro e; injection e; omega)
  have c0 := B1.at 0
  have c1 := B1.at 1
  have c2 := B1.at 2
  have c3 := B1.at 3
  have hxa := hx.1
  have hxb := hx.2 (by omega)
  have hcase : x = 0 ∨ x = 1 ∨ x = 2 ∨ x = 3 := by omega
  rcases hcase with rfl | rfl | rfl | rfl
  all_goals
    go_wp2
    go_ret
  · exact ⟨_, hx0, rfl, hg1, h1⟩
  · exact ⟨_, hx1, rfl, hg1, h1⟩
  · exact ⟨_, hx2, rfl, hg1, h1⟩
  · exact ⟨_, hx3, rfl, hg1, h1⟩

set_option maxHeartbeats 1000000 in
theorem l20AnyTag_any (w : World) (g : Nat) (a : Option Addr) (len cap m : Nat) (h : Rd w g a len cap m) (hm : m + 4 ≤ 1000000) :
    Calls Tryz.prog 93 #[.pointer (some ⟨g, 0, none⟩)] w (DrawnTag w g a len cap m 4 AnyTag) := by
  have hg := h.inside
  have hby := h.bytes
  have h0 := h.alloc (.cells #[.int .i64 0, .int .i64 0] 49)
  have B0 := Blk.made w 49 #[.int .i64 0, .int .i64 0]
  have G0 := World.grownBy_alloc w (.cells #[.int .i64 0, .int .i64 0] 49) (some g)
  go_enter Tryz.func93, Tryz.ntmps93
  go_wp2_with fail
  refine (pick_any _ g a len cap m _ h0 (by omega) (by omega)).mono ?_
  rintro e w1 ⟨x, hx, rfl, hg1, h1⟩
  have B1 := B0.kept hg1 (by intro e; injection e; omega)
  have G1 := G0.trans hg1
  by_cases hx0 : x = 0
  · subst hx0
    go_wp2_with fail
    refine (one4_any _ g a len cap (m + 1) w1.heap.size _ _ _ _ (-1) 1000 (h1.alloc _) (by omega) (by have := h1.inside; omega) (Blk.made _ _ _) (by unfold AnyInt; omega) (by unfold AnyInt; omega) (by unfold AnyInt; omega) (by unfold AnyInt; omega)).mono ?_
    rintro e w2 ⟨t, ht, rfl, hg2, h2⟩
    have G2 := G1.trans ((World.grownBy_alloc _ _ _).trans hg2)
    have B2 := (B1.more _).kept hg2 (by intro e; injection e; omega)
    go_wp2_with fail
    refine (one4_any _ g a len cap (m + 1 + 1) w2.heap.size _ _ _ _ (-1) 3 (h2.alloc _) (by omega) (by have := h2.inside; omega) (Blk.made _ _ _) (by unfold AnyInt; omega) (by unfold AnyInt; omega) (by unfold AnyInt; omega) (by unfold AnyInt; omega)).mono ?_
    rintro e w3 ⟨p, hp, rfl, hg3, h3⟩
    have G3 := G2.trans ((World.grownBy_alloc _ _ _).trans hg3)
    have B3 := (B2.more _).kept hg3 (by intro e; injection e; omega)
    obtain ⟨k0, k1, k2, k3⟩ := B3.two
    go_wp2
    refine bodyPost_ret (v := .agg #[.int .i64 t, .int .i64 p]) (by simp [results, Tryz.results93, go_sem, k0, k1]) rfl ?_
    exact ⟨t, p, ⟨ht.1, ht.2, hp.1, hp.2⟩, rfl, grown_set (grown_set G3 (Nat.le_refl _) _) (Nat.le_refl _) _, ((h3.set hby hg G3 (Nat.le_refl _) _).set hby hg (grown_set G3 (Nat.le_refl _) _) (Nat.le_refl _) _).more _ (by omega) hm⟩
  · have hxb : (x == 0) = false := by simpa using hx0
    go_wp2_with fail
    refine (l20Tag_any _ g a len cap (m + 1) h1 (by omega)).mono ?_
    rintro e w2 ⟨t, p, htp, rfl, hg2, h2⟩
    have B2 := B1.kept hg2 (by intro e; injection e; omega)
    have G2 := G1.trans hg2
    obtain ⟨k0, k1, k2, k3⟩ := B2.two
    go_wp2
    refine bodyPost_ret (v := .agg #[.int .i64 t, .int .i64 p]) (by simp [results, Tryz.results93, go_sem, k0, k1]) rfl ?_
    exact ⟨t, p, by unfold SmallTag at htp; unfold AnyTag; omega, rfl, grown_set (grown_set G2 (Nat.le_refl _) _) (Nat.le_refl _) _, ((h2.set hby hg G2 (Nat.le_refl _) _).set hby hg (grown_set G2 (Nat.le_refl _) _) (Nat.le_refl _) _).more _ (by omega) hm⟩

/-- The code that came in: bytes that can be read, in old memory. -/
def Code0 (w : World) (a : Option Addr) (len cap : Nat) : Prop :=
  len ≤ cap ∧ (len = 0 ∨ ∃ b off : Nat, a = some ⟨b, off, none⟩ ∧ b < w.heap.size ∧ ∀ i : Nat, i < len → ∃ x : Int, 0 ≤ x ∧ x ≤ 255 ∧ w.cell? ⟨b, off + i, none⟩ = some (.int .u8 x))
theorem Code0.on {w w' : World} {a : Option Addr} {len cap : Nat} (h : Code0 w a len cap) (hb : Below w.heap.size w w') : Code0 w' a len cap := by
  obtain ⟨hc, h | ⟨b, off, ha, hlt, hx⟩⟩ := h
  · exact ⟨hc, .inl h⟩
  · refine ⟨hc, .inr ⟨b, off, ha, Nat.lt_of_lt_of_le hlt hb.size, fun i hi => ?_⟩⟩
    obtain ⟨x, h0, h1, hcell⟩ := hx i hi
    exact ⟨x, h0, h1, (hb.cell (p := ⟨b, off + i, none⟩) hlt).trans hcell⟩

/-- A new reader. -/
def Opened (w : World) (e : Ending) (w' : World) : Prop :=
  ∃ (a : Option Addr) (len cap : Nat), e = .returned (.pointer (some ⟨w.heap.size, 0, none⟩)) ∧ Below w.heap.size w w' ∧ Rd w' w.heap.size a len cap 0

set_option maxHeartbeats 1000000 in
theorem l20Open_any (w : World) (a : Option Addr) (len cap : Nat) (hc : Code0 w a len cap) (hl : len ≤ 1048576) :
    Calls Tryz.prog 29 #[.slice a len cap] w (Opened w) := by
  have fin : ∀ (l c : Nat), l ≤ len → l ≤ 2000 → l ≤ c → Opened w (.returned (.pointer (some ⟨w.heap.size, 0, none⟩))) (w.alloc (.cells #[.slice a l c, .int .i64 0] 99)) := by
    intro l c h1 h2 h3
    have hb := below_alloc1 w (.cells #[.slice a l c, .int .i64 0] 99)
    refine ⟨a, l, c, rfl, hb, ⟨⟨0, by omega, by omega, Blk.made _ _ _⟩, by omega, h2, h3, ?_⟩⟩
    obtain ⟨_, h | ⟨b, off, ha, hlt, hx⟩⟩ := hc.on hb
    · exact .inl (by omega)
    · obtain ⟨_, h' | ⟨b', off', ha', hlt', hx'⟩⟩ := hc
      · exact .inl (by omega)
      · rw [ha] at ha'
        injection ha' with e
        injection e with e1 e2
        subst e1 e2
        exact .inr ⟨b, off, ha, by omega, hlt, fun i hi => hx i (by omega)⟩
  have hlc := hc.1
  by_cases h2 : 2000 < len
  · obtain ⟨hcc, h | ⟨b, off, rfl, hlt, hx⟩⟩ := hc
    · omega
    · go_enter Tryz.func29, Tryz.ntmps29
      go_wp2
      go_ret
      exact fin 2000 cap (by omega) (by omega) (by omega)
  · go_enter Tryz.func29, Tryz.ntmps29
    go_wp2
    go_ret
    exact fin len cap (Nat.le_refl _) (by omega) hlc

/-- Two tags were drawn. -/
def TwoTags (w : World) (e : Ending) (w' : World) : Prop :=
  ∃ t p t' p' : Int, AnyTag t p ∧ AnyTag t' p' ∧ e = .returned (.tuple #[.agg #[.int .i64 t, .int .i64 p], .agg #[.int .i64 t', .int .i64 p']]) ∧ Below w.heap.size w w'

end Go.Proofs.YtjnloillcgeodaaGreat
/- Bytes that came in: each can be read. -/
namespace Go.Proofs.YtjnloillcgeodaaGreat
open Go.ChangeShapes Go.WideShapes Go.ChangeAt Go.RowKit Go.Joins

set_option maxRecDepth 100000 in
/-- Bytes that came in: each can be read. -/
theorem read_bytes {H : Type} {enc : TypeId × Value → H} {W : World} {base : Nat} {v : Value} {d : DataW H} {p : List MemPlace}
    (hv : Value.okWide Tryz.prog W .any base 22 v) (h : DataW.Trod enc Tryz.prog W 0 (fun _ => true) true 22 v d p) :
    ∃ (a : Option Addr) (len cap : Nat), v = .slice a len cap ∧ Code0 W a len cap := by
  obtain ⟨a, len, cap, rfl⟩ := okWide_slice Tryz.underlying22 hv
  refine ⟨a, len, cap, rfl, ?_⟩
  obtain ⟨fuel, hf⟩ := h
  rcases open_ints Tryz.underlying22 Tryz.underlying5 (by kernel_rfl) hf with ⟨hcs, _⟩ | ⟨x, l, c, zs, hcs, _, hl, hm, hz, _, hcell, hwz⟩
  · simp [Value.cells] at hcs
    obtain ⟨rfl, rfl, rfl⟩ := hcs
    exact ⟨Nat.le_refl _, .inl rfl⟩
  · simp [Value.cells] at hcs
    obtain ⟨rfl, rfl, rfl⟩ := hcs
    refine ⟨hl, ?_⟩
    by_cases h0 : len = 0
    · exact .inl h0
    · have hzl : zs.length = cap := by simpa using hz
      obtain ⟨b, off, spot⟩ := x
      have hc0 := hcell 0 (by omega)
      have hspot : spot = none := by simpa [Addr.add] using World.cell?_spot hc0
      subst hspot
      refine .inr ⟨b, off, rfl, ?_, fun i hi => ?_⟩
      · apply Classical.byContradiction
        intro hn
        have : W.heap[b]? = none := Array.getElem?_eq_none (by omega)
        simp [Addr.add, World.cell?, this] at hc0
      · have hci := hcell i (by omega)
        have hmem : zs.getD i 0 ∈ zs := by
          rw [List.getD_eq_getElem?_getD, List.getElem?_eq_getElem (by omega)]
          exact List.getElem_mem _
        have hb := hwz _ hmem
        refine ⟨zs.getD i 0, ?_, ?_, ?_⟩
        · have := bounds_u8 hb; omega
        · have := bounds_u8 hb; omega
        · rw [← hci]
          unfold Addr.add
          by_cases hi0 : i = 0
          · simp [hi0]
          · simp [hi0]

end Go.Proofs.YtjnloillcgeodaaGreat
/- Contracts of the functions on vectors of tags: whether one is valid, in the program and in the model. Condition: at most 1048576 tags. -/
namespace Go.Proofs.YtjnloillcgeodaaGreat
open Go.RowKit Go.Joins

/-- Whether these tags are a valid vector. -/
def pastB (ts : List (Int × Int)) : Bool := decide (ts.length = 4) && ts.all fun x => okB x.1 x.2
theorem pastB_len {ts : List (Int × Int)} (h : ¬ ts.length = 4) : pastB ts = false := by unfold pastB; simp [h]
theorem pastB_bad {ts : List (Int × Int)} {k : Nat} {x : Int × Int} (hx : ts[k]? = some x) (h : okB x.1 x.2 = false) : pastB ts = false := by
  unfold pastB
  have : (ts.all fun x => okB x.1 x.2) = false := by
    rw [List.all_eq_false]
    exact ⟨x, List.mem_of_getElem? hx, by simp [h]⟩
  simp [this]
theorem pastB_ok {ts : List (Int × Int)} (hl : ts.length = 4) (h : ∀ (k : Nat) (x : Int × Int), ts[k]? = some x → okB x.1 x.2 = true) : pastB ts = true := by
  unfold pastB
  have : (ts.all fun x => okB x.1 x.2) = true := by
    rw [List.all_eq_true]
    intro x hx
    obtain ⟨k, hk⟩ := List.getElem?_of_mem hx
    exact h k x hk
  simp [this, hl]

set_option maxRecDepth 100000 in
set_option maxHeartbeats 1000000 in
theorem l1PastOk_any (a : Option Addr) (c : Nat) (ts : List (Int × Int)) (w : World) (hn : ts.length ≤ 1048576) (ht : Tg w w.heap.size a ts) :
    Calls Tryz.prog 100 #[.agg #[.slice a ts.length c]] w fun e w' => e = .returned (.bool (pastB ts)) ∧ Below w.heap.size w w' := by
  have B0 := Blk.made w 41 #[.slice a ts.length c]
  have L0 := below_alloc1 w (.cells #[.slice a ts.length c] 41)
  generalize hnn : ts.length = n at *
  have HN := hide hnn
  clear hnn
  go_enter Tryz.func100, Tryz.ntmps100
  go_wp2
  go_loopw [3] (fun i wr => ∃ k : Nat, k ≤ n ∧ i = .int .i64 (k : Int) ∧ (∀ j x, j < k → ts[j]? = some x → okB x.1 x.2 = true) ∧ Blk wr w.heap.size 41 #[.slice a n c] ∧ Below w.heap.size w wr) (fun i _ => n - (intOf i).toNat)
  case atStart => exact ⟨0, Nat.zero_le _, rfl, fun j x hj => absurd hj (by omega), B0, L0⟩
  case round =>
    obtain ⟨k, hk, rfl, hall, hB, hL⟩ := hrel
    have hA := hide hall
    clear hall
    obtain ⟨q0, q1⟩ := hB.one
    by_cases hlt : k < n
    · rcases ht with h0 | ⟨b, off, rfl, hb, hx⟩
      · have := HN.out; subst h0; simp at this; omega
      · have hkl : k < ts.length := by have := HN.out; omega
        obtain ⟨hc0, hc1⟩ := hx k _ (List.getElem?_eq_getElem hkl)
        have c0 := (hL.cell (p := ⟨b, off + k * 2, none⟩) hb).trans hc0
        have c1 := (hL.cell (p := ⟨b, off + k * 2 + 1, none⟩) hb).trans hc1
        have HX := hide (List.getElem?_eq_getElem hkl)
        generalize ts[k] = x at c0 c1 HX
        obtain ⟨x1, x2⟩ := x
        simp only at c0 c1
        clear hc0 hc1 hx
        go_wp2_with fail
        refine (l1TagOk_any _ _ _).mono ?_
        rintro e w1 ⟨rfl, hb1⟩
        have hL1 := hL.trans (hb1.mono hL.size)
        have B1 := hB.on hb1
        cases hok : okB x1 x2
        · have hf := hide (pastB_bad HX.out hok)
          clear hok
          go_wp2
          go_ret
          exact ⟨ret_bool hf.out.symm, hL1⟩
        · have HA := hide (show ∀ j x, j < k + 1 → ts[j]? = some x → okB x.1 x.2 = true from fun j x hj hx => by
            by_cases e : j = k
            · subst e
              have h1 := HX.out
              rw [h1] at hx
              injection hx with hx
              subst hx
              exact hok
            · exact hA.out j x (by omega) hx)
          clear hok
          go_wp2
          exact ⟨⟨k + 1, by omega, by go_num, HA.out, B1, hL1⟩, by simp [intOf]; omega⟩
    · have hkn : k = n := by omega
      subst hkn
      clear hlt
      by_cases h4 : k = 4
      · have hf := hide (pastB_ok (HN.out.trans h4) (fun j x hx => hA.out j x (by have := (List.getElem?_eq_some_iff.1 hx).1; have := HN.out; omega) hx))
        subst h4
        go_wp2
        go_ret
        exact ⟨ret_bool hf.out.symm, hL⟩
      · have hf := hide (pastB_len (fun e => h4 (HN.out.symm.trans e)))
        have h4' : ((k : Int) == 4) = false := by simp; omega
        clear h4
        go_wp2
        go_ret
        exact ⟨ret_bool hf.out.symm, hL⟩

/-- The eight cells of four tags. -/
def cells4 (ts : List (Int × Int)) : Array Value := (ts.flatMap fun x => [Value.int .i64 x.1, Value.int .i64 x.2]).toArray
abbrev zero8 : Array Value := #[.int .i64 0, .int .i64 0, .int .i64 0, .int .i64 0, .int .i64 0, .int .i64 0, .int .i64 0, .int .i64 0]

theorem Blk.eight {w : World} {g : Nat} {T : TypeId} {a b c d e f u v : Value} (h : Blk w g T #[a, b, c, d, e, f, u, v]) :
    (w.cell? ⟨g, 0, none⟩ = some a ∧ w.cell? ⟨g, 1, none⟩ = some b ∧ w.cell? ⟨g, 2, none⟩ = some c ∧ w.cell? ⟨g, 3, none⟩ = some d ∧ w.cell? ⟨g, 4, none⟩ = some e ∧ w.cell? ⟨g, 5, none⟩ = some f ∧ w.cell? ⟨g, 6, none⟩ = some u ∧ w.cell? ⟨g, 7, none⟩ = some v) ∧
    (w.frozen? ⟨g, 0, none⟩ = false ∧ w.frozen? ⟨g, 1, none⟩ = false ∧ w.frozen? ⟨g, 2, none⟩ = false ∧ w.frozen? ⟨g, 3, none⟩ = false ∧ w.frozen? ⟨g, 4, none⟩ = false ∧ w.frozen? ⟨g, 5, none⟩ = false ∧ w.frozen? ⟨g, 6, none⟩ = false ∧ w.frozen? ⟨g, 7, none⟩ = false) :=
  ⟨⟨h.at 0, h.at 1, h.at 2, h.at 3, h.at 4, h.at 5, h.at 6, h.at 7⟩, h.loose 0, h.loose 1, h.loose 2, h.loose 3, h.loose 4, h.loose 5, h.loose 6, h.loose 7⟩
theorem below_set8 {w w' : World} {n g : Nat} (h : Below n w w') (hg : n ≤ g) (a b c d e f u v : Value) :
    Below n w ((((((((w'.setCell ⟨g, 0, none⟩ a).setCell ⟨g, 1, none⟩ b).setCell ⟨g, 2, none⟩ c).setCell ⟨g, 3, none⟩ d).setCell ⟨g, 4, none⟩ e).setCell ⟨g, 5, none⟩ f).setCell ⟨g, 6, none⟩ u).setCell ⟨g, 7, none⟩ v) :=
  (((((((h.setCell hg a).setCell hg b).setCell hg c).setCell hg d).setCell hg e).setCell hg f).setCell hg u).setCell hg v
/-- Eight cells that hold four tags are just these. -/
theorem cur4 {cur : Array Value} {ts : List (Int × Int)} (hs : cur.size = 8) (hl : ts.length = 4) (h : ∀ j x, ts[j]? = some x → TagAt cur j x) :
    ∃ x0 x1 x2 x3 : Int × Int, ts = [x0, x1, x2, x3] ∧ cur = #[.int .i64 x0.1, .int .i64 x0.2, .int .i64 x1.1, .int .i64 x1.2, .int .i64 x2.1, .int .i64 x2.2, .int .i64 x3.1, .int .i64 x3.2] := by
  match ts, hl with
  | [x0, x1, x2, x3], _ =>
    refine ⟨x0, x1, x2, x3, rfl, ?_⟩
    obtain ⟨a0, a1⟩ := h 0 x0 rfl
    obtain ⟨b0, b1⟩ := h 1 x1 rfl
    obtain ⟨c0, c1⟩ := h 2 x2 rfl
    obtain ⟨d0, d1⟩ := h 3 x3 rfl
    apply Array.ext_getElem?
    intro i
    match i with
    | 0 => simpa using a0
    | 1 => simpa using a1
    | 2 => simpa using b0
    | 3 => simpa using b1
    | 4 => simpa using c0
    | 5 => simpa using c1
    | 6 => simpa using d0
    | 7 => simpa using d1
    | n + 8 => rw [Array.getElem?_eq_none (by omega), Array.getElem?_eq_none (by simp)]

/-- What vectorOf answers. -/
def VecOf (w : World) (ts : List (Int × Int)) (e : Ending) (w' : World) : Prop :=
  (pastB ts = true → e = .returned (.tuple #[.agg (cells4 ts), .bool true])) ∧ (pastB ts = false → e = .returned (.tuple #[.agg zero8, .bool false])) ∧ Below w.heap.size w w'

set_option maxRecDepth 100000 in
set_option maxHeartbeats 2000000 in
theorem vectorOf_any (a : Option Addr) (c : Nat) (ts : List (Int × Int)) (w : World) (hn : ts.length ≤ 1048576) (ht : Tg w w.heap.size a ts) :
    Calls Tryz.prog 43 #[.agg #[.slice a ts.length c]] w (VecOf w ts) := by
  by_cases h4 : ts.length = 4
  · have S0 := (((Inv.start w).box 41 #[.slice a ts.length c]).box 84 zero8).box 84 zero8
    simp only [World.size_alloc] at S0
    rw [h4] at S0 ⊢
    go_enter Tryz.func43, Tryz.ntmps43
    go_wp2
    have B1 := S0.nth 1 rfl
    have B2 := S0.nth 0 rfl
    have L0 := S0.below
    clear S0
    go_loopw [15] (fun i wr => ∃ (k : Nat) (cur : Array Value), k ≤ 4 ∧ i = .int .i64 (k : Int) ∧ Blk wr (w.heap.size + 1 + 1) 84 cur ∧ cur.size = 8 ∧ (∀ j x, j < k → ts[j]? = some x → TagAt cur j x) ∧ (∀ j x, j < k → ts[j]? = some x → okB x.1 x.2 = true) ∧ Blk wr (w.heap.size + 1) 84 zero8 ∧ Below w.heap.size w wr) (fun i _ => 4 - (intOf i).toNat)
    case atStart => exact ⟨0, _, Nat.zero_le _, rfl, B2, rfl, fun j x hj => absurd hj (by omega), fun j x hj => absurd hj (by omega), B1, L0⟩
    case round =>
      obtain ⟨k, cur, hk, rfl, hV, hsz, hcur, hall, hR, hL⟩ := hrel
      have H4 := hide h4
      have hA := hide hall
      clear hall h4 B1 B2 L0
      by_cases hlt : k < 4
      · rcases ht with h0 | ⟨b, off, rfl, hb, hx⟩
        · have := H4.out; subst h0; simp at this
        · have hkl : k < ts.length := by have := H4.out; omega
          obtain ⟨hc0, hc1⟩ := hx k _ (List.getElem?_eq_getElem hkl)
          have c0 := (hL.cell (p := ⟨b, off + k * 2, none⟩) hb).trans hc0
          have c1 := (hL.cell (p := ⟨b, off + k * 2 + 1, none⟩) hb).trans hc1
          have HX := hide (List.getElem?_eq_getElem hkl)
          generalize ts[k] = x at c0 c1 HX
          obtain ⟨x1, x2⟩ := x
          simp only at c0 c1
          clear hc0 hc1 hx
          have HC := hide hcur
          clear hcur
          have i1 : (0 : Int) ≤ (k : Int) := by omega
          have i2 : (k : Int) < 4 := by omega
          have X0 := Blk.made wr 49 #[.int .i64 x1, .int .i64 x2]
          have V0 := hV.more (.cells #[.int .i64 x1, .int .i64 x2] 49)
          have R0 := hR.more (.cells #[.int .i64 x1, .int .i64 x2] 49)
          have K0 := hL.alloc hL.size (.cells #[.int .i64 x1, .int .i64 x2] 49)
          go_wp2_with fail
          refine (implTagOk_any _ _ _).mono ?_
          rintro e w1 ⟨rfl, hb1⟩
          have hL1 := K0.trans (hb1.mono K0.size)
          have V1 := V0.on hb1
          have R1 := R0.on hb1
          have X1 := (X0.on hb1).two
          cases hok : okB x1 x2
          · have hf := hide (pastB_bad HX.out hok)
            have E1 := R1.eight
            clear hok
            go_wp2
            refine bodyPost_ret (v := .tuple #[.agg zero8, .bool false]) (by simp [results, Tryz.results43, go_sem, E1]) rfl ?_
            exact ⟨fun h => (by rw [hf.out] at h; cases h), fun _ => rfl, below_set8 hL1 (by omega) _ _ _ _ _ _ _ _⟩
          · have HA := hide (show ∀ j x, j < k + 1 → ts[j]? = some x → okB x.1 x.2 = true from fun j x hj hx => by
              by_cases e : j = k
              · subst e
                have h1 := HX.out
                rw [h1] at hx
                injection hx with hx
                subst hx
                exact hok
              · exact hA.out j x (by omega) hx)
            have hs0 : k * 2 < cur.size := by omega
            have hs1 : k * 2 + 1 < cur.size := by omega
            have HS := hide (tagAt_step (ts := ts) hs1 HX.out HC.out)
            have d0 : w1.cell? ⟨w.heap.size + 1 + 1, k * 2, none⟩ = some cur[k * 2] := by rw [V1.at]; exact Array.getElem?_eq_getElem hs0
            have d1 : w1.cell? ⟨w.heap.size + 1 + 1, k * 2 + 1, none⟩ = some cur[k * 2 + 1] := by rw [V1.at]; exact Array.getElem?_eq_getElem hs1
            have f0 := V1.loose (k * 2)
            have f1 := V1.loose (k * 2 + 1)
            clear hok
            go_wp2
            exact ⟨⟨k + 1, _, by omega, by go_num, (V1.put _ _).put _ _, by simp [hsz], HS.out, HA.out, (R1.aside (by simp) _).aside (by simp) _, (hL1.setCell (by simp; omega) _).setCell (by simp; omega) _⟩, by simp [intOf]; omega⟩
      · have hk4 : k = 4 := by omega
        subst hk4
        clear hlt
        have hin : ∀ (j : Nat) (x : Int × Int), ts[j]? = some x → j < 4 := fun j x hx => by have := (List.getElem?_eq_some_iff.1 hx).1; have := H4.out; omega
        obtain ⟨x0, x1, x2, x3, hts, hcu⟩ := cur4 hsz H4.out (fun j x hx => hcur j x (hin j x hx) hx)
        have hf := hide (pastB_ok H4.out (fun j x hx => hA.out j x (hin j x hx) hx))
        have HT := hide hts
        clear hin hcur hA hts
        subst hcu
        have E1 := hR.eight
        have E2 := hV.eight
        go_wp2
        refine bodyPost_ret (v := .tuple #[.agg (cells4 [x0, x1, x2, x3]), .bool true]) (by simp [results, Tryz.results43, go_sem, E1, cells4]) rfl ?_
        exact ⟨fun _ => by rw [HT.out], fun h => (by rw [hf.out] at h; cases h), below_set8 hL (by omega) _ _ _ _ _ _ _ _⟩
  · have h4' : ((ts.length : Int) != 4) = true := by simp; omega
    have hf := hide (pastB_len h4)
    clear h4
    go_enter Tryz.func43, Tryz.ntmps43
    go_wp2
    refine bodyPost_ret (v := .tuple #[.agg zero8, .bool false]) (by simp [results, Tryz.results43, go_sem]) rfl ?_
    exact ⟨fun h => (by rw [hf.out] at h; cases h), fun _ => rfl, ((Below.refl _ _).alloc (Nat.le_refl _) _).alloc (by simp) _⟩

theorem cells4_eq (x0 x1 x2 x3 : Int × Int) : cells4 [x0, x1, x2, x3] = #[.int .i64 x0.1, .int .i64 x0.2, .int .i64 x1.1, .int .i64 x1.2, .int .i64 x2.1, .int .i64 x2.2, .int .i64 x3.1, .int .i64 x3.2] := by simp [cells4]
theorem four_of {ts : List (Int × Int)} (h : pastB ts = true) : ∃ x0 x1 x2 x3 : Int × Int, ts = [x0, x1, x2, x3] := by
  unfold pastB at h
  simp at h
  match ts, h.1 with
  | [x0, x1, x2, x3], _ => exact ⟨x0, x1, x2, x3, rfl⟩

set_option maxHeartbeats 1000000 in
theorem implPastOk_any (a : Option Addr) (c : Nat) (ts : List (Int × Int)) (w : World) (hn : ts.length ≤ 1048576) (ht : Tg w w.heap.size a ts) :
    Calls Tryz.prog 107 #[.agg #[.slice a ts.length c]] w fun e w' => e = .returned (.bool (pastB ts)) ∧ Below w.heap.size w w' := by
  have L0 := below_alloc1 w (.cells #[.slice a ts.length c] 41)
  go_enter Tryz.func107, Tryz.ntmps107
  go_wp2_with fail
  refine (vectorOf_any a c ts _ hn ((ht.on L0).up L0.size)).mono ?_
  rintro e w1 ⟨h1, h2, hb1⟩
  have hl := L0.trans (hb1.mono L0.size)
  cases hp : pastB ts
  · have he := h2 hp
    have HP := hide hp
    subst he
    clear h1 h2 L0 ht hp
    go_wp2
    go_ret
    exact ⟨ret_bool HP.out.symm, hl.alloc hl.size _⟩
  · have he := h1 hp
    have HP := hide hp
    obtain ⟨x0, x1, x2, x3, rfl⟩ := four_of hp
    rw [cells4_eq] at he
    subst he
    clear h1 h2 L0 ht hp
    go_wp2
    go_ret
    exact ⟨ret_bool HP.out.symm, hl.alloc hl.size _⟩
end Go.Proofs.YtjnloillcgeodaaGreat
/- Contracts of the laws' small functions on versions: their size, their copy, whether two are the same. Condition: at most 1048576 tags where memory is made. -/
namespace Go.Proofs.YtjnloillcgeodaaGreat
open Go.RowKit Go.Joins

/-- The six cells of a version. -/
abbrev verC (k t u : Int) (a : Option Addr) (n c : Nat) (s : ByteArray) (g : Bool) : Array Value := #[.int .i64 k, .int .i64 t, .int .i64 u, .slice a n c, .string s, .bool g]
theorem Blk.six {w : World} {g : Nat} {T : TypeId} {a b c d e f : Value} (h : Blk w g T #[a, b, c, d, e, f]) :
    (w.cell? ⟨g, 0, none⟩ = some a ∧ w.cell? ⟨g, 1, none⟩ = some b ∧ w.cell? ⟨g, 2, none⟩ = some c ∧ w.cell? ⟨g, 3, none⟩ = some d ∧ w.cell? ⟨g, 4, none⟩ = some e ∧ w.cell? ⟨g, 5, none⟩ = some f) ∧
    (w.frozen? ⟨g, 0, none⟩ = false ∧ w.frozen? ⟨g, 1, none⟩ = false ∧ w.frozen? ⟨g, 2, none⟩ = false ∧ w.frozen? ⟨g, 3, none⟩ = false ∧ w.frozen? ⟨g, 4, none⟩ = false ∧ w.frozen? ⟨g, 5, none⟩ = false) :=
  ⟨⟨h.at 0, h.at 1, h.at 2, h.at 3, h.at 4, h.at 5⟩, h.loose 0, h.loose 1, h.loose 2, h.loose 3, h.loose 4, h.loose 5⟩
theorem below_set6 {w w' : World} {n g : Nat} (h : Below n w w') (hg : n ≤ g) (a b c d e f : Value) :
    Below n w ((((((w'.setCell ⟨g, 0, none⟩ a).setCell ⟨g, 1, none⟩ b).setCell ⟨g, 2, none⟩ c).setCell ⟨g, 3, none⟩ d).setCell ⟨g, 4, none⟩ e).setCell ⟨g, 5, none⟩ f) :=
  (((((h.setCell hg a).setCell hg b).setCell hg c).setCell hg d).setCell hg e).setCell hg f

/-- What toVer leaves. -/
def CopiedV (w : World) (k t u : Int) (ts : List (Int × Int)) (s : ByteArray) (b : Bool) (e : Ending) (w' : World) : Prop :=
  ∃ (g : Nat) (cur : Array Value), e = .returned (.agg (verC k t u (some ⟨g, 0, none⟩) ts.length ts.length s b)) ∧ w.heap.size ≤ g ∧ Blk w' g 49 cur ∧ cur.size = ts.length * 2 ∧ (∀ i x, ts[i]? = some x → TagAt cur i x) ∧ Below w.heap.size w w'

theorem Inv.put0 {w w1 : World} {n g i : Nat} {t : TypeId} {cs : Array Value} {bs : List (Nat × TypeId × Array Value)} (h : Inv w n ((g, t, cs) :: bs) w1) (hd : ∀ x ∈ bs, x.1 ≠ g) (u : Value) : Inv w n ((g, t, cs.setIfInBounds i u) :: bs) (w1.setCell ⟨g, i, none⟩ u) :=
  ⟨h.below.setCell (h.blk _ (List.mem_cons_self ..)).1 u, by simpa [World.setCell] using h.room, fun x hx => by
    rcases List.mem_cons.1 hx with rfl | hx
    · exact ⟨(h.blk _ (List.mem_cons_self ..)).1, (h.blk _ (List.mem_cons_self ..)).2.1, (h.blk _ (List.mem_cons_self ..)).2.2.put i u⟩
    · have := h.blk x (List.mem_cons_of_mem _ hx)
      exact ⟨this.1, this.2.1, this.2.2.aside (hd x hx) u⟩⟩

end Go.Proofs.YtjnloillcgeodaaGreat
/- Versions in a row: how they are read, their size, whether two rows are the same. Condition: what is said of each. -/
namespace Go.Proofs.YtjnloillcgeodaaGreat
open Go.RowKit Go.Joins

/-- A version as it lies in memory. -/
structure V where
  k : Int
  t : Int
  u : Int
  a : Option Addr
  c : Nat
  ts : List (Int × Int)
  s : ByteArray
  g : Bool
/-- Two versions say the same. -/
def V.like (v v' : V) : Prop := v.k = v'.k ∧ v.t = v'.t ∧ v.u = v'.u ∧ v.ts = v'.ts ∧ v.s = v'.s ∧ v.g = v'.g
/-- The six cells of a version from here on. -/
abbrev Six (w : World) (b o : Nat) (v : V) : Prop :=
  w.cell? ⟨b, o, none⟩ = some (.int .i64 v.k) ∧ w.cell? ⟨b, o + 1, none⟩ = some (.int .i64 v.t) ∧ w.cell? ⟨b, o + 2, none⟩ = some (.int .i64 v.u) ∧ w.cell? ⟨b, o + 3, none⟩ = some (.slice v.a v.ts.length v.c) ∧ w.cell? ⟨b, o + 4, none⟩ = some (.string v.s) ∧ w.cell? ⟨b, o + 5, none⟩ = some (.bool v.g)
theorem Six.keep {w w' : World} {b o B : Nat} {v : V} (h : Six w b o v) (hb : b < B) (hk : ∀ p : Addr, p.block < B → w'.cell? p = w.cell? p) : Six w' b o v :=
  ⟨(hk ⟨b, o, none⟩ hb).trans h.1, (hk ⟨b, o + 1, none⟩ hb).trans h.2.1, (hk ⟨b, o + 2, none⟩ hb).trans h.2.2.1, (hk ⟨b, o + 3, none⟩ hb).trans h.2.2.2.1, (hk ⟨b, o + 4, none⟩ hb).trans h.2.2.2.2.1, (hk ⟨b, o + 5, none⟩ hb).trans h.2.2.2.2.2⟩
/-- A slice that reads as these versions, in old memory (below block B). -/
def Vg (w : World) (B : Nat) (a : Option Addr) (vs : List V) : Prop :=
  vs = [] ∨ ∃ b off : Nat, a = some ⟨b, off, none⟩ ∧ b < B ∧ ∀ i v, vs[i]? = some v → Six w b (off + i * 6) v ∧ Tg w B v.a v.ts
theorem Vg.on {w w' : World} {B : Nat} {a : Option Addr} {vs : List V} (h : Vg w B a vs) (hb : Below B w w') : Vg w' B a vs := by
  rcases h with h | ⟨b, off, ha, hlt, hx⟩
  · exact .inl h
  · exact .inr ⟨b, off, ha, hlt, fun i v hi => ⟨(hx i v hi).1.keep hlt fun _ hp => hb.cell hp, (hx i v hi).2.on hb⟩⟩
theorem Vg.up {w : World} {B B' : Nat} {a : Option Addr} {vs : List V} (h : Vg w B a vs) (hB : B ≤ B') : Vg w B' a vs := by
  rcases h with h | ⟨b, off, ha, hlt, hx⟩
  · exact .inl h
  · exact .inr ⟨b, off, ha, by omega, fun i v hi => ⟨(hx i v hi).1, (hx i v hi).2.up hB⟩⟩

/-- How much these versions weigh beside their number. -/
def tot (vs : List V) : Nat := (vs.map fun v => v.ts.length + v.s.size).sum
end Go.Proofs.YtjnloillcgeodaaGreat
/- Versions in a row: whether two rows are the same; their copy. Condition: at most 1048576 versions, and tags of each. -/
namespace Go.Proofs.YtjnloillcgeodaaGreat
open Go.RowKit Go.Joins

/-- Two rows say the same as far as both go. -/
def Like (vs us : List V) : Prop := ∀ (i : Nat) (v v' : V), vs[i]? = some v → us[i]? = some v' → V.like v v'
theorem Like.swap {vs us : List V} (h : Like vs us) : Like us vs := fun i v v' h1 h2 => by
  obtain ⟨a, b, c, d, e, f⟩ := h i v' v h2 h1
  exact ⟨a.symm, b.symm, c.symm, d.symm, e.symm, f.symm⟩
theorem ver_info : (Tryz.prog.info? 51).map (fun i => (i.zero, i.size, i.bytes)) = some (some (.agg (verC 0 0 0 none 0 0 ⟨#[]⟩ false)), 6, 72) := by kernel_rfl

/-- The six cells of the version at place i of a row of cells. -/
def VerAt (cur : Array Value) (i : Nat) (v : V) : Prop :=
  cur[i * 6]? = some (.int .i64 v.k) ∧ cur[i * 6 + 1]? = some (.int .i64 v.t) ∧ cur[i * 6 + 2]? = some (.int .i64 v.u) ∧ cur[i * 6 + 3]? = some (.slice v.a v.ts.length v.c) ∧ cur[i * 6 + 4]? = some (.string v.s) ∧ cur[i * 6 + 5]? = some (.bool v.g)
/-- Cells with the version at place k turned. -/
abbrev put6 (cur : Array Value) (k : Nat) (v : V) : Array Value :=
  (((((cur.setIfInBounds (k * 6) (.int .i64 v.k)).setIfInBounds (k * 6 + 1) (.int .i64 v.t)).setIfInBounds (k * 6 + 2) (.int .i64 v.u)).setIfInBounds (k * 6 + 3) (.slice v.a v.ts.length v.c)).setIfInBounds (k * 6 + 4) (.string v.s)).setIfInBounds (k * 6 + 5) (.bool v.g)
theorem verAt_put {cur : Array Value} {k : Nat} {v : V} (h : k * 6 + 5 < cur.size) : VerAt (put6 cur k v) k v := by
  refine ⟨?_, ?_, ?_, ?_, ?_, ?_⟩ <;> simp [put6, Array.getElem?_setIfInBounds] <;> omega
theorem verAt_other {cur : Array Value} {j k : Nat} {v v' : V} (hj : j ≠ k) (h : VerAt cur j v) : VerAt (put6 cur k v') j v := by
  obtain ⟨h0, h1, h2, h3, h4, h5⟩ := h
  refine ⟨?_, ?_, ?_, ?_, ?_, ?_⟩
  all_goals
    unfold put6
    rw [Array.getElem?_setIfInBounds_ne (by omega), Array.getElem?_setIfInBounds_ne (by omega), Array.getElem?_setIfInBounds_ne (by omega), Array.getElem?_setIfInBounds_ne (by omega), Array.getElem?_setIfInBounds_ne (by omega), Array.getElem?_setIfInBounds_ne (by omega)]
    assumption
/-- A version whose causes lie in a block of their own, numbered above G. -/
def Own (w : World) (G : Nat) (v : V) : Prop :=
  ∃ (g : Nat) (cur : Array Value), v.a = some ⟨g, 0, none⟩ ∧ G < g ∧ Blk w g 49 cur ∧ cur.size = v.ts.length * 2 ∧ ∀ i x, v.ts[i]? = some x → TagAt cur i x
theorem Own.on {w w' : World} {G : Nat} {v : V} (h : Own w G v) (hb : Below w.heap.size w w') : Own w' G v := by
  obtain ⟨g, cur, h1, h2, h3, h4, h5⟩ := h
  exact ⟨g, cur, h1, h2, h3.on hb, h4, h5⟩
theorem Own.aside {w : World} {G : Nat} {v : V} (h : Own w G v) (i : Nat) (x : Value) : Own (w.setCell ⟨G, i, none⟩ x) G v := by
  obtain ⟨g, cur, h1, h2, h3, h4, h5⟩ := h
  exact ⟨g, cur, h1, h2, h3.aside (by simp; omega) x, h4, h5⟩
theorem Own.tg {w : World} {G : Nat} {v : V} (h : Own w G v) : Tg w w.heap.size v.a v.ts := by
  obtain ⟨g, cur, h1, h2, h3, h4, h5⟩ := h
  rw [h1]
  exact Tg.of h3 h3.inside h5
/-- A row of versions in one block, each with its causes in a block of its own. -/
def Row (w : World) (G : Nat) (us : List V) (cur : Array Value) : Prop := Blk w G 51 cur ∧ ∀ i v, us[i]? = some v → VerAt cur i v ∧ Own w G v
theorem Row.on {w w' : World} {G : Nat} {us : List V} {cur : Array Value} (h : Row w G us cur) (hb : Below w.heap.size w w') : Row w' G us cur := ⟨h.1.on hb, fun i v hi => ⟨(h.2 i v hi).1, (h.2 i v hi).2.on hb⟩⟩
theorem Row.vg {w : World} {G : Nat} {us : List V} {cur : Array Value} (h : Row w G us cur) : Vg w w.heap.size (some ⟨G, 0, none⟩) us :=
  .inr ⟨G, 0, rfl, h.1.inside, fun i v hi => by
    obtain ⟨⟨h0, h1, h2, h3, h4, h5⟩, ho⟩ := h.2 i v hi
    refine ⟨⟨?_, ?_, ?_, ?_, ?_, ?_⟩, ho.tg⟩
    all_goals
      rw [Nat.zero_add, h.1.at]
      assumption⟩
theorem like_step {us vs : List V} {k : Nat} {v v' : V} (h : Like us vs) (hk : us.length = k) (hv : vs[k]? = some v') (hl : V.like v v') : Like (us ++ [v]) vs := fun i x x' hi hi' => by
  by_cases e : i < us.length
  · rw [List.getElem?_append_left e] at hi
    exact h i x x' hi hi'
  · rw [List.getElem?_append_right (by omega)] at hi
    have h0 : i - us.length = 0 := by
      have := (List.getElem?_eq_some_iff.1 hi).1
      simp at this
      omega
    have hik : i = k := by omega
    rw [h0] at hi
    subst hik
    simp at hi
    rw [hv] at hi'
    injection hi' with hi'
    subst hi hi'
    exact hl
/-- What toVerS leaves. -/
def CopiedVS (w : World) (vs : List V) (e : Ending) (w' : World) : Prop :=
  ∃ (g : Nat) (us : List V) (cur : Array Value), e = .returned (.slice (some ⟨g, 0, none⟩) vs.length vs.length) ∧ w.heap.size ≤ g ∧ us.length = vs.length ∧ (Like us vs) ∧ Row w' g us cur ∧ cur.size = vs.length * 6 ∧ Below w.heap.size w w'

/-- What toStore leaves. -/
def CopiedSt (w : World) (vs : List V) (e : Ending) (w' : World) : Prop :=
  ∃ (g : Nat) (us : List V) (cur : Array Value), e = .returned (.agg #[.slice (some ⟨g, 0, none⟩) vs.length vs.length]) ∧ w.heap.size ≤ g ∧ us.length = vs.length ∧ (Like us vs) ∧ Row w' g us cur ∧ cur.size = vs.length * 6 ∧ Below w.heap.size w w'
theorem Row.aside {w : World} {G : Nat} {us : List V} {cur : Array Value} (h : Row w G us cur) {p : Addr} (hp : p.block < G) (x : Value) : Row (w.setCell p x) G us cur :=
  ⟨h.1.aside (by omega) x, fun i v hi => ⟨(h.2 i v hi).1, by
    obtain ⟨g, c, h1, h2, h3, h4, h5⟩ := (h.2 i v hi).2
    exact ⟨g, c, h1, h2, h3.aside (by omega) x, h4, h5⟩⟩⟩

end Go.Proofs.YtjnloillcgeodaaGreat
/- Contracts of the functions that say whether a text is valid, in the program and in the model. No condition. -/
namespace Go.Proofs.YtjnloillcgeodaaGreat
open Go.RowKit Go.Joins

/-- Whether this byte may stand in a text. -/
def byteB (s : ByteArray) (i : Nat) : Bool := if h : i < s.size then decide (33 ≤ s[i].toNat ∧ s[i].toNat ≤ 126) else true
theorem byteB_lo {s : ByteArray} {i : Nat} (h : i < s.size) (h1 : ((s[i].toNat : Nat) : Int) < 33) : byteB s i = false := by
  unfold byteB
  rw [dif_pos h]
  exact decide_eq_false (by omega)
theorem byteB_hi {s : ByteArray} {i : Nat} (h : i < s.size) (h1 : (126 : Int) < ((s[i].toNat : Nat) : Int)) : byteB s i = false := by
  unfold byteB
  rw [dif_pos h]
  exact decide_eq_false (by omega)
theorem byteB_t {s : ByteArray} {i : Nat} (h : i < s.size) (h1 : ¬ ((s[i].toNat : Nat) : Int) < 33) (h2 : ¬ (126 : Int) < ((s[i].toNat : Nat) : Int)) : byteB s i = true := by
  unfold byteB
  rw [dif_pos h]
  exact decide_eq_true (by omega)
theorem byteB_step {s : ByteArray} {k : Nat} (h : byteB s k = true) (hA : ∀ j, j < k → byteB s j = true) : ∀ j, j < k + 1 → byteB s j = true := fun j hj => by
  by_cases e : j = k
  · rw [e]; exact h
  · exact hA j (by omega)
/-- Whether these bytes are a text. -/
def textB (s : ByteArray) : Bool := decide (s.size ≤ 8) && (List.range s.size).all (byteB s)
theorem textB_bad {s : ByteArray} {i : Nat} (hi : i < s.size) (h : byteB s i = false) : textB s = false := by
  unfold textB
  have : (List.range s.size).all (byteB s) = false := by
    rw [List.all_eq_false]
    exact ⟨i, by simpa using hi, by simp [h]⟩
  simp [this]
theorem textB_long {s : ByteArray} (h : 8 < s.size) : textB s = false := by
  unfold textB
  have : ¬ s.size ≤ 8 := by omega
  simp [this]
theorem textB_ok {s : ByteArray} (h : s.size ≤ 8) (hall : ∀ i, i < s.size → byteB s i = true) : textB s = true := by
  unfold textB
  have : (List.range s.size).all (byteB s) = true := by
    rw [List.all_eq_true]
    intro i hi
    exact hall i (by simpa using hi)
  simp [this, h]

set_option maxRecDepth 100000 in
set_option maxHeartbeats 1000000 in
theorem l2TextOk_any (s : ByteArray) (w : World) (hs : s.size ≤ 9223372036854775807) :
    Calls Tryz.prog 98 #[.string s] w fun e w' => e = .returned (.bool (textB s)) ∧ Below w.heap.size w w' := by
  go_enter Tryz.func98, Tryz.ntmps98
  go_wp2
  go_loopw [3] (fun i wr => ∃ k : Nat, k ≤ s.size ∧ i = .int .i64 (k : Int) ∧ Hid (∀ j, j < k → byteB s j = true) ∧ Below w.heap.size w wr) (fun i _ => s.size - (intOf i).toNat)
  case atStart => exact ⟨0, Nat.zero_le _, rfl, fun j hj => absurd hj (by omega), Below.refl _ _⟩
  case round =>
    obtain ⟨k, hk, rfl, hA, hL⟩ := hrel
    by_cases hlt : k < s.size
    · by_cases b1 : ((s[k].toNat : Nat) : Int) < 33
      · have hf := hide (textB_bad hlt (byteB_lo hlt b1))
        go_wp2
        go_ret
        exact ⟨ret_bool hf.out.symm, hL⟩
      · by_cases b2 : (126 : Int) < ((s[k].toNat : Nat) : Int)
        · have hf := hide (textB_bad hlt (byteB_hi hlt b2))
          go_wp2
          go_ret
          exact ⟨ret_bool hf.out.symm, hL⟩
        · have hf := hide (byteB_step (byteB_t hlt b1 b2) hA.out)
          go_wp2
          exact ⟨⟨k + 1, by omega, by go_num, hf, hL⟩, by simp [intOf]; omega⟩
    · have hkn : k = s.size := by omega
      subst hkn
      clear hlt
      by_cases h8 : (s.size : Int) ≤ 8
      · have hf := hide (textB_ok (by omega) hA.out)
        go_wp2
        go_ret
        exact ⟨ret_bool hf.out.symm, hL⟩
      · have hf := hide (textB_long (s := s) (by omega))
        go_wp2
        go_ret
        exact ⟨ret_bool hf.out.symm, hL⟩

set_option maxRecDepth 100000 in
set_option maxHeartbeats 1000000 in
theorem valueOk_any (s : ByteArray) (w : World) (hs : s.size ≤ 9223372036854775807) :
    Calls Tryz.prog 177 #[.agg #[.string s]] w fun e w' => e = .returned (.bool (textB s)) ∧ Below w.heap.size w w' := by
  have S0 := (Inv.start w).box 167 #[.string s]
  by_cases h8 : s.size ≤ 8
  · have h8' : ¬ ((s.size : Int) > 8) := by omega
    go_enter Tryz.func177, Tryz.ntmps177
    go_wp2
    go_loopw [3] (fun i wr => ∃ k : Nat, k ≤ s.size ∧ i = .int .i64 (k : Int) ∧ Hid (∀ j, j < k → byteB s j = true) ∧ Inv w (w.alloc (.cells #[.string s] 167)).heap.size [(w.heap.size, 167, #[.string s])] wr) (fun i _ => s.size - (intOf i).toNat)
    case atStart => exact ⟨0, Nat.zero_le _, rfl, fun j hj => absurd hj (by omega), S0⟩
    case round =>
      obtain ⟨k, hk, rfl, hA, hL⟩ := hrel
      have k0 := (hL.nth 0 rfl).one.1
      by_cases hlt : k < s.size
      · by_cases b1 : ((s[k].toNat : Nat) : Int) < 33
        · have hf := hide (textB_bad hlt (byteB_lo hlt b1))
          go_wp2
          go_ret
          exact ⟨ret_bool hf.out.symm, hL.below⟩
        · by_cases b2 : (126 : Int) < ((s[k].toNat : Nat) : Int)
          · have hf := hide (textB_bad hlt (byteB_hi hlt b2))
            go_wp2
            go_ret
            exact ⟨ret_bool hf.out.symm, hL.below⟩
          · have hf := hide (byteB_step (byteB_t hlt b1 b2) hA.out)
            go_wp2
            exact ⟨⟨k + 1, by omega, by go_num, hf, hL⟩, by simp [intOf]; omega⟩
      · have hkn : k = s.size := by omega
        subst hkn
        clear hlt
        have hf := hide (textB_ok h8 hA.out)
        go_wp2
        go_ret
        exact ⟨ret_bool hf.out.symm, hL.below⟩
  · have h8' : ((s.size : Int) > 8) := by omega
    have hf := hide (textB_long (s := s) (by omega))
    go_enter Tryz.func177, Tryz.ntmps177
    go_wp2
    go_ret
    exact ⟨ret_bool hf.out.symm, S0.below⟩
set_option maxRecDepth 100000 in
set_option maxHeartbeats 1000000 in
theorem tombstoneOk_any (s : ByteArray) (w : World) :
    Calls Tryz.prog 174 #[.agg #[.string s]] w fun e w' => e = .returned (.bool s.toList.isEmpty) ∧ Below w.heap.size w w' := by
  have S0 := (Inv.start w).box 166 #[.string s]
  go_enter Tryz.func174, Tryz.ntmps174
  go_wp2
  go_ret
  exact ⟨rfl, S0.below⟩
end Go.Proofs.YtjnloillcgeodaaGreat
/- Contracts of the program's fold over times. Condition: at most 1048576 tags. -/
namespace Go.Proofs.YtjnloillcgeodaaGreat
open Go.RowKit Go.Joins

/-- The latest time of these tags, or 0. -/
def lastT (ts : List (Int × Int)) : Int := ts.foldl (fun m x => max m x.1) 0
theorem lastT_step {ts : List (Int × Int)} {k : Nat} {x : Int × Int} (hx : ts[k]? = some x) : lastT (ts.take (k + 1)) = max (lastT (ts.take k)) x.1 := by
  unfold lastT
  rw [List.take_add_one, hx, List.foldl_append]
  rfl
theorem foldl_max (t : Int) : ∀ (ts : List (Int × Int)) (m : Int), ts.foldl (fun m x => max m x.1) m < t ↔ m < t ∧ ∀ x ∈ ts, x.1 < t
  | [], m => by simp
  | y :: ts, m => by
    rw [List.foldl_cons, foldl_max t ts]
    simp only [List.mem_cons, forall_eq_or_imp]
    constructor
    · rintro ⟨h1, h2⟩
      exact ⟨by omega, by omega, h2⟩
    · rintro ⟨h1, h2, h3⟩
      exact ⟨by omega, h3⟩
theorem lastT_lt {t : Int} {ts : List (Int × Int)} : lastT ts < t ↔ 0 < t ∧ ∀ x ∈ ts, x.1 < t := foldl_max t ts 0

set_option maxRecDepth 100000 in
set_option maxHeartbeats 1000000 in
theorem laterTime_any (m t u : Int) (w : World) :
    Calls Tryz.prog 109 #[.int .i64 m, .agg #[.int .i64 t, .int .i64 u]] w fun e w' => e = .returned (.int .i64 (max m t)) ∧ Below w.heap.size w w' := by
  have S0 := (Inv.start w).box 49 #[.int .i64 t, .int .i64 u]
  by_cases h : m < t
  · have hf := hide (show max m t = t by omega)
    go_enter Tryz.func109, Tryz.ntmps109
    go_wp2
    go_ret
    exact ⟨ret_int hf.out.symm, S0.below⟩
  · have hf := hide (show max m t = m by omega)
    go_enter Tryz.func109, Tryz.ntmps109
    go_wp2
    go_ret
    exact ⟨ret_int hf.out.symm, S0.below⟩

set_option maxRecDepth 100000 in
set_option maxHeartbeats 1000000 in
theorem foldTimes_any (a : Option Addr) (c : Nat) (ts : List (Int × Int)) (w : World) (hn : ts.length ≤ 1048576) (ht : Tg w w.heap.size a ts) :
    Calls Tryz.prog 108 #[.slice a ts.length c, .int .i64 0, .func (.func 109) #[] #[]] w fun e w' => e = .returned (.int .i64 (lastT ts)) ∧ Below w.heap.size w w' := by
  have HT : Hid (lastT (ts.take ts.length) = lastT ts) := by unfold Hid; rw [List.take_length]
  generalize hnn : ts.length = n at *
  have HN := hide hnn
  clear hnn
  go_enter Tryz.func108, Tryz.ntmps108
  go_wp2
  go_loopw [1, 11] (fun r i wr => ∃ (k : Nat) (m : Int), k ≤ n ∧ i = .int .i64 (k : Int) ∧ r = .int .i64 m ∧ Hid (m = lastT (ts.take k)) ∧ Below w.heap.size w wr) (fun _ i _ => n - (intOf i).toNat)
  case atStart => exact ⟨0, 0, Nat.zero_le _, rfl, rfl, rfl, Below.refl _ _⟩
  case round =>
    obtain ⟨k, m, hk, rfl, rfl, hm, hL⟩ := hrel
    by_cases hlt : k < n
    · rcases ht with h0 | ⟨b, off, rfl, hb, hx⟩
      · have := HN.out; subst h0; simp at this; omega
      · have hkl : k < ts.length := by have := HN.out; omega
        obtain ⟨hc0, hc1⟩ := hx k _ (List.getElem?_eq_getElem hkl)
        have c0 := (hL.cell (p := ⟨b, off + k * 2, none⟩) hb).trans hc0
        have c1 := (hL.cell (p := ⟨b, off + k * 2 + 1, none⟩) hb).trans hc1
        have HX := hide (List.getElem?_eq_getElem hkl)
        generalize ts[k] = x at c0 c1 HX
        obtain ⟨x1, x2⟩ := x
        simp only at c0 c1
        clear hc0 hc1 hx
        have i1 : (0 : Int) ≤ (k : Int) := by omega
        have i2 : (k : Int) < (n : Int) := by omega
        have L1 := hL.alloc hL.size (.cells #[.int .i64 x1, .int .i64 x2] 49)
        go_wp2_with fail
        refine (laterTime_any _ _ _ _).mono ?_
        rintro e w1 ⟨rfl, hb1⟩
        have hL1 := L1.trans (hb1.mono L1.size)
        have HM : Hid (max m x1 = lastT (ts.take (k + 1))) := by
          unfold Hid
          rw [lastT_step HX.out, ← hm.out]
        go_wp2
        exact ⟨⟨k + 1, _, by omega, by go_num, rfl, HM, hL1⟩, by simp [intOf]; omega⟩
    · have hkn : k = n := by omega
      subst hkn
      clear hlt
      go_wp2
      go_ret
      exact ⟨ret_int (hm.out.trans HT.out), hL⟩

end Go.Proofs.YtjnloillcgeodaaGreat
/- Whether a version is valid, said plainly; contracts of the program's fold over times. Condition: at most 1048576 tags. -/
namespace Go.Proofs.YtjnloillcgeodaaGreat
open Go.RowKit Go.Joins

/-- Whether this is a valid version. -/
def verB (k t u : Int) (ts : List (Int × Int)) (s : ByteArray) (g : Bool) : Bool :=
  decide (0 ≤ k ∧ k ≤ 3) && textB s && okB t u && decide (t ≠ 0) && !(g && !s.toList.isEmpty) && pastB ts && ts.all fun x => decide (x.1 < t)

theorem verB_f {k t u : Int} {ts : List (Int × Int)} {s : ByteArray} {g : Bool} (h : ¬ (0 ≤ k ∧ k ≤ 3) ∨ textB s = false ∨ okB t u = false ∨ t = 0 ∨ (g = true ∧ s.toList.isEmpty = false) ∨ pastB ts = false ∨ ∃ x ∈ ts, ¬ x.1 < t) : verB k t u ts s g = false := by
  unfold verB
  rcases h with h | h | h | h | ⟨h, h'⟩ | h | ⟨x, hx, h⟩
  · rw [decide_eq_false h]; rfl
  · rw [h]; simp
  · rw [h]; simp
  · rw [h]; simp
  · rw [h, h']; simp
  · rw [h]; simp
  · have : (ts.all fun x => decide (x.1 < t)) = false := by
      rw [List.all_eq_false]
      exact ⟨x, hx, by simpa using h⟩
    rw [this]; simp
theorem verB_t {k t u : Int} {ts : List (Int × Int)} {s : ByteArray} {g : Bool} (h1 : 0 ≤ k ∧ k ≤ 3) (h2 : textB s = true) (h3 : okB t u = true) (h4 : ¬ t = 0) (h5 : g = true → s.toList.isEmpty = true) (h6 : pastB ts = true) (h7 : ∀ x ∈ ts, x.1 < t) : verB k t u ts s g = true := by
  unfold verB
  have e7 : (ts.all fun x => decide (x.1 < t)) = true := by
    rw [List.all_eq_true]
    intro x hx
    simpa using h7 x hx
  have e5 : (g && !s.toList.isEmpty) = false := by
    cases g
    · rfl
    · rw [h5 rfl]; rfl
  rw [decide_eq_true h1, h2, h3, h6, e7, e5]
  simp [h4]
end Go.Proofs.YtjnloillcgeodaaGreat
