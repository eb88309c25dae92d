/- Contracts of the reader of a code (spec.l20Rd): what it draws is within bounds, whatever the code. Condition: the code has at most 2000 bytes, as spec.l20Open leaves it. -/
import Derived.Test.YtdkpikemlpfepaaDoorProg
import Derived.Test.YtdkpikemlpfepaaDoorWorld
import Derived.WalkLawsBesides
import Derived.Deep.QuietTactic
import Derived.BigQuiet
import Derived.Deep.DeepCutAuto
import Derived.Laws.BitsAllLaws
import Derived.Laws.BitsLemmas
import Derived.IntWalk
namespace Go.Proofs.YtdkpikemlpfepaaDoor
open Go.RowKit Go.Joins

/-- A slice of bytes that can be read: below block n, in another block than g. -/
def Bytes (w : World) (g : Nat) (a : Option Addr) (len : Nat) : Prop :=
  len = 0 ∨ ∃ b off : Nat, a = some ⟨b, off, none⟩ ∧ b ≠ g ∧ b < w.heap.size ∧ ∀ i : Nat, i < len → ∃ x : Int, 0 ≤ x ∧ x ≤ 255 ∧ w.cell? ⟨b, off + i, none⟩ = some (.int .u8 x)

/-- The reader in block g, over these bytes, has drawn at most m times. -/
structure Rd (w : World) (g : Nat) (a : Option Addr) (len cap m : Nat) : Prop where
  blk : ∃ p : Int, 0 ≤ p ∧ p ≤ m ∧ Blk w g 53 #[.slice a len cap, .int .i64 p]
  most : m ≤ 1000000
  short : len ≤ 2000
  fits : len ≤ cap
  bytes : Bytes w g a len

theorem Bytes.kept {w w' : World} {g : Nat} {a : Option Addr} {len : Nat} (h : Bytes w g a len) (hb : w.grownBy w' (some g)) : Bytes w' g a len := by
  rcases h with h | ⟨b, off, ha, hne, hlt, hx⟩
  · exact .inl h
  · refine .inr ⟨b, off, ha, hne, Nat.lt_of_lt_of_le hlt hb.size, fun i hi => ?_⟩
    obtain ⟨x, h0, h1, hc⟩ := hx i hi
    exact ⟨x, h0, h1, (World.cell?_of_block (hb.block b hlt (fun e => hne (by injection e)))).trans hc⟩
theorem Rd.more {w : World} {g : Nat} {a : Option Addr} {len cap m : Nat} (h : Rd w g a len cap m) (k : Nat) (hk : m ≤ k) (h1 : k ≤ 1000000) : Rd w g a len cap k := by
  obtain ⟨⟨p, h0, hp, hb⟩, _, h2, h3, h4⟩ := h
  exact ⟨⟨p, h0, by omega, hb⟩, h1, h2, h3, h4⟩

/-- What a draw leaves: an integer from 0 to n - 1 (0 where there is no choice); the reader went on by at most d. -/
def Drawn (w : World) (g : Nat) (a : Option Addr) (len cap m : Nat) (d : Nat) (P : Int → Prop) (e : Ending) (w' : World) : Prop :=
  ∃ x : Int, P x ∧ e = .returned (.int .i64 x) ∧ w.grownBy w' (some g) ∧ Rd w' g a len cap (m + d)

def PickOk (n x : Int) : Prop := 0 ≤ x ∧ (1 ≤ n → x < n)

theorem ofInt_small (a : Nat) (ha : a < 9223372036854775808) : (BitVec.ofInt 64 (a : Int)).toNat = a := by
  rw [BitVec.ofInt_natCast, BitVec.toNat_ofNat]
  exact Nat.mod_eq_of_lt (by omega)
theorem xor_fits (x : Int) (h0 : 0 ≤ x) (h1 : x ≤ 1000000000) : 0 ≤ bits .xor .i64 x (x / 64) ∧ bits .xor .i64 x (x / 64) ≤ 4294967296 := by
  obtain ⟨n, rfl⟩ := Int.eq_ofNat_of_zero_le h0
  have e : (n : Int) / 64 = ((n / 64 : Nat) : Int) := by omega
  rw [e]
  have hx : n ^^^ (n / 64) < 2 ^ 32 := Nat.xor_lt_two_pow (by omega) (by omega)
  have hb : bits .xor .i64 (n : Int) ((n / 64 : Nat) : Int) = ((n ^^^ (n / 64) : Nat) : Int) := by
    show IntKind.i64.wrap ((BitVec.ofInt 64 (n : Int) ^^^ BitVec.ofInt 64 ((n / 64 : Nat) : Int)).toNat : Int) = _
    rw [BitVec.toNat_xor, ofInt_small n (by omega), ofInt_small (n / 64) (by omega), IntKind.wrap_i64]
    omega
  rw [hb]
  omega

set_option maxRecDepth 100000 in
set_option maxHeartbeats 1000000 in
theorem pick_any (w : World) (g : Nat) (a : Option Addr) (len cap m : Nat) (n : Int) (h : Rd w g a len cap m) (hm : m + 1 ≤ 1000000) (hn : n ≤ 1000000) :
    Calls Tryd.prog 24 #[.pointer (some ⟨g, 0, none⟩), .int .i64 n] w (Drawn w g a len cap m 1 (PickOk n)) := by
  obtain ⟨⟨p, hp0, hp1, hB⟩, _, hl, hlc, hby⟩ := h
  obtain ⟨k0, k1, k2, k3⟩ := hB.two
  have fin : ∀ (q : Nat) (x : Int), PickOk n x → Drawn w g a len cap m 1 (PickOk n) (.returned (.int .i64 x)) ((w.setCell ⟨g, 1, none⟩ (.int .i64 (p + 1))).drewN q) := by
    intro q x hx
    have hg : w.grownBy ((w.setCell ⟨g, 1, none⟩ (.int .i64 (p + 1))).drewN q) (some g) := ⟨rfl, rfl, rfl, by simp [World.setCell], fun i _ hne => Below.heap_setCell _ _ _ _ (by rintro rfl; exact hne rfl)⟩
    exact ⟨x, hx, rfl, hg, ⟨⟨p + 1, by omega, by push_cast; omega, hB.put 1 _⟩, hm, hl, hlc, hby.kept hg⟩⟩
  by_cases hn1 : n < 1
  · go_enter Tryd.func24, Tryd.ntmps24
    go_wp2
    go_ret
    exact fin 0 0 ⟨by omega, by omega⟩
  · by_cases hl0 : len = 0
    · subst hl0
      go_enter Tryd.func24, Tryd.ntmps24
      go_wp2
      go_ret
      exact fin 0 0 ⟨by omega, by omega⟩
    · rcases hby with h | ⟨b, off, rfl, hne, hlt, hx⟩
      · exact absurd h hl0
      · by_cases hk : p < len
        · obtain ⟨pn, rfl⟩ := Int.eq_ofNat_of_zero_le hp0
          obtain ⟨x, hx0, hx1, hc⟩ := hx pn (by omega)
          have hlb : ((len : Int) == 0) = false := by simp; omega
          go_enter Tryd.func24, Tryd.ntmps24
          go_wp2
          go_ret
          exact fin 0 _ ⟨Int.emod_nonneg _ (by omega), fun _ => Int.emod_lt_of_pos _ (by omega)⟩
        · obtain ⟨pn, rfl⟩ := Int.eq_ofNat_of_zero_le hp0
          have hlp : 0 < len := by omega
          obtain ⟨x, hx0, hx1, hc⟩ := hx (pn % len) (Nat.mod_lt _ hlp)
          obtain ⟨y, hy0, hy1, hd⟩ := hx ((pn * 7 + 3) % len) (Nat.mod_lt _ hlp)
          have hlb : ((len : Int) == 0) = false := by simp; omega
          go_enter Tryd.func24, Tryd.ntmps24
          go_upto_region 7 with (fail)
          go_cut [6] (fun s wx => ∃ z : Int, 0 ≤ z ∧ z ≤ 1000000000 ∧ s = .int .i64 z ∧ ∃ q, wx = (w.setCell ⟨g, 1, none⟩ (.int .i64 ((pn : Int) + 1))).drewN q)
          case first =>
            have c0 : (w.setCell ⟨g, 1, none⟩ (.int .i64 ((pn : Int) + 1))).cell? ⟨g, 0, none⟩ = some (.slice (some ⟨b, off, none⟩) len cap) := (hB.put 1 _).at 0
            have c1 : (w.setCell ⟨g, 1, none⟩ (.int .i64 ((pn : Int) + 1))).cell? ⟨b, off + pn % len, none⟩ = some (.int .u8 x) := by
              rw [World.cell?_setCell_other _ _ _ _ (by intro e; injection e with e1; exact hne e1.symm)]; exact hc
            have c2 : (w.setCell ⟨g, 1, none⟩ (.int .i64 ((pn : Int) + 1))).cell? ⟨b, off + (pn * 7 + 3) % len, none⟩ = some (.int .u8 y) := by
              rw [World.cell?_setCell_other _ _ _ _ (by intro e; injection e with e1; exact hne e1.symm)]; exact hd
            generalize hW : w.setCell ⟨g, 1, none⟩ (.int .i64 ((pn : Int) + 1)) = W at c0 c1 c2 ⊢
            have HW := hide hW
            clear hW
            clear k0 k1 k2 k3 hc hd hx fin hB
            have i1 : 0 ≤ (pn : Int) % (len : Int) := Int.emod_nonneg _ (by omega)
            have i2 : (pn : Int) % (len : Int) < (len : Int) := Int.emod_lt_of_pos _ (by omega)
            have i3 : 0 ≤ ((pn : Int) * 7 + 3) % (len : Int) := Int.emod_nonneg _ (by omega)
            have i4 : ((pn : Int) * 7 + 3) % (len : Int) < (len : Int) := Int.emod_lt_of_pos _ (by omega)
            have i5 : ((pn : Int) % (len : Int)).toNat = pn % len := by
              have e : (pn : Int) % (len : Int) = ((pn % len : Nat) : Int) := by push_cast; rfl
              rw [e]; exact Int.toNat_natCast _
            have i6 : (((pn : Int) * 7 + 3) % (len : Int)).toNat = (pn * 7 + 3) % len := by
              have e : ((pn : Int) * 7 + 3) % (len : Int) = (((pn * 7 + 3) % len : Nat) : Int) := by push_cast; rfl
              rw [e]; exact Int.toNat_natCast _
            have i7 : 0 ≤ (pn : Int) / (len : Int) := Int.ediv_nonneg (by omega) (by omega)
            have i8 : (pn : Int) / (len : Int) ≤ (pn : Int) := Int.ediv_le_self _ (by omega)
            go_quiet (fail)
            go_wp2_with fail
            go_meet
            exact ⟨_, by omega, by omega, rfl, nq, by rw [HW.out]⟩
          case rest =>
            obtain ⟨z, hz0, hz1, rfl, q, rfl⟩ := hcut
            obtain ⟨hf0, hf1⟩ := xor_fits z hz0 hz1
            go_wp2
            go_ret
            exact fin q _ ⟨Int.emod_nonneg _ (by omega), fun _ => Int.emod_lt_of_pos _ (by omega)⟩
end Go.Proofs.YtdkpikemlpfepaaDoor
