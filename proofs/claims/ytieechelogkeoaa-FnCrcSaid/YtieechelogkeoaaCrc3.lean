/- Contract of the program's Crc. Condition: at most 1048576 bytes. -/
import Derived.Test.YtieechelogkeoaaCrc2
namespace Go.Proofs.Ytieechelogkeoaa
open Go.RowKit Go.Joins
attribute [local go_sem ↓] Go.wp_at_zero Go.wp_at_succ

theorem nib_step {x r t : Nat} (hx : x < 4294967296) (hr : r = x % 16) (ht : t = tab r) : bits .and .u32 (x : Int) 15 = (r : Int) ∧ bits .xor .u32 ((x : Int) / 16) (t : Int) = (nib x : Int) ∧ nib x < 4294967296 := by
  subst hr ht
  have hl := tab_lt (r := x % 16) (by omega)
  refine ⟨?_, ?_, xor_lt32 (by omega) hl⟩
  · have := u32_and_nat x 15 hx (by decide)
    rw [nat_mask4] at this
    exact this
  · exact u32_xor_nat (x / 16) (tab (x % 16)) (by omega) hl
set_option maxRecDepth 100000 in
set_option maxHeartbeats 4000000 in
theorem implCrc_any (s : ByteArray) (w : World) (hs : s.size ≤ 1048576) : Calls Try.prog 15 #[.string s] w fun e w' => e = .returned (.int .i64 ((crcN s s.size ^^^ 4294967295 : Nat) : Int)) ∧ Below w.heap.size w w' := by
  go_enter Try.func15, Try.ntmps15
  go_wp2_with fail
  refine (newHalfSums_any w).mono ?_
  rintro e w1 ⟨rfl, hb1⟩
  rw [tabA_full]
  have B1 := Blk.made w1 83 tab16
  have HB := hide (show Blk (w1.alloc (.cells tab16 83)) w1.heap.size 83 (tabA 16) from B1)
  have HL := hide (hb1.trans ((below_alloc1 w1 (.cells tab16 83)).mono hb1.size))
  clear B1 hb1
  go_wp2
  generalize w1.alloc (.cells tab16 83) = W at HB HL ⊢
  generalize w1.heap.size = g at HB ⊢
  go_loop [4, 5] (fun c i => ∃ k : Nat, k ≤ s.size ∧ i = .int .i64 (k : Int) ∧ c = .int .u32 (crcN s k : Int)) (fun _ i => s.size - (intOf i).toNat)
  case atStart => exact ⟨0, Nat.zero_le _, rfl, rfl⟩
  case round =>
    obtain ⟨k, hk, rfl, rfl⟩ := hrel
    by_cases hlt : k < s.size
    · have h0 := crcN_lt s k
      have h1 := bt_lt s k
      have HS : Hid (crcN s (k + 1) = nib (nib (crcN s k ^^^ bt s k))) := byteS_nib _ _
      have hx : bits .xor .u32 (crcN s k : Int) ((s[k].toNat : Nat) : Int) = ((crcN s k ^^^ bt s k : Nat) : Int) := by
        rw [← bt_at hlt]
        exact u32_xor_nat _ _ h0 (by omega)
      have hw : IntKind.u32.wrap ((s[k].toNat : Nat) : Int) = ((s[k].toNat : Nat) : Int) := by
        rw [← bt_at hlt, IntKind.wrap_u32']
        omega
      have hz := xor_lt32 h0 (show bt s k < 4294967296 by omega)
      generalize crcN s k ^^^ bt s k = z at *
      obtain ⟨r1, e1⟩ : ∃ r, r = z % 16 := ⟨_, rfl⟩
      obtain ⟨t1, g1⟩ : ∃ t, t = tab r1 := ⟨_, rfl⟩
      obtain ⟨a1, x1, l1⟩ := nib_step hz e1 g1
      have r16 : r1 < 16 := by omega
      have c1 := (HB.out.at r1).trans (tabA_at 16 r1 r16)
      rw [tabF, if_pos r16, ← g1] at c1
      have i1 : (0 : Int) ≤ (r1 : Int) := by omega
      have i2 : (r1 : Int) < 16 := by omega
      generalize nib z = z2 at *
      obtain ⟨r2, e2⟩ : ∃ r, r = z2 % 16 := ⟨_, rfl⟩
      obtain ⟨t2, g2⟩ : ∃ t, t = tab r2 := ⟨_, rfl⟩
      obtain ⟨a2, x2, l2⟩ := nib_step l1 e2 g2
      have r26 : r2 < 16 := by omega
      have c2 := (HB.out.at r2).trans (tabA_at 16 r2 r26)
      rw [tabF, if_pos r26, ← g2] at c2
      have j1 : (0 : Int) ≤ (r2 : Int) := by omega
      have j2 : (r2 : Int) < 16 := by omega
      generalize nib z2 = z3 at *
      clear e1 g1 e2 g2 h0 h1 hz l1 l2
      go_wp2
      exact ⟨⟨k + 1, by omega, by go_num, by rw [HS.out]⟩, by simp [intOf]; omega⟩
    · have hkn : k = s.size := by omega
      subst hkn
      clear hlt
      have h0 := crcN_lt s s.size
      have HX : Hid (bits .xor .u32 IntKind.u32.max (crcN s s.size : Int) = ((crcN s s.size ^^^ 4294967295 : Nat) : Int)) := by
        rw [Nat.xor_comm]
        exact u32_xor_nat 4294967295 _ (by decide) h0
      have HW : Hid (wrap64 ((crcN s s.size ^^^ 4294967295 : Nat) : Int) = ((crcN s s.size ^^^ 4294967295 : Nat) : Int)) := wrap64_small (by omega) (by have := xor_lt32 h0 (show 4294967295 < 4294967296 by decide); omega)
      go_wp2
      go_ret
      exact ⟨ret_i64 (by rw [HX.out, HW.out]), HL.out⟩
end Go.Proofs.Ytieechelogkeoaa
