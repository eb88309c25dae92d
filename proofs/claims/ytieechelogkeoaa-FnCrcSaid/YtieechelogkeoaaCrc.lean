/- Contracts of Crc, in the program and in the model. Condition: at most 1048576 bytes. -/
import Derived.Test.YtieechelogkeoaaCrcPure
import Derived.Test.YtieechelogkeoaaReg
import Derived.Test.YtieechelogkeoaaTags
import Derived.Defers
import Derived.Recover
namespace Go.Proofs.Ytieechelogkeoaa
open Go.RowKit Go.Joins
attribute [local go_sem ↓] Go.wp_at_zero Go.wp_at_succ

theorem ret_u32 {a b : Int} (h : a = b) : Ending.returned (.int .u32 a) = .returned (.int .u32 b) := by rw [h]
theorem ret_i64 {a b : Int} (h : a = b) : Ending.returned (.int .i64 a) = .returned (.int .i64 b) := by rw [h]
set_option maxHeartbeats 1000000 in
theorem shiftSum_any (x : Nat) (w : World) (h : x < 4294967296) : Calls Try.prog 62 #[.int .u32 (x : Int)] w fun e w' => e = .returned (.int .u32 (sh x : Int)) ∧ w = w' := by
  have h1 : bits .and .u32 (x : Int) 1 = ((x % 2 : Nat) : Int) := by
    have := u32_and_nat x 1 h (by decide)
    rw [nat_mask1] at this
    exact this
  have h2 : bits .xor .u32 ((x : Int) / 2) 3988292384 = ((x / 2 ^^^ 3988292384 : Nat) : Int) := by
    have := u32_xor_nat (x / 2) 3988292384 (by omega) (by decide)
    rw [← this]
    rfl
  have H1 := hide h1
  have H2 := hide h2
  clear h1 h2
  rcases Nat.mod_two_eq_zero_or_one x with e | e
  · have hs : Hid (sh x = x / 2) := by unfold Hid sh; rw [if_neg (by omega)]
    have hc : bits .and .u32 (x : Int) 1 = 0 := by rw [H1.out, e]; rfl
    clear e
    go_enter Try.func62, Try.ntmps62
    go_wp2
    go_ret
    exact ⟨ret_u32 (by rw [hs.out]; omega), rfl⟩
  · have hs : Hid (sh x = x / 2 ^^^ 3988292384) := by unfold Hid sh; rw [if_pos (by omega)]
    have hc : bits .and .u32 (x : Int) 1 = 1 := by rw [H1.out, e]; rfl
    clear e
    go_enter Try.func62, Try.ntmps62
    go_wp2
    go_ret
    exact ⟨ret_u32 (by rw [hs.out]; exact H2.out), rfl⟩

theorem i64_xor_nat (a b : Nat) (ha : a < 4294967296) (hb : b < 4294967296) : bits .xor .i64 (a : Int) (b : Int) = ((a ^^^ b : Nat) : Int) := by
  have hx : a ^^^ b < 4294967296 := xor_lt32 ha hb
  show IntKind.i64.wrap ((BitVec.ofInt 64 (a : Int) ^^^ BitVec.ofInt 64 (b : Int)).toNat : Int) = _
  rw [BitVec.toNat_xor, ofInt_u64 a (by omega), ofInt_u64 b (by omega)]
  generalize a ^^^ b = c at *
  simp [IntKind.wrap, IntKind.bits, IntKind.signed]
  omega
theorem wrap64_small {a : Int} (h : 0 ≤ a) (k : a < 4294967296) : wrap64 a = a := by
  unfold wrap64
  omega
set_option maxRecDepth 100000 in
set_option maxHeartbeats 2000000 in
theorem l7Crc_any (s : ByteArray) (w : World) (hs : s.size ≤ 1048576) : Calls Try.prog 39 #[.string s] w fun e w' => e = .returned (.int .i64 ((crcN s s.size ^^^ 4294967295 : Nat) : Int)) ∧ w = w' := by
  go_enter Try.func39, Try.ntmps39
  go_wp2
  go_loop [3, 4] (fun c i => ∃ k : Nat, k ≤ s.size ∧ i = .int .i64 (k : Int) ∧ c = .int .i64 (crcN s k : Int)) (fun _ i => s.size - (intOf i).toNat)
  case atStart => exact ⟨0, Nat.zero_le _, rfl, rfl⟩
  case round =>
    obtain ⟨k, hk, rfl, rfl⟩ := hrel
    by_cases hlt : k < s.size
    · have h0 := crcN_lt s k
      have h1 := bt_lt s k
      have HS : Hid (crcN s (k + 1) = shN 8 (crcN s k ^^^ bt s k)) := rfl
      have hx : bits .xor .i64 (crcN s k : Int) ((s[k].toNat : Nat) : Int) = ((crcN s k ^^^ bt s k : Nat) : Int) := by
        rw [← bt_at hlt]
        exact i64_xor_nat _ _ h0 (by omega)
      have hw : wrap64 ((s[k].toNat : Nat) : Int) = ((s[k].toNat : Nat) : Int) := by
        rw [← bt_at hlt]
        exact wrap64_small (by omega) (by omega)
      have hz := xor_lt32 h0 (show bt s k < 4294967296 by omega)
      generalize crcN s k ^^^ bt s k = z at *
      go_wp2
      go_loop [3, 5] (fun c i => ∃ j : Nat, j ≤ 8 ∧ i = .int .i64 (j : Int) ∧ c = .int .i64 (shN j z : Int)) (fun _ i => 8 - (intOf i).toNat)
      case atStart => exact ⟨0, by omega, rfl, rfl⟩
      case round =>
        obtain ⟨j, hj, rfl, rfl⟩ := hrel
        by_cases hl8 : j < 8
        · have HN : Hid (shN (j + 1) z = sh (shN j z)) := shN_succ j z
          have hy := shN_lt j hz
          generalize shN j z = y at *
          have i2 : (j : Int) < 8 := by omega
          have HX : Hid (bits .xor .i64 ((y : Int) / 2) 3988292384 = ((y / 2 ^^^ 3988292384 : Nat) : Int)) := i64_xor_nat (y / 2) 3988292384 (by omega) (by decide)
          rcases Nat.mod_two_eq_zero_or_one y with e | e
          · have hc : (y : Int) % 2 = 0 := by omega
            have HZ : Hid (sh y = y / 2) := by unfold Hid sh; rw [if_neg (by omega)]
            clear e
            go_wp2
            exact ⟨⟨j + 1, by omega, by go_num, by rw [HN.out, HZ.out]; rfl⟩, by simp [intOf]; omega⟩
          · have hc : (y : Int) % 2 = 1 := by omega
            have HZ : Hid (sh y = y / 2 ^^^ 3988292384) := by unfold Hid sh; rw [if_pos (by omega)]
            clear e
            go_wp2
            exact ⟨⟨j + 1, by omega, by go_num, by rw [HN.out, HZ.out, HX.out]⟩, by simp [intOf]; omega⟩
        · have hj8 : j = 8 := by omega
          subst hj8
          clear hl8
          go_wp2
          exact ⟨⟨k + 1, by omega, by go_num, by rw [HS.out]⟩, by simp [intOf]; omega⟩
    · have hkn : k = s.size := by omega
      subst hkn
      clear hlt
      have hx : bits .xor .i64 (crcN s s.size : Int) 4294967295 = ((crcN s s.size ^^^ 4294967295 : Nat) : Int) := i64_xor_nat _ 4294967295 (crcN_lt s _) (by decide)
      have HX := hide hx
      clear hx
      go_wp2
      go_ret
      exact ⟨ret_i64 HX.out, rfl⟩
/-- The table when its first k places are filled. -/
def tabF (k r : Nat) : Value := .int .u32 (if r < k then (tab r : Int) else 0)
def tabA (k : Nat) : Array Value := ((List.range 16).map (tabF k)).toArray
theorem tabA_at (k r : Nat) (h : r < 16) : (tabA k)[r]? = some (tabF k r) := by
  unfold tabA
  simp [h]
theorem tabA_put (k : Nat) : (tabA k).setIfInBounds k (.int .u32 (tab k : Int)) = tabA (k + 1) := by
  apply Array.ext
  · simp [tabA]
  · intro i h1 h2
    have hi : i < 16 := by simpa [tabA] using h2
    rw [Array.getElem_setIfInBounds (by simpa [tabA] using hi)]
    by_cases e : k = i
    · subst e
      simp [tabA, tabF]
    · rw [if_neg e]
      simp only [tabA, List.getElem_toArray, List.getElem_map, List.getElem_range, tabF]
      by_cases h3 : i < k
      · rw [if_pos h3, if_pos (by omega)]
      · rw [if_neg h3, if_neg (by omega)]

set_option maxRecDepth 100000 in
set_option maxHeartbeats 2000000 in
theorem half_deferred (b : Nat) (T : TypeId) (w0 w : World) (u : FrameMode) (hb : w0.heap.size ≤ b) (hL : Below w0.heap.size w0 w) (hB : Blk w b T (tabA 0)) :
    CallsD Try.prog 61 #[.pointer (some ⟨b, 0, none⟩)] u w fun e u' w' => u' = u ∧ (e = .returned (.tuple #[]) ∧ Blk w' b T (tabA 16) ∧ Below w0.heap.size w0 w') := by
  have HB := hide hB
  have HL := hide hL
  clear hB hL
  go_enter_d Try.func61, Try.ntmps61
  go_wp2
  go_loopw [3] (fun i wr => ∃ k : Nat, k ≤ 16 ∧ i = .int .i64 (k : Int) ∧ Hid (Blk wr b T (tabA k)) ∧ Hid (Below w0.heap.size w0 wr)) (fun i _ => 16 - (intOf i).toNat)
  case atStart => exact ⟨0, by omega, rfl, HB, HL⟩
  case round =>
    obtain ⟨k, hk, rfl, HBk, HLk⟩ := hrel
    clear HB HL
    by_cases hlt : k < 16
    · have i1 : (0 : Int) ≤ (k : Int) := by omega
      have i2 : (k : Int) < 16 := by omega
      have c0 := (HBk.out.at k).trans (tabA_at k k hlt)
      have f0 := HBk.out.loose k
      have hw : IntKind.u32.wrap (k : Int) = (k : Int) := by rw [IntKind.wrap_u32']; omega
      go_wp2
      go_loop [2, 8] (fun c i => ∃ j : Nat, j ≤ 4 ∧ i = .int .i64 (j : Int) ∧ c = .int .u32 (shN j k : Int)) (fun _ i => 4 - (intOf i).toNat)
      case atStart => exact ⟨0, by omega, rfl, rfl⟩
      case round =>
        obtain ⟨j, hj, rfl, rfl⟩ := hrel
        by_cases hl4 : j < 4
        · have HN : Hid (shN (j + 1) k = sh (shN j k)) := shN_succ j k
          have hy := shN_lt j (show k < 4294967296 by omega)
          generalize shN j k = y at *
          have i3 : (j : Int) < 4 := by omega
          go_wp2_with fail
          refine (shiftSum_any y _ hy).mono ?_
          rintro e w1 ⟨rfl, rfl⟩
          go_wp2
          exact ⟨⟨j + 1, by omega, by go_num, by rw [HN.out]⟩, by simp [intOf]; omega⟩
        · have hj4 : j = 4 := by omega
          subst hj4
          clear hl4
          have HB9 : Hid (Blk (wr.setCell ⟨b, k, none⟩ (.int .u32 (tab k : Int))) b T (tabA (k + 1))) := by
            have := HBk.out.put k (.int .u32 (tab k : Int))
            rw [tabA_put] at this
            exact this
          have HL9 : Hid (Below w0.heap.size w0 (wr.setCell ⟨b, k, none⟩ (.int .u32 (tab k : Int)))) := HLk.out.setCell hb _
          have HT : Hid (shN 4 k = tab k) := rfl
          rw [HT.out]
          go_wp2
          exact ⟨⟨k + 1, by omega, by go_num, HB9, HL9⟩, by simp [intOf]; omega⟩
    · have hkn : k = 16 := by omega
      subst hkn
      clear hlt
      go_wp2
      go_end0
      exact ⟨rfl, HBk.out, HLk.out⟩

end Go.Proofs.Ytieechelogkeoaa
