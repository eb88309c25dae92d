/- Sums of texts that differ in one byte differ. No condition. -/
import Derived.Test.YtieechelogkeoaaCrcPure
namespace Go.Proofs.Ytieechelogkeoaa

theorem sh_inj {x y : Nat} (hx : x < 4294967296) (hy : y < 4294967296) (h : sh x = sh y) : x = y := by
  have h0 : sh (x ^^^ y) = 0 := by rw [sh_xor, h, Nat.xor_self]
  have hl := xor_lt32 hx hy
  have hz : x ^^^ y = 0 := by
    generalize x ^^^ y = c at *
    unfold sh at h0
    split at h0
    · have : c / 2 = 3988292384 := by
        have e : c / 2 ^^^ 3988292384 ^^^ 3988292384 = 0 ^^^ 3988292384 := by rw [h0]
        rw [Nat.xor_assoc, Nat.xor_self, Nat.xor_zero, Nat.zero_xor] at e
        exact e
      omega
    · omega
  have e : x ^^^ y ^^^ y = 0 ^^^ y := by rw [hz]
  rw [Nat.xor_assoc, Nat.xor_self, Nat.xor_zero, Nat.zero_xor] at e
  exact e
theorem shN_inj : ∀ (n : Nat) {x y : Nat}, x < 4294967296 → y < 4294967296 → shN n x = shN n y → x = y
  | 0, _, _, _, _, h => h
  | n + 1, _, _, hx, hy, h => sh_inj hx hy (shN_inj n (sh_lt hx) (sh_lt hy) h)
theorem xor_right {a b c : Nat} (h : a ^^^ c = b ^^^ c) : a = b := by
  have e : a ^^^ c ^^^ c = b ^^^ c ^^^ c := by rw [h]
  rw [Nat.xor_assoc, Nat.xor_assoc, Nat.xor_self, Nat.xor_zero, Nat.xor_zero] at e
  exact e
theorem byteS_inj {x y b c : Nat} (hx : x < 4294967296) (hy : y < 4294967296) (hb : b < 256) (hc : c < 256) (h : byteS x b = byteS y c) : x ^^^ b = y ^^^ c :=
  shN_inj 8 (xor_lt32 hx (by omega)) (xor_lt32 hy (by omega)) h
/-- Texts that differ at one place: their sums differ behind it. -/
theorem crc_turn {s s' : ByteArray} {k : Nat} (hk : bt s k ≠ bt s' k) (h : ∀ j, j ≠ k → bt s j = bt s' j) : ∀ n, k < n → crcN s n ≠ crcN s' n
  | 0, hn => absurd hn (by omega)
  | n + 1, hn => by
    intro e
    have e' := byteS_inj (crcN_lt s n) (crcN_lt s' n) (bt_lt s n) (bt_lt s' n) e
    by_cases hkn : k = n
    · subst hkn
      have hsame : ∀ m, m ≤ k → crcN s m = crcN s' m := by
        intro m
        induction m with
        | zero => intro _; rfl
        | succ m ih =>
          intro hm
          show byteS (crcN s m) (bt s m) = byteS (crcN s' m) (bt s' m)
          rw [ih (by omega), h m (by omega)]
      rw [hsame k (Nat.le_refl _), Nat.xor_comm, Nat.xor_comm (crcN s' k)] at e'
      exact hk (xor_right e')
    · rw [h n (fun e => hkn e.symm)] at e'
      exact crc_turn hk h n (by omega) (xor_right e')
theorem crc_nine : crcN ⟨#[49, 50, 51, 52, 53, 54, 55, 56, 57]⟩ 9 ^^^ 4294967295 = 3421780262 := by decide +kernel
end Go.Proofs.Ytieechelogkeoaa
