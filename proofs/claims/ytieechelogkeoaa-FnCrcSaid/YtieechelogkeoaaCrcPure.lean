/- Sums of texts, as plain functions: one bit at a time, and half a byte at a time. No condition. -/
import Derived.Test.YtieechelogkeoaaWorld
import Derived.Laws.BitsAllLaws
namespace Go.Proofs.Ytieechelogkeoaa

/-- One bit. -/
def sh (x : Nat) : Nat := if x % 2 = 1 then x / 2 ^^^ 3988292384 else x / 2
def shN : Nat → Nat → Nat
  | 0, x => x
  | n + 1, x => shN n (sh x)
theorem xor_mod2 (a b : Nat) : (a ^^^ b) % 2 = (a + b) % 2 := by
  have h := Nat.xor_mod_two_pow (a := a) (b := b) (n := 1)
  simp only [Nat.pow_one] at h
  rw [h]
  rcases Nat.mod_two_eq_zero_or_one a with e | e <;> rcases Nat.mod_two_eq_zero_or_one b with f | f <;> rw [e, f] <;> simp <;> omega
theorem xor_div2 (a b : Nat) : (a ^^^ b) / 2 = a / 2 ^^^ b / 2 := Nat.xor_div_two
theorem sh_xor (a b : Nat) : sh (a ^^^ b) = sh a ^^^ sh b := by
  unfold sh
  rw [xor_mod2, xor_div2]
  rcases Nat.mod_two_eq_zero_or_one a with h | h <;> rcases Nat.mod_two_eq_zero_or_one b with k | k
  · rw [if_neg (by omega), if_neg (by omega), if_neg (by omega)]
  · rw [if_pos (by omega), if_neg (by omega), if_pos (by omega), Nat.xor_assoc]
  · rw [if_pos (by omega), if_pos (by omega), if_neg (by omega), Nat.xor_assoc, Nat.xor_assoc, Nat.xor_comm 3988292384]
  · rw [if_neg (by omega), if_pos (by omega), if_pos (by omega)]
    rw [Nat.xor_assoc, ← Nat.xor_assoc 3988292384, Nat.xor_comm 3988292384, Nat.xor_assoc, Nat.xor_self, Nat.xor_zero]
theorem sh_split (x : Nat) : sh x = x / 2 ^^^ sh (x % 2) := by
  rcases Nat.mod_two_eq_zero_or_one x with h | h
  · rw [h]
    unfold sh
    rw [if_neg (by omega), if_neg (by omega)]
    simp
  · rw [h]
    unfold sh
    rw [if_pos (by omega), if_pos (by omega)]
    simp
/-- What half a byte adds. -/
def tab (r : Nat) : Nat := shN 4 r
def nib (x : Nat) : Nat := x / 16 ^^^ tab (x % 16)
theorem nib_sh (x : Nat) : shN 4 x = nib x := by
  have key : ∀ y : Nat, shN 4 y = y / 16 ^^^ (sh (y / 8 % 2) ^^^ (sh (sh (y / 4 % 2)) ^^^ (sh (sh (sh (y / 2 % 2))) ^^^ sh (sh (sh (sh (y % 2))))))) := by
    intro y
    show sh (sh (sh (sh y))) = _
    have e1 : sh y = y / 2 ^^^ sh (y % 2) := sh_split y
    have e2 : sh (y / 2) = y / 4 ^^^ sh (y / 2 % 2) := by rw [sh_split (y / 2), Nat.div_div_eq_div_mul]
    have e3 : sh (y / 4) = y / 8 ^^^ sh (y / 4 % 2) := by rw [sh_split (y / 4), Nat.div_div_eq_div_mul]
    have e4 : sh (y / 8) = y / 16 ^^^ sh (y / 8 % 2) := by rw [sh_split (y / 8), Nat.div_div_eq_div_mul]
    simp only [e1, sh_xor, e2, e3, e4, Nat.xor_assoc]
  unfold nib tab
  rw [key x, key (x % 16)]
  have f0 : x % 16 / 16 = 0 := by omega
  have f1 : x % 16 / 8 % 2 = x / 8 % 2 := by omega
  have f2 : x % 16 / 4 % 2 = x / 4 % 2 := by omega
  have f3 : x % 16 / 2 % 2 = x / 2 % 2 := by omega
  have f4 : x % 16 % 2 = x % 2 := by omega
  rw [f0, f1, f2, f3, f4, Nat.zero_xor]
theorem shN_add (a b x : Nat) : shN (a + b) x = shN b (shN a x) := by
  induction a generalizing x with
  | zero => simp [shN]
  | succ a ih => rw [Nat.succ_add]; exact ih (sh x)
theorem sh_lt {x : Nat} (h : x < 4294967296) : sh x < 4294967296 := by
  unfold sh
  split
  · exact Nat.xor_lt_two_pow (n := 32) (by omega) (by omega)
  · omega
theorem shN_lt {x : Nat} (n : Nat) (h : x < 4294967296) : shN n x < 4294967296 := by
  induction n generalizing x with
  | zero => exact h
  | succ n ih => exact ih (sh_lt h)
theorem tab_lt {r : Nat} (h : r < 16) : tab r < 4294967296 := shN_lt 4 (by omega)
theorem shN_succ (n x : Nat) : shN (n + 1) x = sh (shN n x) := by
  rw [shN_add]; rfl
/-- A byte more. -/
def byteS (x b : Nat) : Nat := shN 8 (x ^^^ b)
theorem byteS_nib (x b : Nat) : byteS x b = nib (nib (x ^^^ b)) := by
  unfold byteS
  rw [show (8 : Nat) = 4 + 4 from rfl, shN_add, nib_sh, nib_sh]
theorem xor_lt32 {a b : Nat} (h : a < 4294967296) (k : b < 4294967296) : a ^^^ b < 4294967296 := Nat.xor_lt_two_pow (n := 32) h k
theorem byteS_lt {x b : Nat} (h : x < 4294967296) (k : b < 256) : byteS x b < 4294967296 := shN_lt 8 (xor_lt32 h (by omega))
/-- The byte at a place, or 0. -/
def bt (s : ByteArray) (n : Nat) : Nat := if h : n < s.size then s[n].toNat else 0
theorem bt_at {s : ByteArray} {n : Nat} (h : n < s.size) : bt s n = s[n].toNat := by unfold bt; rw [dif_pos h]
theorem bt_lt (s : ByteArray) (n : Nat) : bt s n < 256 := by
  unfold bt
  split
  · exact UInt8.toNat_lt _
  · decide
/-- The sum of the first bytes. -/
def crcN (s : ByteArray) : Nat → Nat
  | 0 => 4294967295
  | n + 1 => byteS (crcN s n) (bt s n)
theorem crcN_lt (s : ByteArray) (n : Nat) : crcN s n < 4294967296 := by
  induction n with
  | zero => exact (by decide : (4294967295 : Nat) < 4294967296)
  | succ n ih => exact byteS_lt ih (bt_lt s n)
end Go.Proofs.Ytieechelogkeoaa
