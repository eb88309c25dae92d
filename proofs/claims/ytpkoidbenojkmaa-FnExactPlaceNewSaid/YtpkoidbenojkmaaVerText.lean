/- Contracts of the functions that say whether a text is valid, in the program and in the model. No condition. -/
import Derived.Test.YtpkoidbenojkmaaVers
namespace Go.Proofs.Ytpkoidbenojkmaa
open Go.RowKit Go.Joins

/-- Whether this byte may stand in a text. -/
def byteB (s : ByteArray) (i : Nat) : Bool := if h : i < s.size then decide (33 ≤ s[i].toNat ∧ s[i].toNat ≤ 126) else true
theorem byteB_lo {s : ByteArray} {i : Nat} (h : i < s.size) (h1 : ((s[i].toNat : Nat) : Int) < 33) : byteB s i = false := by
  unfold byteB
  rw [dif_pos h]
  exact decide_eq_false (by omega)
theorem byteB_hi {s : ByteArray} {i : Nat} (h : i < s.size) (h1 : (126 : Int) < ((s[i].toNat : Nat) : Int)) : byteB s i = false := by
  unfold byteB
  rw [dif_pos h]
  exact decide_eq_false (by omega)
theorem byteB_t {s : ByteArray} {i : Nat} (h : i < s.size) (h1 : ¬ ((s[i].toNat : Nat) : Int) < 33) (h2 : ¬ (126 : Int) < ((s[i].toNat : Nat) : Int)) : byteB s i = true := by
  unfold byteB
  rw [dif_pos h]
  exact decide_eq_true (by omega)
theorem byteB_step {s : ByteArray} {k : Nat} (h : byteB s k = true) (hA : ∀ j, j < k → byteB s j = true) : ∀ j, j < k + 1 → byteB s j = true := fun j hj => by
  by_cases e : j = k
  · rw [e]; exact h
  · exact hA j (by omega)
/-- Whether these bytes are a text. -/
def textB (s : ByteArray) : Bool := decide (s.size ≤ 8) && (List.range s.size).all (byteB s)
theorem textB_bad {s : ByteArray} {i : Nat} (hi : i < s.size) (h : byteB s i = false) : textB s = false := by
  unfold textB
  have : (List.range s.size).all (byteB s) = false := by
    rw [List.all_eq_false]
    exact ⟨i, by simpa using hi, by simp [h]⟩
  simp [this]
theorem textB_long {s : ByteArray} (h : 8 < s.size) : textB s = false := by
  unfold textB
  have : ¬ s.size ≤ 8 := by omega
  simp [this]
theorem textB_ok {s : ByteArray} (h : s.size ≤ 8) (hall : ∀ i, i < s.size → byteB s i = true) : textB s = true := by
  unfold textB
  have : (List.range s.size).all (byteB s) = true := by
    rw [List.all_eq_true]
    intro i hi
    exact hall i (by simpa using hi)
  simp [this, h]

end Go.Proofs.Ytpkoidbenojkmaa
