/- Contracts of the functions that say whether a text is valid, in the program and in the model. No condition. -/
import Derived.Test.YtoechhbjfejmjaaDoorVers
namespace Go.Proofs.YtoechhbjfejmjaaDoor
open Go.RowKit Go.Joins

/-- Whether this byte may stand in a text. -/
def byteB (s : ByteArray) (i : Nat) : Bool := if h : i < s.size then decide (33 ≤ s[i].toNat ∧ s[i].toNat ≤ 126) else true
theorem byteB_lo {s : ByteArray} {i : Nat} (h : i < s.size) (h1 : ((s[i].toNat : Nat) : Int) < 33) : byteB s i = false := by
  unfold byteB
  rw [dif_pos h]
  exact decide_eq_false (by omega)
theorem byteB_hi {s : ByteArray} {i : Nat} (h : i < s.size) (h1 : (126 : Int) < ((s[i].toNat : Nat) : Int)) : byteB s i = false := by
  unfold byteB
  rw [dif_pos h]
  exact decide_eq_false (by omega)
theorem byteB_t {s : ByteArray} {i : Nat} (h : i < s.size) (h1 : ¬ ((s[i].toNat : Nat) : Int) < 33) (h2 : ¬ (126 : Int) < ((s[i].toNat : Nat) : Int)) : byteB s i = true := by
  unfold byteB
  rw [dif_pos h]
  exact decide_eq_true (by omega)
theorem byteB_step {s : ByteArray} {k : Nat} (h : byteB s k = true) (hA : ∀ j, j < k → byteB s j = true) : ∀ j, j < k + 1 → byteB s j = true := fun j hj => by
  by_cases e : j = k
  · rw [e]; exact h
  · exact hA j (by omega)
/-- Whether these bytes are a text. -/
def textB (s : ByteArray) : Bool := decide (s.size ≤ 8) && (List.range s.size).all (byteB s)
theorem textB_bad {s : ByteArray} {i : Nat} (hi : i < s.size) (h : byteB s i = false) : textB s = false := by
  unfold textB
  have : (List.range s.size).all (byteB s) = false := by
    rw [List.all_eq_false]
    exact ⟨i, by simpa using hi, by simp [h]⟩
  simp [this]
theorem textB_long {s : ByteArray} (h : 8 < s.size) : textB s = false := by
  unfold textB
  have : ¬ s.size ≤ 8 := by omega
  simp [this]
theorem textB_ok {s : ByteArray} (h : s.size ≤ 8) (hall : ∀ i, i < s.size → byteB s i = true) : textB s = true := by
  unfold textB
  have : (List.range s.size).all (byteB s) = true := by
    rw [List.all_eq_true]
    intro i hi
    exact hall i (by simpa using hi)
  simp [this, h]

set_option maxRecDepth 100000 in
set_option maxHeartbeats 1000000 in
theorem l2TextOk_any (s : ByteArray) (w : World) (hs : s.size ≤ 9223372036854775807) :
    Calls Tryd.prog 36 #[.string s] w fun e w' => e = .returned (.bool (textB s)) ∧ Below w.heap.size w w' := by
  go_enter Tryd.func36, Tryd.ntmps36
  go_wp2
  go_loopw [3] (fun i wr => ∃ k : Nat, k ≤ s.size ∧ i = .int .i64 (k : Int) ∧ Hid (∀ j, j < k → byteB s j = true) ∧ Below w.heap.size w wr) (fun i _ => s.size - (intOf i).toNat)
  case atStart => exact ⟨0, Nat.zero_le _, rfl, fun j hj => absurd hj (by omega), Below.refl _ _⟩
  case round =>
    obtain ⟨k, hk, rfl, hA, hL⟩ := hrel
    by_cases hlt : k < s.size
    · by_cases b1 : ((s[k].toNat : Nat) : Int) < 33
      · have hf := hide (textB_bad hlt (byteB_lo hlt b1))
        go_wp2
        go_ret
        exact ⟨ret_bool hf.out.symm, hL⟩
      · by_cases b2 : (126 : Int) < ((s[k].toNat : Nat) : Int)
        · have hf := hide (textB_bad hlt (byteB_hi hlt b2))
          go_wp2
          go_ret
          exact ⟨ret_bool hf.out.symm, hL⟩
        · have hf := hide (byteB_step (byteB_t hlt b1 b2) hA.out)
          go_wp2
          exact ⟨⟨k + 1, by omega, by go_num, hf, hL⟩, by simp [intOf]; omega⟩
    · have hkn : k = s.size := by omega
      subst hkn
      clear hlt
      by_cases h8 : (s.size : Int) ≤ 8
      · have hf := hide (textB_ok (by omega) hA.out)
        go_wp2
        go_ret
        exact ⟨ret_bool hf.out.symm, hL⟩
      · have hf := hide (textB_long (s := s) (by omega))
        go_wp2
        go_ret
        exact ⟨ret_bool hf.out.symm, hL⟩

set_option maxRecDepth 100000 in
set_option maxHeartbeats 1000000 in
theorem valueOk_any (s : ByteArray) (w : World) (hs : s.size ≤ 9223372036854775807) :
    Calls Tryd.prog 130 #[.agg #[.string s]] w fun e w' => e = .returned (.bool (textB s)) ∧ Below w.heap.size w w' := by
  have S0 := (Inv.start w).box 82 #[.string s]
  by_cases h8 : s.size ≤ 8
  · have h8' : ¬ ((s.size : Int) > 8) := by omega
    go_enter Tryd.func130, Tryd.ntmps130
    go_wp2
    go_loopw [3] (fun i wr => ∃ k : Nat, k ≤ s.size ∧ i = .int .i64 (k : Int) ∧ Hid (∀ j, j < k → byteB s j = true) ∧ Inv w (w.alloc (.cells #[.string s] 82)).heap.size [(w.heap.size, 82, #[.string s])] wr) (fun i _ => s.size - (intOf i).toNat)
    case atStart => exact ⟨0, Nat.zero_le _, rfl, fun j hj => absurd hj (by omega), S0⟩
    case round =>
      obtain ⟨k, hk, rfl, hA, hL⟩ := hrel
      have k0 := (hL.nth 0 rfl).one.1
      by_cases hlt : k < s.size
      · by_cases b1 : ((s[k].toNat : Nat) : Int) < 33
        · have hf := hide (textB_bad hlt (byteB_lo hlt b1))
          go_wp2
          go_ret
          exact ⟨ret_bool hf.out.symm, hL.below⟩
        · by_cases b2 : (126 : Int) < ((s[k].toNat : Nat) : Int)
          · have hf := hide (textB_bad hlt (byteB_hi hlt b2))
            go_wp2
            go_ret
            exact ⟨ret_bool hf.out.symm, hL.below⟩
          · have hf := hide (byteB_step (byteB_t hlt b1 b2) hA.out)
            go_wp2
            exact ⟨⟨k + 1, by omega, by go_num, hf, hL⟩, by simp [intOf]; omega⟩
      · have hkn : k = s.size := by omega
        subst hkn
        clear hlt
        have hf := hide (textB_ok h8 hA.out)
        go_wp2
        go_ret
        exact ⟨ret_bool hf.out.symm, hL.below⟩
  · have h8' : ((s.size : Int) > 8) := by omega
    have hf := hide (textB_long (s := s) (by omega))
    go_enter Tryd.func130, Tryd.ntmps130
    go_wp2
    go_ret
    exact ⟨ret_bool hf.out.symm, S0.below⟩
set_option maxRecDepth 100000 in
set_option maxHeartbeats 1000000 in
theorem tombstoneOk_any (s : ByteArray) (w : World) :
    Calls Tryd.prog 127 #[.agg #[.string s]] w fun e w' => e = .returned (.bool s.toList.isEmpty) ∧ Below w.heap.size w w' := by
  have S0 := (Inv.start w).box 81 #[.string s]
  go_enter Tryd.func127, Tryd.ntmps127
  go_wp2
  go_ret
  exact ⟨rfl, S0.below⟩
end Go.Proofs.YtoechhbjfejmjaaDoor
