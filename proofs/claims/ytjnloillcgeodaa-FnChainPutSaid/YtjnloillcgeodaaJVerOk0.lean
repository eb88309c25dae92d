/- Contracts of the functions that say whether a text is valid, in the program and in the model. No condition. -/
import Derived.Test.YtjnloillcgeodaaJStores2
import Derived.Test.YtjnloillcgeodaaJLift
namespace Go.Proofs.Ytjnloillcgeodaa
open Go.RowKit Go.Joins

/-- Whether this byte may stand in a text. -/
def byteB (s : ByteArray) (i : Nat) : Bool := if h : i < s.size then decide (33 ≤ s[i].toNat ∧ s[i].toNat ≤ 126) else true
theorem byteB_lo {s : ByteArray} {i : Nat} (h : i < s.size) (h1 : ((s[i].toNat : Nat) : Int) < 33) : byteB s i = false := by
  unfold byteB
  rw [dif_pos h]
  exact decide_eq_false (by omega)
theorem byteB_hi {s : ByteArray} {i : Nat} (h : i < s.size) (h1 : (126 : Int) < ((s[i].toNat : Nat) : Int)) : byteB s i = false := by
  unfold byteB
  rw [dif_pos h]
  exact decide_eq_false (by omega)
theorem byteB_t {s : ByteArray} {i : Nat} (h : i < s.size) (h1 : ¬ ((s[i].toNat : Nat) : Int) < 33) (h2 : ¬ (126 : Int) < ((s[i].toNat : Nat) : Int)) : byteB s i = true := by
  unfold byteB
  rw [dif_pos h]
  exact decide_eq_true (by omega)
theorem byteB_step {s : ByteArray} {k : Nat} (h : byteB s k = true) (hA : ∀ j, j < k → byteB s j = true) : ∀ j, j < k + 1 → byteB s j = true := fun j hj => by
  by_cases e : j = k
  · rw [e]; exact h
  · exact hA j (by omega)
/-- Whether these bytes are a text. -/
def textB (s : ByteArray) : Bool := decide (s.size ≤ 8) && (List.range s.size).all (byteB s)
theorem textB_bad {s : ByteArray} {i : Nat} (hi : i < s.size) (h : byteB s i = false) : textB s = false := by
  unfold textB
  have : (List.range s.size).all (byteB s) = false := by
    rw [List.all_eq_false]
    exact ⟨i, by simpa using hi, by simp [h]⟩
  simp [this]
theorem textB_long {s : ByteArray} (h : 8 < s.size) : textB s = false := by
  unfold textB
  have : ¬ s.size ≤ 8 := by omega
  simp [this]
theorem textB_ok {s : ByteArray} (h : s.size ≤ 8) (hall : ∀ i, i < s.size → byteB s i = true) : textB s = true := by
  unfold textB
  have : (List.range s.size).all (byteB s) = true := by
    rw [List.all_eq_true]
    intro i hi
    exact hall i (by simpa using hi)
  simp [this, h]

set_option maxRecDepth 100000 in
set_option maxHeartbeats 1000000 in
theorem l2TextOk_any (s : ByteArray) (w : World) (hs : s.size ≤ 9223372036854775807) :
    Calls Try.prog 76 #[.string s] w fun e w' => e = .returned (.bool (textB s)) ∧ Below w.heap.size w w' := by
  go_enter Try.func76, Try.ntmps76
  go_wp2
  go_loopw [3] (fun i wr => ∃ k : Nat, k ≤ s.size ∧ i = .int .i64 (k : Int) ∧ Hid (∀ j, j < k → byteB s j = true) ∧ Below w.heap.size w wr) (fun i _ => s.size - (intOf i).toNat)
  case atStart => exact ⟨0, Nat.zero_le _, rfl, fun j hj => absurd hj (by omega), Below.refl _ _⟩
  case round =>
    obtain ⟨k, hk, rfl, hA, hL⟩ := hrel
    by_cases hlt : k < s.size
    · by_cases b1 : ((s[k].toNat : Nat) : Int) < 33
      · have hf := hide (textB_bad hlt (byteB_lo hlt b1))
        go_wp2
        go_ret
        exact ⟨ret_bool hf.out.symm, hL⟩
      · by_cases b2 : (126 : Int) < ((s[k].toNat : Nat) : Int)
        · have hf := hide (textB_bad hlt (byteB_hi hlt b2))
          go_wp2
          go_ret
          exact ⟨ret_bool hf.out.symm, hL⟩
        · have hf := hide (byteB_step (byteB_t hlt b1 b2) hA.out)
          go_wp2
          exact ⟨⟨k + 1, by omega, by go_num, hf, hL⟩, by simp [intOf]; omega⟩
    · have hkn : k = s.size := by omega
      subst hkn
      clear hlt
      by_cases h8 : (s.size : Int) ≤ 8
      · have hf := hide (textB_ok (by omega) hA.out)
        go_wp2
        go_ret
        exact ⟨ret_bool hf.out.symm, hL⟩
      · have hf := hide (textB_long (s := s) (by omega))
        go_wp2
        go_ret
        exact ⟨ret_bool hf.out.symm, hL⟩

set_option maxRecDepth 100000 in
set_option maxHeartbeats 1000000 in
theorem valueOk_any (s : ByteArray) (w : World) (hs : s.size ≤ 9223372036854775807) :
    Calls Try.prog 155 #[.agg #[.string s]] w fun e w' => e = .returned (.bool (textB s)) ∧ Below w.heap.size w w' := by
  have S0 := (Inv.start w).box 121 #[.string s]
  by_cases h8 : s.size ≤ 8
  · have h8' : ¬ ((s.size : Int) > 8) := by omega
    go_enter Try.func155, Try.ntmps155
    go_wp2
    go_loopw [3] (fun i wr => ∃ k : Nat, k ≤ s.size ∧ i = .int .i64 (k : Int) ∧ Hid (∀ j, j < k → byteB s j = true) ∧ Inv w (w.alloc (.cells #[.string s] 121)).heap.size [(w.heap.size, 121, #[.string s])] wr) (fun i _ => s.size - (intOf i).toNat)
    case atStart => exact ⟨0, Nat.zero_le _, rfl, fun j hj => absurd hj (by omega), S0⟩
    case round =>
      obtain ⟨k, hk, rfl, hA, hL⟩ := hrel
      have k0 := (hL.nth 0 rfl).one.1
      by_cases hlt : k < s.size
      · by_cases b1 : ((s[k].toNat : Nat) : Int) < 33
        · have hf := hide (textB_bad hlt (byteB_lo hlt b1))
          go_wp2
          go_ret
          exact ⟨ret_bool hf.out.symm, hL.below⟩
        · by_cases b2 : (126 : Int) < ((s[k].toNat : Nat) : Int)
          · have hf := hide (textB_bad hlt (byteB_hi hlt b2))
            go_wp2
            go_ret
            exact ⟨ret_bool hf.out.symm, hL.below⟩
          · have hf := hide (byteB_step (byteB_t hlt b1 b2) hA.out)
            go_wp2
            exact ⟨⟨k + 1, by omega, by go_num, hf, hL⟩, by simp [intOf]; omega⟩
      · have hkn : k = s.size := by omega
        subst hkn
        clear hlt
        have hf := hide (textB_ok h8 hA.out)
        go_wp2
        go_ret
        exact ⟨ret_bool hf.out.symm, hL.below⟩
  · have h8' : ((s.size : Int) > 8) := by omega
    have hf := hide (textB_long (s := s) (by omega))
    go_enter Try.func155, Try.ntmps155
    go_wp2
    go_ret
    exact ⟨ret_bool hf.out.symm, S0.below⟩
set_option maxRecDepth 100000 in
set_option maxHeartbeats 1000000 in
theorem tombstoneOk_any (s : ByteArray) (w : World) :
    Calls Try.prog 152 #[.agg #[.string s]] w fun e w' => e = .returned (.bool s.toList.isEmpty) ∧ Below w.heap.size w w' := by
  have S0 := (Inv.start w).box 120 #[.string s]
  go_enter Try.func152, Try.ntmps152
  go_wp2
  go_ret
  exact ⟨rfl, S0.below⟩
end Go.Proofs.Ytjnloillcgeodaa
/- Contracts of the program's fold over times. Condition: at most 1048576 tags. -/
namespace Go.Proofs.Ytjnloillcgeodaa
open Go.RowKit Go.Joins

/-- The latest time of these tags, or 0. -/
def lastT (ts : List (Int × Int)) : Int := ts.foldl (fun m x => max m x.1) 0
theorem lastT_step {ts : List (Int × Int)} {k : Nat} {x : Int × Int} (hx : ts[k]? = some x) : lastT (ts.take (k + 1)) = max (lastT (ts.take k)) x.1 := by
  unfold lastT
  rw [List.take_add_one, hx, List.foldl_append]
  rfl
theorem foldl_max (t : Int) : ∀ (ts : List (Int × Int)) (m : Int), ts.foldl (fun m x => max m x.1) m < t ↔ m < t ∧ ∀ x ∈ ts, x.1 < t
  | [], m => by simp
  | y :: ts, m => by
    rw [List.foldl_cons, foldl_max t ts]
    simp only [List.mem_cons, forall_eq_or_imp]
    constructor
    · rintro ⟨h1, h2⟩
      exact ⟨by omega, by omega, h2⟩
    · rintro ⟨h1, h2, h3⟩
      exact ⟨by omega, h3⟩
theorem lastT_lt {t : Int} {ts : List (Int × Int)} : lastT ts < t ↔ 0 < t ∧ ∀ x ∈ ts, x.1 < t := foldl_max t ts 0

set_option maxRecDepth 100000 in
set_option maxHeartbeats 1000000 in
theorem laterTime_any (m t u : Int) (w : World) :
    Calls Try.prog 45 #[.int .i64 m, .agg #[.int .i64 t, .int .i64 u]] w fun e w' => e = .returned (.int .i64 (max m t)) ∧ Below w.heap.size w w' := by
  have S0 := (Inv.start w).box 27 #[.int .i64 t, .int .i64 u]
  by_cases h : m < t
  · have hf := hide (show max m t = t by omega)
    go_enter Try.func45, Try.ntmps45
    go_wp2
    go_ret
    exact ⟨ret_int hf.out.symm, S0.below⟩
  · have hf := hide (show max m t = m by omega)
    go_enter Try.func45, Try.ntmps45
    go_wp2
    go_ret
    exact ⟨ret_int hf.out.symm, S0.below⟩

set_option maxRecDepth 100000 in
set_option maxHeartbeats 1000000 in
theorem foldTimes_any (a : Option Addr) (c : Nat) (ts : List (Int × Int)) (w : World) (hn : ts.length ≤ 1048576) (ht : Tg w w.heap.size a ts) :
    Calls Try.prog 44 #[.slice a ts.length c, .int .i64 0, .func (.func 45) #[] #[]] w fun e w' => e = .returned (.int .i64 (lastT ts)) ∧ Below w.heap.size w w' := by
  have HT : Hid (lastT (ts.take ts.length) = lastT ts) := by unfold Hid; rw [List.take_length]
  generalize hnn : ts.length = n at *
  have HN := hide hnn
  clear hnn
  go_enter Try.func44, Try.ntmps44
  go_wp2
  go_loopw [1, 11] (fun r i wr => ∃ (k : Nat) (m : Int), k ≤ n ∧ i = .int .i64 (k : Int) ∧ r = .int .i64 m ∧ Hid (m = lastT (ts.take k)) ∧ Below w.heap.size w wr) (fun _ i _ => n - (intOf i).toNat)
  case atStart => exact ⟨0, 0, Nat.zero_le _, rfl, rfl, rfl, Below.refl _ _⟩
  case round =>
    obtain ⟨k, m, hk, rfl, rfl, hm, hL⟩ := hrel
    by_cases hlt : k < n
    · rcases ht with h0 | ⟨b, off, rfl, hb, hx⟩
      · have := HN.out; subst h0; simp at this; omega
      · have hkl : k < ts.length := by have := HN.out; omega
        obtain ⟨hc0, hc1⟩ := hx k _ (List.getElem?_eq_getElem hkl)
        have c0 := (hL.cell (p := ⟨b, off + k * 2, none⟩) hb).trans hc0
        have c1 := (hL.cell (p := ⟨b, off + k * 2 + 1, none⟩) hb).trans hc1
        have HX := hide (List.getElem?_eq_getElem hkl)
        generalize ts[k] = x at c0 c1 HX
        obtain ⟨x1, x2⟩ := x
        simp only at c0 c1
        clear hc0 hc1 hx
        have i1 : (0 : Int) ≤ (k : Int) := by omega
        have i2 : (k : Int) < (n : Int) := by omega
        have L1 := hL.alloc hL.size (.cells #[.int .i64 x1, .int .i64 x2] 27)
        go_wp2_with fail
        refine (laterTime_any _ _ _ _).mono ?_
        rintro e w1 ⟨rfl, hb1⟩
        have hL1 := L1.trans (hb1.mono L1.size)
        have HM : Hid (max m x1 = lastT (ts.take (k + 1))) := by
          unfold Hid
          rw [lastT_step HX.out, ← hm.out]
        go_wp2
        exact ⟨⟨k + 1, _, by omega, by go_num, rfl, HM, hL1⟩, by simp [intOf]; omega⟩
    · have hkn : k = n := by omega
      subst hkn
      clear hlt
      go_wp2
      go_ret
      exact ⟨ret_int (hm.out.trans HT.out), hL⟩

end Go.Proofs.Ytjnloillcgeodaa
/- Whether a version is valid, said plainly; contracts of the program's fold over times. Condition: at most 1048576 tags. -/
namespace Go.Proofs.Ytjnloillcgeodaa
open Go.RowKit Go.Joins

/-- Whether this is a valid version. -/
def verB (k t u : Int) (ts : List (Int × Int)) (s : ByteArray) (g : Bool) : Bool :=
  decide (0 ≤ k ∧ k ≤ 3) && textB s && okB t u && decide (t ≠ 0) && !(g && !s.toList.isEmpty) && pastB ts && ts.all fun x => decide (x.1 < t)

theorem verB_f {k t u : Int} {ts : List (Int × Int)} {s : ByteArray} {g : Bool} (h : ¬ (0 ≤ k ∧ k ≤ 3) ∨ textB s = false ∨ okB t u = false ∨ t = 0 ∨ (g = true ∧ s.toList.isEmpty = false) ∨ pastB ts = false ∨ ∃ x ∈ ts, ¬ x.1 < t) : verB k t u ts s g = false := by
  unfold verB
  rcases h with h | h | h | h | ⟨h, h'⟩ | h | ⟨x, hx, h⟩
  · rw [decide_eq_false h]; rfl
  · rw [h]; simp
  · rw [h]; simp
  · rw [h]; simp
  · rw [h, h']; simp
  · rw [h]; simp
  · have : (ts.all fun x => decide (x.1 < t)) = false := by
      rw [List.all_eq_false]
      exact ⟨x, hx, by simpa using h⟩
    rw [this]; simp
theorem verB_t {k t u : Int} {ts : List (Int × Int)} {s : ByteArray} {g : Bool} (h1 : 0 ≤ k ∧ k ≤ 3) (h2 : textB s = true) (h3 : okB t u = true) (h4 : ¬ t = 0) (h5 : g = true → s.toList.isEmpty = true) (h6 : pastB ts = true) (h7 : ∀ x ∈ ts, x.1 < t) : verB k t u ts s g = true := by
  unfold verB
  have e7 : (ts.all fun x => decide (x.1 < t)) = true := by
    rw [List.all_eq_true]
    intro x hx
    simpa using h7 x hx
  have e5 : (g && !s.toList.isEmpty) = false := by
    cases g
    · rfl
    · rw [h5 rfl]; rfl
  rw [decide_eq_true h1, h2, h3, h6, e7, e5]
  simp [h4]
end Go.Proofs.Ytjnloillcgeodaa
