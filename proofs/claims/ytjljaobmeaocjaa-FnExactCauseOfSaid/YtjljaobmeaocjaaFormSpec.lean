/- Contracts of the model's functions that say whether a list of records is well formed. Condition: at most 1048576 records. -/
import Derived.Test.YtjljaobmeaocjaaForms
namespace Go.Proofs.Ytjljaobmeaocjaa
open Go.RowKit Go.Joins

/-- Whether a number is within bounds. -/
def inB (n lo hi : Int) : Bool := decide (lo ≤ n ∧ n ≤ hi)
theorem l1In_B (n lo hi : Int) (w : World) :
    Calls Try.prog 70 #[.int .i64 n, .int .i64 lo, .int .i64 hi] w fun e w' => e = .returned (.bool (inB n lo hi)) ∧ w = w' := l1In_any n lo hi w
theorem inB_t {n lo hi : Int} (h : inB n lo hi = true) : lo ≤ n ∧ n ≤ hi := of_decide_eq_true h
theorem inB_f {n lo hi : Int} (h : inB n lo hi = false) : ¬ (lo ≤ n ∧ n ≤ hi) := of_decide_eq_false h

set_option maxRecDepth 100000 in
set_option maxHeartbeats 2000000 in
theorem l5OpOk_any (s k y t u : Int) (w : World) :
    Calls Try.prog 85 #[.agg (doneC s k y t u)] w fun e w' => e = .returned (.bool (doneB (s, k, y, t, u))) ∧ Below w.heap.size w w' := by
  have S0 := (Inv.start w).box 53 (doneC s k y t u)
  cases h0 : inB s 0 3
  · have hf := hide (doneB_f (s := s) (k := k) (y := y) (t := t) (u := u) (fun h => inB_f h0 ⟨h.1, h.2.1⟩))
    have H0 := hide h0
    clear h0
    go_enter Try.func85, Try.ntmps85
    go_wp2_with fail
    refine (l1In_B _ _ _ _).mono ?_
    rintro e w1 ⟨rfl, rfl⟩
    rw [H0.out]
    go_wp2
    go_ret
    exact ⟨ret_bool hf.out.symm, S0.below⟩
  cases h1 : inB k 1 3
  · have hf := hide (doneB_f (s := s) (k := k) (y := y) (t := t) (u := u) (fun h => inB_f h1 ⟨h.2.2.1, h.2.2.2.1⟩))
    have H0 := hide h0
    have H1 := hide h1
    clear h0 h1
    go_enter Try.func85, Try.ntmps85
    go_wp2_with fail
    refine (l1In_B _ _ _ _).mono ?_
    rintro e w1 ⟨rfl, rfl⟩
    rw [H0.out]
    go_wp2_with fail
    refine (l1In_B _ _ _ _).mono ?_
    rintro e w2 ⟨rfl, rfl⟩
    rw [H1.out]
    go_wp2
    go_ret
    exact ⟨ret_bool hf.out.symm, S0.below⟩
  cases h2 : inB y 0 3
  · have hf := hide (doneB_f (s := s) (k := k) (y := y) (t := t) (u := u) (fun h => inB_f h2 ⟨h.2.2.2.2.1, h.2.2.2.2.2.1⟩))
    have H0 := hide h0
    have H1 := hide h1
    have H2 := hide h2
    clear h0 h1 h2
    go_enter Try.func85, Try.ntmps85
    go_wp2_with fail
    refine (l1In_B _ _ _ _).mono ?_
    rintro e w1 ⟨rfl, rfl⟩
    rw [H0.out]
    go_wp2_with fail
    refine (l1In_B _ _ _ _).mono ?_
    rintro e w2 ⟨rfl, rfl⟩
    rw [H1.out]
    go_wp2_with fail
    refine (l1In_B _ _ _ _).mono ?_
    rintro e w3 ⟨rfl, rfl⟩
    rw [H2.out]
    go_wp2
    go_ret
    exact ⟨ret_bool hf.out.symm, S0.below⟩
  cases h3 : okB t u
  · have hf := hide (doneB_f (s := s) (k := k) (y := y) (t := t) (u := u) (fun h => by rw [h.2.2.2.2.2.2.1] at h3; cases h3))
    have H0 := hide h0
    have H1 := hide h1
    have H2 := hide h2
    have H3 := hide h3
    clear h0 h1 h2 h3
    go_enter Try.func85, Try.ntmps85
    go_wp2_with fail
    refine (l1In_B _ _ _ _).mono ?_
    rintro e w1 ⟨rfl, rfl⟩
    rw [H0.out]
    go_wp2_with fail
    refine (l1In_B _ _ _ _).mono ?_
    rintro e w2 ⟨rfl, rfl⟩
    rw [H1.out]
    go_wp2_with fail
    refine (l1In_B _ _ _ _).mono ?_
    rintro e w3 ⟨rfl, rfl⟩
    rw [H2.out]
    go_wp2_with fail
    refine (l1TagOk_any _ _ _).mono ?_
    rintro e w4 ⟨rfl, hb4⟩
    rw [H3.out]
    have S4 := S0.on hb4
    have k4 := (S4.nth 0 rfl).five.1
    clear S0
    go_wp2
    go_ret
    exact ⟨ret_bool hf.out.symm, S4.below⟩
  have H0 := hide h0
  have H1 := hide h1
  have H2 := hide h2
  have H3 := hide h3
  by_cases h6 : k = 2
  · have hf := hide (doneB_t (s := s) (k := k) (y := y) (t := t) (u := u) ⟨(inB_t h0).1, (inB_t h0).2, (inB_t h1).1, (inB_t h1).2, (inB_t h2).1, (inB_t h2).2, h3, .inl h6⟩)
    clear h0 h1 h2 h3
    subst h6
    go_enter Try.func85, Try.ntmps85
    go_wp2_with fail
    refine (l1In_B _ _ _ _).mono ?_
    rintro e w1 ⟨rfl, rfl⟩
    rw [H0.out]
    go_wp2_with fail
    refine (l1In_B _ _ _ _).mono ?_
    rintro e w2 ⟨rfl, rfl⟩
    rw [H1.out]
    go_wp2_with fail
    refine (l1In_B _ _ _ _).mono ?_
    rintro e w3 ⟨rfl, rfl⟩
    rw [H2.out]
    go_wp2_with fail
    refine (l1TagOk_any _ _ _).mono ?_
    rintro e w4 ⟨rfl, hb4⟩
    rw [H3.out]
    have S4 := S0.on hb4
    have k4 := (S4.nth 0 rfl).five.1
    clear S0
    go_wp2
    go_ret
    exact ⟨ret_bool hf.out.symm, S4.below⟩
  · have h6' : (k == 2) = false := by simpa using h6
    have hf : Hid (doneB (s, k, y, t, u) = decide (0 < t)) := by
      unfold Hid doneB
      rw [Bool.eq_iff_iff]
      simp
      constructor
      · intro h
        rcases h.2.2.2.2.2.2.2 with h | h
        · exact absurd h h6
        · exact h
      · intro h
        exact ⟨(inB_t h0).1, (inB_t h0).2, (inB_t h1).1, (inB_t h1).2, (inB_t h2).1, (inB_t h2).2, h3, .inr h⟩
    clear h0 h1 h2 h3 h6
    go_enter Try.func85, Try.ntmps85
    go_wp2_with fail
    refine (l1In_B _ _ _ _).mono ?_
    rintro e w1 ⟨rfl, rfl⟩
    rw [H0.out]
    go_wp2_with fail
    refine (l1In_B _ _ _ _).mono ?_
    rintro e w2 ⟨rfl, rfl⟩
    rw [H1.out]
    go_wp2_with fail
    refine (l1In_B _ _ _ _).mono ?_
    rintro e w3 ⟨rfl, rfl⟩
    rw [H2.out]
    go_wp2_with fail
    refine (l1TagOk_any _ _ _).mono ?_
    rintro e w4 ⟨rfl, hb4⟩
    rw [H3.out]
    have S4 := S0.on hb4
    have k4 := (S4.nth 0 rfl).five.1
    clear S0
    go_wp2
    go_ret
    exact ⟨ret_bool hf.out.symm, S4.below⟩

set_option maxRecDepth 100000 in
set_option maxHeartbeats 2000000 in
theorem l6Form_any (a : Option Addr) (c : Nat) (ds : List D) (w : World) (hn : ds.length ≤ 1048576) (hd : Dg w w.heap.size a ds) :
    Calls Try.prog 51 #[.slice a ds.length c] w fun e w' => e = .returned (.bool (formB ds)) ∧ Below w.heap.size w w' := by
  generalize hnn : ds.length = n at *
  have HN := hide hnn
  clear hnn
  go_enter Try.func51, Try.ntmps51
  go_wp2
  go_loopw [3] (fun i wr => ∃ k : Nat, k ≤ n ∧ i = .int .i64 (k : Int) ∧ Hid (∀ j y, j < k → ds[j]? = some y → doneB y = true) ∧ Below w.heap.size w wr) (fun i _ => n - (intOf i).toNat)
  case atStart => exact ⟨0, Nat.zero_le _, rfl, fun j x hj => absurd hj (by omega), Below.refl _ _⟩
  case round =>
    obtain ⟨k, hk, rfl, hall, hL⟩ := hrel
    by_cases hlt : k < n
    · rcases hd with h0 | ⟨b, off, rfl, hb, hx⟩
      · have := HN.out; subst h0; simp at this; omega
      · have hkl : k < ds.length := by have := HN.out; omega
        have hF := (hx k _ (List.getElem?_eq_getElem hkl)).on hb hL
        have HY := hide (List.getElem?_eq_getElem hkl)
        generalize ds[k] = y at hF HY
        obtain ⟨y0, y1, y2, y3, y4⟩ := y
        clear hx
        go_wp2_with fail
        refine (l5OpOk_any _ _ _ _ _ _).mono ?_
        rintro e w1 ⟨rfl, hb1⟩
        have hL1 := hL.trans (hb1.mono hL.size)
        cases hpy : doneB (y0, y1, y2, y3, y4)
        · have hf : Hid (formB ds = false) := by
            unfold Hid formB
            have : ds.all doneB = false := by
              rw [List.all_eq_false]
              exact ⟨_, List.mem_of_getElem? HY.out, by simp [hpy]⟩
            simp [this]
          clear hpy hF
          go_wp2
          go_ret
          exact ⟨ret_bool hf.out.symm, hL1⟩
        · have HN1 : Hid (∀ j y, j < k + 1 → ds[j]? = some y → doneB y = true) := fun j x hj hx => by
            by_cases e : j = k
            · subst e
              have h1 := HY.out
              rw [h1] at hx
              injection hx with hx
              subst hx
              exact hpy
            · exact hall.out j x (by omega) hx
          clear hpy hF
          go_wp2
          exact ⟨⟨k + 1, by omega, by go_num, HN1, hL1⟩, by simp [intOf]; omega⟩
    · have hkn : k = n := by omega
      subst hkn
      clear hlt
      have hf : Hid (formB ds = decide ((k : Int) ≤ 80)) := by
        unfold Hid formB
        have : ds.all doneB = true := by
          rw [List.all_eq_true]
          intro x hx
          obtain ⟨j, hj⟩ := List.getElem?_of_mem hx
          exact hall.out j x (by have := (List.getElem?_eq_some_iff.1 hj).1; have := HN.out; omega) hj
        rw [this, HN.out]
        rw [Bool.eq_iff_iff]
        simp
        omega
      go_wp2
      go_ret
      exact ⟨ret_bool hf.out.symm, hL⟩
end Go.Proofs.Ytjljaobmeaocjaa
