/- Contracts of the functions that say whether a list of records is well formed, in the program and in the model; and of the library's search with a function value. Condition: at most 1048576 records. -/
import Derived.Test.YtjljaobmeaocjaaDones
namespace Go.Proofs.Ytjljaobmeaocjaa
open Go.RowKit Go.Joins

/-- Whether a record is valid by itself. -/
def doneB (x : D) : Bool := decide (0 ≤ x.1 ∧ x.1 ≤ 3 ∧ 1 ≤ x.2.1 ∧ x.2.1 ≤ 3 ∧ 0 ≤ x.2.2.1 ∧ x.2.2.1 ≤ 3 ∧ okB x.2.2.2.1 x.2.2.2.2 = true ∧ (x.2.1 = 2 ∨ 0 < x.2.2.2.1))
theorem doneB_t {s k y t u : Int} (h : 0 ≤ s ∧ s ≤ 3 ∧ 1 ≤ k ∧ k ≤ 3 ∧ 0 ≤ y ∧ y ≤ 3 ∧ okB t u = true ∧ (k = 2 ∨ 0 < t)) : doneB (s, k, y, t, u) = true := decide_eq_true h
theorem doneB_f {s k y t u : Int} (h : ¬ (0 ≤ s ∧ s ≤ 3 ∧ 1 ≤ k ∧ k ≤ 3 ∧ 0 ≤ y ∧ y ≤ 3 ∧ okB t u = true ∧ (k = 2 ∨ 0 < t))) : doneB (s, k, y, t, u) = false := decide_eq_false h
theorem doneB_i {s k y t u : Int} (h : doneB (s, k, y, t, u) = true) : 0 ≤ s ∧ s ≤ 3 ∧ 1 ≤ k ∧ k ≤ 3 ∧ 0 ≤ y ∧ y ≤ 3 ∧ okB t u = true ∧ (k = 2 ∨ 0 < t) := of_decide_eq_true h
/-- Whether a list of records is well formed. -/
def formB (ds : List D) : Bool := decide (ds.length ≤ 80) && ds.all doneB
theorem formB_len {ds : List D} (h : ¬ ds.length ≤ 80) : formB ds = false := by unfold formB; simp; omega
theorem formB_any {ds : List D} (h : ds.length ≤ 80) : formB ds = !(ds.any fun x => !doneB x) := by
  unfold formB
  rw [decide_eq_true h, Bool.true_and]
  exact List.all_eq_not_any_not

theorem tagNeq_run (t u : Int) (W : World) : (binOp .neq 43 (.agg #[.int .i64 t, .int .i64 u]) (.agg #[.int .i64 0, .int .i64 0])).run Try.prog W = .ok (.bool (!eqB t u 0 0)) W := by
  by_cases ht : t = 0
  · subst ht
    by_cases hp : u = 0
    · subst hp
      rw [eqB_same]
      go_simp
    · have h : eqB 0 u 0 0 = false := by unfold eqB; simpa using hp
      rw [h]
      go_simp
  · have h : eqB t u 0 0 = false := by unfold eqB; simp [ht]
    rw [h]
    go_simp
theorem eqB_zero {t u : Int} (h : okB t u = true) : (!eqB t u 0 0) = decide (0 < t) := by
  have := okB_i h
  unfold eqB
  rw [Bool.eq_iff_iff]
  simp
  omega

/-- Whether a number is a key. -/
def keyB (n : Int) : Bool := decide (0 ≤ n ∧ n ≤ 3)
set_option maxHeartbeats 400000 in
theorem isKey_any (n : Int) (w : World) :
    Calls Try.prog 106 #[.int .i64 n] w fun e w' => e = .returned (.bool (keyB n)) ∧ w = w' := by
  by_cases h0 : 0 ≤ n
  · have H : Hid (keyB n = decide (n < 4)) := by
      unfold Hid keyB
      rw [Bool.eq_iff_iff]
      simp
      omega
    go_enter Try.func106, Try.ntmps106
    go_wp2
    go_ret
    exact ⟨ret_bool H.out.symm, rfl⟩
  · have H : Hid (keyB n = false) := decide_eq_false (by omega)
    go_enter Try.func106, Try.ntmps106
    go_wp2
    go_ret
    exact ⟨ret_bool H.out.symm, rfl⟩

set_option maxRecDepth 100000 in
set_option maxHeartbeats 2000000 in
theorem doneOk_any (s k y t u : Int) (w : World) :
    Calls Try.prog 88 #[.agg (doneC s k y t u)] w fun e w' => e = .returned (.bool (doneB (s, k, y, t, u))) ∧ Below w.heap.size w w' := by
  have S0 := (Inv.start w).box 53 (doneC s k y t u)
  by_cases h0 : s < 0
  · have hf := hide (doneB_f (s := s) (k := k) (y := y) (t := t) (u := u) (by omega))
    go_enter Try.func88, Try.ntmps88
    go_wp2
    go_ret
    exact ⟨ret_bool hf.out.symm, S0.below⟩
  by_cases h1 : 4 ≤ s
  · have hf := hide (doneB_f (s := s) (k := k) (y := y) (t := t) (u := u) (by omega))
    go_enter Try.func88, Try.ntmps88
    go_wp2
    go_ret
    exact ⟨ret_bool hf.out.symm, S0.below⟩
  by_cases h2 : k < 1
  · have hf := hide (doneB_f (s := s) (k := k) (y := y) (t := t) (u := u) (by omega))
    go_enter Try.func88, Try.ntmps88
    go_wp2
    go_ret
    exact ⟨ret_bool hf.out.symm, S0.below⟩
  by_cases h3 : 3 < k
  · have hf := hide (doneB_f (s := s) (k := k) (y := y) (t := t) (u := u) (by omega))
    go_enter Try.func88, Try.ntmps88
    go_wp2
    go_ret
    exact ⟨ret_bool hf.out.symm, S0.below⟩
  by_cases h4 : 0 ≤ y ∧ y ≤ 3
  · cases h5 : okB t u
    · have hf := hide (doneB_f (s := s) (k := k) (y := y) (t := t) (u := u) (fun h => by rw [h.2.2.2.2.2.2.1] at h5; cases h5))
      have H4 : Hid (keyB y = true) := decide_eq_true h4
      have H5 := hide h5
      clear h4 h5
      go_enter Try.func88, Try.ntmps88
      go_wp2_with fail
      refine (isKey_any _ _).mono ?_
      rintro e w1 ⟨rfl, rfl⟩
      rw [H4.out]
      go_wp2_with fail
      refine (implTagOk_any _ _ _).mono ?_
      rintro e w2 ⟨rfl, hb2⟩
      rw [H5.out]
      have S2 := S0.on hb2
      clear S0
      go_wp2
      go_ret
      exact ⟨ret_bool hf.out.symm, S2.below⟩
    · have H4 : Hid (keyB y = true) := decide_eq_true h4
      have H5 := hide h5
      have HZ := hide (eqB_zero h5)
      have hne := tagNeq_run t u
      by_cases h6 : k = 2
      · have hf := hide (doneB_t (s := s) (k := k) (y := y) (t := t) (u := u) ⟨by omega, by omega, by omega, by omega, h4.1, h4.2, h5, .inl h6⟩)
        clear h4 h5
        subst h6
        go_enter Try.func88, Try.ntmps88
        go_wp2_with fail
        refine (isKey_any _ _).mono ?_
        rintro e w1 ⟨rfl, rfl⟩
        rw [H4.out]
        go_wp2_with fail
        refine (implTagOk_any _ _ _).mono ?_
        rintro e w2 ⟨rfl, hb2⟩
        rw [H5.out]
        have S2 := S0.on hb2
        have k2 := (S2.nth 0 rfl).five.1
        clear S0
        go_wp2
        go_ret
        exact ⟨ret_bool hf.out.symm, S2.below⟩
      · have h6' : (k == 2) = false := by simpa using h6
        have hf : Hid (doneB (s, k, y, t, u) = (!eqB t u 0 0)) := by
          unfold Hid
          rw [HZ.out]
          unfold doneB
          rw [Bool.eq_iff_iff]
          simp
          constructor
          · intro h
            rcases h.2.2.2.2.2.2.2 with h | h
            · exact absurd h h6
            · exact h
          · intro h
            exact ⟨by omega, by omega, by omega, by omega, h4.1, h4.2, h5, .inr h⟩
        clear h4 h5 h6
        go_enter Try.func88, Try.ntmps88
        go_wp2_with fail
        refine (isKey_any _ _).mono ?_
        rintro e w1 ⟨rfl, rfl⟩
        rw [H4.out]
        go_wp2_with fail
        refine (implTagOk_any _ _ _).mono ?_
        rintro e w2 ⟨rfl, hb2⟩
        rw [H5.out]
        have S2 := S0.on hb2
        have k2 := (S2.nth 0 rfl).five.1
        clear S0
        go_wp2
        go_ret
        exact ⟨ret_bool hf.out.symm, S2.below⟩
  · have hf := hide (doneB_f (s := s) (k := k) (y := y) (t := t) (u := u) (by omega))
    have H4 : Hid (keyB y = false) := decide_eq_false h4
    clear h4
    go_enter Try.func88, Try.ntmps88
    go_wp2_with fail
    refine (isKey_any _ _).mono ?_
    rintro e w1 ⟨rfl, rfl⟩
    rw [H4.out]
    go_wp2
    go_ret
    exact ⟨ret_bool hf.out.symm, S0.below⟩

/-- A function with a body is entered. -/
theorem run_enter {f : FuncId} {fn : Func} {c : Code} (hf : Try.prog.funcs[f]? = some fn) (hname : (fn.name == "runtime.NumGoroutine") = false) (hb : fn.body = some c) (args : Array Value) (w : World) :
    (callFunc f args).run Try.prog w = .ok (.enter f args) w := by
  have h1 : fn.name ≠ "runtime.NumGoroutine" := by simpa using hname
  simp [callFunc, hf, h1, hb]
/-- A function that is entered whenever it is called. -/
def Entered (N : Nat) : Prop := ∀ (args : Array Value) (W : World), (callFunc N args).run Try.prog W = .ok (.enter N args) W
/-- The place of the first record that is such, or -1. -/
def findI (p : D → Bool) (ds : List D) : Int := match ds.findIdx? p with | some i => (i : Int) | none => -1
theorem findI_at {p : D → Bool} {ds : List D} {k : Nat} {x : D} (hx : ds[k]? = some x) (hp : p x = true) (hb : ∀ j y, j < k → ds[j]? = some y → p y = false) : findI p ds = (k : Int) := by
  have hk := (List.getElem?_eq_some_iff.1 hx).1
  have : ds.findIdx? p = some k := by
    rw [List.findIdx?_eq_some_iff_getElem]
    refine ⟨hk, by rw [(List.getElem?_eq_some_iff.1 hx).2]; exact hp, fun j hj => ?_⟩
    have := hb j ds[j] hj (List.getElem?_eq_getElem (by omega))
    simp [this]
  unfold findI
  rw [this]
theorem findI_not {p : D → Bool} {ds : List D} (hb : ∀ (j : Nat) y, ds[j]? = some y → p y = false) : findI p ds = -1 := by
  have : ds.findIdx? p = none := by
    rw [List.findIdx?_eq_none_iff]
    intro x hx
    obtain ⟨j, hj⟩ := List.getElem?_of_mem hx
    exact hb j x hj
  unfold findI
  rw [this]
theorem findI_any (p : D → Bool) (ds : List D) : decide (0 ≤ findI p ds) = ds.any p := by
  unfold findI
  cases h : ds.findIdx? p with
  | none =>
    rw [List.findIdx?_eq_none_iff] at h
    symm
    simp
    intro a b c d e hx
    simpa using h _ hx
  | some i =>
    rw [List.findIdx?_eq_some_iff_getElem] at h
    obtain ⟨hi, hp, _⟩ := h
    have : ds.any p = true := by
      rw [List.any_eq_true]
      exact ⟨_, List.getElem_mem hi, hp⟩
    rw [this]
    simp

set_option maxRecDepth 100000 in
set_option maxHeartbeats 2000000 in
theorem indexFunc_any (N : Nat) (caps : Array Value) (p : D → Bool) (a : Option Addr) (c : Nat) (ds : List D) (w : World) (hn : ds.length ≤ 1048576) (hd : Dg w w.heap.size a ds) (hc : Entered N)
    (hp : ∀ s k y t u W, Below w.heap.size w W → Calls Try.prog N (#[.agg (doneC s k y t u)] ++ caps) W fun e w' => e = .returned (.bool (p (s, k, y, t, u))) ∧ Below W.heap.size W w') :
    Calls Try.prog 105 #[.slice a ds.length c, .func (.func N) #[] caps] w fun e w' => e = .returned (.int .i64 (findI p ds)) ∧ Below w.heap.size w w' := by
  have HP := hide hp
  clear hp
  unfold Entered at hc
  generalize hnn : ds.length = n at *
  have HN := hide hnn
  clear hnn
  go_enter Try.func105, Try.ntmps105
  go_wp2
  go_loopw [8] (fun i wr => ∃ k : Nat, k ≤ n ∧ i = .int .i64 (k : Int) ∧ Hid (∀ j y, j < k → ds[j]? = some y → p y = false) ∧ Below w.heap.size w wr) (fun i _ => n - (intOf i).toNat)
  case atStart => exact ⟨0, Nat.zero_le _, rfl, fun j x hj => absurd hj (by omega), Below.refl _ _⟩
  case round =>
    obtain ⟨k, hk, rfl, hno, hL⟩ := hrel
    by_cases hlt : k < n
    · rcases hd with h0 | ⟨b, off, rfl, hb, hx⟩
      · have := HN.out; subst h0; simp at this; omega
      · have hkl : k < ds.length := by have := HN.out; omega
        have hF := (hx k _ (List.getElem?_eq_getElem hkl)).on hb hL
        have HY := hide (List.getElem?_eq_getElem hkl)
        generalize ds[k] = y at hF HY
        obtain ⟨y0, y1, y2, y3, y4⟩ := y
        clear hx
        go_wp2_with fail
        refine (HP.out y0 y1 y2 y3 y4 _ hL).mono ?_
        rintro e w1 ⟨rfl, hb1⟩
        have hL1 := hL.trans (hb1.mono hL.size)
        cases hpy : p (y0, y1, y2, y3, y4)
        · have HN1 : Hid (∀ j y, j < k + 1 → ds[j]? = some y → p y = false) := fun j x hj hx => by
            by_cases e : j = k
            · subst e
              have h1 := HY.out
              rw [h1] at hx
              injection hx with hx
              subst hx
              exact hpy
            · exact hno.out j x (by omega) hx
          clear hpy hF
          go_wp2
          exact ⟨⟨k + 1, by omega, by go_num, HN1, hL1⟩, by simp [intOf]; omega⟩
        · have hf := hide (findI_at HY.out hpy hno.out)
          clear hpy hF
          go_wp2
          go_ret
          exact ⟨ret_int hf.out.symm, hL1⟩
    · have hkn : k = n := by omega
      subst hkn
      clear hlt
      have hf := hide (findI_not (p := p) (ds := ds) fun j y hy => hno.out j y (by have := (List.getElem?_eq_some_iff.1 hy).1; have := HN.out; omega) hy)
      go_wp2
      go_ret
      exact ⟨ret_int hf.out.symm, hL⟩

set_option maxHeartbeats 1000000 in
theorem containsFunc_any (N : Nat) (caps : Array Value) (p : D → Bool) (a : Option Addr) (c : Nat) (ds : List D) (w : World) (hn : ds.length ≤ 1048576) (hd : Dg w w.heap.size a ds) (hc : Entered N)
    (hp : ∀ s k y t u W, Below w.heap.size w W → Calls Try.prog N (#[.agg (doneC s k y t u)] ++ caps) W fun e w' => e = .returned (.bool (p (s, k, y, t, u))) ∧ Below W.heap.size W w') :
    Calls Try.prog 86 #[.slice a ds.length c, .func (.func N) #[] caps] w fun e w' => e = .returned (.bool (ds.any p)) ∧ Below w.heap.size w w' := by
  have H := hide (findI_any p ds)
  have C0 := hide (indexFunc_any N caps p a c ds w hn hd hc hp)
  clear hp
  go_enter Try.func86, Try.ntmps86
  go_wp2_with fail
  refine C0.out.mono ?_
  rintro e w1 ⟨rfl, hb1⟩
  generalize findI p ds = x at H ⊢
  go_wp2
  go_ret
  exact ⟨ret_bool H.out, hb1⟩

set_option maxHeartbeats 1000000 in
theorem notOk_any (s k y t u : Int) (w : World) :
    Calls Try.prog 87 (#[.agg (doneC s k y t u)] ++ #[]) w fun e w' => e = .returned (.bool (!doneB (s, k, y, t, u))) ∧ Below w.heap.size w w' := by
  have S0 := (Inv.start w).box 53 (doneC s k y t u)
  go_enter Try.func87, Try.ntmps87
  go_wp2_with fail
  refine (doneOk_any _ _ _ _ _ _).mono ?_
  rintro e w1 ⟨rfl, hb1⟩
  have S1 := S0.on hb1
  clear S0
  generalize hx : doneB (s, k, y, t, u) = x
  have HX := hide hx
  clear hx
  go_wp2
  go_ret
  exact ⟨ret_bool (by rw [HX.out]), S1.below⟩

set_option maxHeartbeats 1000000 in
theorem wellFormed_any (a : Option Addr) (c : Nat) (ds : List D) (w : World) (hn : ds.length ≤ 1048576) (hd : Dg w w.heap.size a ds) :
    Calls Try.prog 54 #[.slice a ds.length c] w fun e w' => e = .returned (.bool (formB ds)) ∧ Below w.heap.size w w' := by
  have C0 := hide (containsFunc_any 87 #[] (fun x => !doneB x) a c ds w hn hd (run_enter Try.func87 (by kernel_rfl) rfl) (fun s k y t u W _ => notOk_any s k y t u W))
  by_cases h : ds.length ≤ 80
  · have HF := hide (formB_any h)
    have h' : (ds.length : Int) ≤ 80 := by omega
    clear h
    go_enter Try.func54, Try.ntmps54
    go_wp2_with fail
    refine C0.out.mono ?_
    rintro e w1 ⟨rfl, hb1⟩
    generalize (ds.any fun x => !doneB x) = x at HF ⊢
    go_wp2
    go_ret
    exact ⟨ret_bool HF.out.symm, hb1⟩
  · have HF := hide (formB_len h)
    have h' : ¬ (ds.length : Int) ≤ 80 := by omega
    clear h
    go_enter Try.func54, Try.ntmps54
    go_wp2
    go_ret
    exact ⟨ret_bool HF.out.symm, Below.refl _ _⟩
end Go.Proofs.Ytjljaobmeaocjaa
