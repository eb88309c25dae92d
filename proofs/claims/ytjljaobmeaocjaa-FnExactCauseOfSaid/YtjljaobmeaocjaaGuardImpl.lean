/- Contracts of the program's session guarantees: each is a predicate over pairs of records, evaluated by one generic function. Condition: at most 1048576 records. -/
import Derived.Test.YtjljaobmeaocjaaForms
namespace Go.Proofs.Ytjljaobmeaocjaa
open Go.RowKit Go.Joins

/-- Whether the first record writes what the second tells. -/
def writeOfB (z x : D) : Bool := (z.2.1 == 1) && (z.2.2.1 == x.2.2.1) && eqB z.2.2.2.1 z.2.2.2.2 x.2.2.2.1 x.2.2.2.2
/-- Whether a record tells that something was seen. -/
def seesB (x : D) : Bool := (x.2.1 == 2) || (x.2.1 == 3)
def fitsW (x : D) (f : Bool) : Bool := f || !seesB x || eqB x.2.2.2.1 x.2.2.2.2 0 0
def fitsNot (_ : D) (f : Bool) : Bool := !f
def readsBeforeB (z x : D) : Bool := (x.2.1 == 2) && (x.1 == z.1) && (x.2.2.1 == z.2.2.1) && lessB x.2.2.2.1 x.2.2.2.2 z.2.2.2.1 z.2.2.2.2
def pairReads (z x : D) : Bool := (z.2.1 == 2) && readsBeforeB z x
def pairOwn (z x : D) : Bool := (z.2.1 == 3) && readsBeforeB z x
def pairFollow (z x : D) : Bool := seesB z && (x.2.1 == 1) && (x.1 == z.1) && decide (x.2.2.2.1 ≤ z.2.2.2.1)
/-- Whether each record fits, given whether one ahead of it makes a pair with it. -/
def behB (pair : D → D → Bool) (fits : D → Bool → Bool) (ds : List D) : Bool :=
  (List.range ds.length).all fun i => match ds[i]? with | some x => fits x ((ds.take i).any fun z => pair z x) | none => true
theorem behB_f {pair : D → D → Bool} {fits : D → Bool → Bool} {ds : List D} {k : Nat} {x : D} (hx : ds[k]? = some x) (hf : fits x ((ds.take k).any fun z => pair z x) = false) : behB pair fits ds = false := by
  unfold behB
  rw [List.all_eq_false]
  have hk := (List.getElem?_eq_some_iff.1 hx).1
  exact ⟨k, by simp [hk], by simp only [hx]; simp [hf]⟩
theorem behB_t {pair : D → D → Bool} {fits : D → Bool → Bool} {ds : List D} (h : ∀ (k : Nat) x, ds[k]? = some x → fits x ((ds.take k).any fun z => pair z x) = true) : behB pair fits ds = true := by
  unfold behB
  rw [List.all_eq_true]
  intro i _
  cases hx : ds[i]? with
  | none => rfl
  | some x => exact h i x hx

theorem tagEql_run (a b t u : Int) (W : World) : (binOp .eql 43 (.agg #[.int .i64 a, .int .i64 b]) (.agg #[.int .i64 t, .int .i64 u])).run Try.prog W = .ok (.bool (eqB a b t u)) W := by
  by_cases ht : a = t
  · subst ht
    by_cases hp : b = u
    · subst hp
      rw [eqB_same]
      go_simp
    · have h : eqB a b a u = false := by unfold eqB; simpa using hp
      rw [h]
      go_simp
  · have h : eqB a b t u = false := by unfold eqB; simp [ht]
    rw [h]
    go_simp

set_option maxRecDepth 100000 in
set_option maxHeartbeats 2000000 in
theorem sees_any (s k y t u : Int) (w : World) :
    Calls Try.prog 58 (#[.agg (doneC s k y t u)] ++ #[]) w fun e w' => e = .returned (.bool (seesB (s, k, y, t, u))) ∧ Below w.heap.size w w' := by
  have S0 := (Inv.start w).box 53 (doneC s k y t u)
  cases h0 : (k == 2)
  · have H : Hid (seesB (s, k, y, t, u) = (k == 3)) := by unfold Hid seesB; simp [h0]
    go_enter Try.func58, Try.ntmps58
    go_wp2
    go_ret
    exact ⟨ret_bool H.out.symm, S0.below⟩
  · have H : Hid (seesB (s, k, y, t, u) = true) := by unfold Hid seesB; simp [h0]
    go_enter Try.func58, Try.ntmps58
    go_wp2
    go_ret
    exact ⟨ret_bool H.out.symm, S0.below⟩

set_option maxRecDepth 100000 in
set_option maxHeartbeats 2000000 in
theorem isWriteOf_any (s k y t u s' k' y' t' u' : Int) (w : World) :
    Calls Try.prog 56 (#[.agg (doneC s k y t u), .agg (doneC s' k' y' t' u')] ++ #[]) w fun e w' => e = .returned (.bool (writeOfB (s, k, y, t, u) (s', k', y', t', u'))) ∧ Below w.heap.size w w' := by
  have S0 := ((Inv.start w).box 53 (doneC s k y t u)).box 53 (doneC s' k' y' t' u')
  simp only [World.size_alloc] at S0
  have hq := tagEql_run t u t' u'
  cases h0 : (k == 1)
  · have H : Hid (writeOfB (s, k, y, t, u) (s', k', y', t', u') = false) := by unfold Hid writeOfB; simp [h0]
    go_enter Try.func56, Try.ntmps56
    go_wp2
    go_ret
    exact ⟨ret_bool (by exact H.out.symm), S0.below⟩
  cases h1 : (y == y')
  · have H : Hid (writeOfB (s, k, y, t, u) (s', k', y', t', u') = false) := by unfold Hid writeOfB; simp [h0, h1]
    go_enter Try.func56, Try.ntmps56
    go_wp2
    go_ret
    exact ⟨ret_bool (by exact H.out.symm), S0.below⟩
  have H : Hid (writeOfB (s, k, y, t, u) (s', k', y', t', u') = eqB t u t' u') := by unfold Hid writeOfB; simp [h0, h1]
  go_enter Try.func56, Try.ntmps56
  go_wp2
  go_ret
  exact ⟨ret_bool (by exact H.out.symm), S0.below⟩

set_option maxRecDepth 100000 in
set_option maxHeartbeats 2000000 in
theorem readsBefore_any (s k y t u s' k' y' t' u' : Int) (w : World) :
    Calls Try.prog 63 (#[.agg (doneC s k y t u), .agg (doneC s' k' y' t' u')] ++ #[]) w fun e w' => e = .returned (.bool (readsBeforeB (s, k, y, t, u) (s', k', y', t', u'))) ∧ Below w.heap.size w w' := by
  have S0 := ((Inv.start w).box 53 (doneC s k y t u)).box 53 (doneC s' k' y' t' u')
  simp only [World.size_alloc] at S0
  cases h0 : (k' == 2)
  · have H : Hid (readsBeforeB (s, k, y, t, u) (s', k', y', t', u') = false) := by unfold Hid readsBeforeB; simp [h0]
    go_enter Try.func63, Try.ntmps63
    go_wp2
    go_ret
    exact ⟨ret_bool (by exact H.out.symm), S0.below⟩
  cases h1 : (s' == s)
  · have H : Hid (readsBeforeB (s, k, y, t, u) (s', k', y', t', u') = false) := by unfold Hid readsBeforeB; simp [h0, h1]
    go_enter Try.func63, Try.ntmps63
    go_wp2
    go_ret
    exact ⟨ret_bool (by exact H.out.symm), S0.below⟩
  cases h2 : (y' == y)
  · have H : Hid (readsBeforeB (s, k, y, t, u) (s', k', y', t', u') = false) := by unfold Hid readsBeforeB; simp [h0, h1, h2]
    go_enter Try.func63, Try.ntmps63
    go_wp2
    go_ret
    exact ⟨ret_bool (by exact H.out.symm), S0.below⟩
  have H : Hid (readsBeforeB (s, k, y, t, u) (s', k', y', t', u') = lessB t' u' t u) := by unfold Hid readsBeforeB; simp [h0, h1, h2]
  go_enter Try.func63, Try.ntmps63
  go_wp2_with fail
  refine (less_any _ _ _ _ _).mono ?_
  rintro e w1 ⟨rfl, hb1⟩
  have S1 := S0.on hb1
  clear S0
  generalize lessB t' u' t u = b at H ⊢
  go_wp2
  go_ret
  exact ⟨ret_bool H.out.symm, S1.below⟩

set_option maxRecDepth 100000 in
set_option maxHeartbeats 2000000 in
theorem pairReads_any (s k y t u s' k' y' t' u' : Int) (w : World) :
    Calls Try.prog 62 (#[.agg (doneC s k y t u), .agg (doneC s' k' y' t' u')] ++ #[]) w fun e w' => e = .returned (.bool (pairReads (s, k, y, t, u) (s', k', y', t', u'))) ∧ Below w.heap.size w w' := by
  have S0 := ((Inv.start w).box 53 (doneC s k y t u)).box 53 (doneC s' k' y' t' u')
  simp only [World.size_alloc] at S0
  cases h0 : (k == 2)
  · have H : Hid (pairReads (s, k, y, t, u) (s', k', y', t', u') = false) := by unfold Hid pairReads; simp [h0]
    go_enter Try.func62, Try.ntmps62
    go_wp2
    go_ret
    exact ⟨ret_bool (by exact H.out.symm), S0.below⟩
  have H : Hid (pairReads (s, k, y, t, u) (s', k', y', t', u') = readsBeforeB (s, k, y, t, u) (s', k', y', t', u')) := by unfold Hid pairReads; simp [h0]
  have C := hide (readsBefore_any s k y t u s' k' y' t' u')
  go_enter Try.func62, Try.ntmps62
  go_wp2_with fail
  refine (C.out _).mono ?_
  rintro e w1 ⟨rfl, hb1⟩
  have S1 := S0.on hb1
  clear S0 C
  generalize readsBeforeB (s, k, y, t, u) (s', k', y', t', u') = b at H ⊢
  go_wp2
  go_ret
  exact ⟨ret_bool H.out.symm, S1.below⟩

set_option maxRecDepth 100000 in
set_option maxHeartbeats 2000000 in
theorem pairOwn_any (s k y t u s' k' y' t' u' : Int) (w : World) :
    Calls Try.prog 64 (#[.agg (doneC s k y t u), .agg (doneC s' k' y' t' u')] ++ #[]) w fun e w' => e = .returned (.bool (pairOwn (s, k, y, t, u) (s', k', y', t', u'))) ∧ Below w.heap.size w w' := by
  have S0 := ((Inv.start w).box 53 (doneC s k y t u)).box 53 (doneC s' k' y' t' u')
  simp only [World.size_alloc] at S0
  cases h0 : (k == 3)
  · have H : Hid (pairOwn (s, k, y, t, u) (s', k', y', t', u') = false) := by unfold Hid pairOwn; simp [h0]
    go_enter Try.func64, Try.ntmps64
    go_wp2
    go_ret
    exact ⟨ret_bool (by exact H.out.symm), S0.below⟩
  have H : Hid (pairOwn (s, k, y, t, u) (s', k', y', t', u') = readsBeforeB (s, k, y, t, u) (s', k', y', t', u')) := by unfold Hid pairOwn; simp [h0]
  have C := hide (readsBefore_any s k y t u s' k' y' t' u')
  go_enter Try.func64, Try.ntmps64
  go_wp2_with fail
  refine (C.out _).mono ?_
  rintro e w1 ⟨rfl, hb1⟩
  have S1 := S0.on hb1
  clear S0 C
  generalize readsBeforeB (s, k, y, t, u) (s', k', y', t', u') = b at H ⊢
  go_wp2
  go_ret
  exact ⟨ret_bool H.out.symm, S1.below⟩

set_option maxRecDepth 100000 in
set_option maxHeartbeats 2000000 in
theorem pairFollow_any (s k y t u s' k' y' t' u' : Int) (w : World) :
    Calls Try.prog 65 (#[.agg (doneC s k y t u), .agg (doneC s' k' y' t' u')] ++ #[]) w fun e w' => e = .returned (.bool (pairFollow (s, k, y, t, u) (s', k', y', t', u'))) ∧ Below w.heap.size w w' := by
  have S0 := ((Inv.start w).box 53 (doneC s k y t u)).box 53 (doneC s' k' y' t' u')
  simp only [World.size_alloc] at S0
  have C := hide (sees_any s k y t u)
  cases h0 : seesB (s, k, y, t, u)
  · have H : Hid (pairFollow (s, k, y, t, u) (s', k', y', t', u') = false) := by unfold Hid pairFollow; simp [h0]
    have H0 := hide h0
    clear h0
    go_enter Try.func65, Try.ntmps65
    go_wp2_with fail
    refine (C.out _).mono ?_
    rintro e w1 ⟨rfl, hb1⟩
    rw [H0.out]
    have S1 := S0.on hb1
    clear S0 C
    go_wp2
    go_ret
    exact ⟨ret_bool H.out.symm, S1.below⟩
  cases h1 : (k' == 1)
  · skip
    have H : Hid (pairFollow (s, k, y, t, u) (s', k', y', t', u') = false) := by unfold Hid pairFollow; simp [h0, h1]
    have H0 := hide h0
    clear h0
    go_enter Try.func65, Try.ntmps65
    go_wp2_with fail
    refine (C.out _).mono ?_
    rintro e w1 ⟨rfl, hb1⟩
    rw [H0.out]
    have S1 := S0.on hb1
    have k1 := (S1.nth 0 rfl).five.1
    have k2 := (S1.nth 1 rfl).five.1
    clear S0 C
    go_wp2
    go_ret
    exact ⟨ret_bool H.out.symm, S1.below⟩
  cases h2 : (s' == s)
  · skip
    have H : Hid (pairFollow (s, k, y, t, u) (s', k', y', t', u') = false) := by unfold Hid pairFollow; simp [h0, h1, h2]
    have H0 := hide h0
    clear h0
    go_enter Try.func65, Try.ntmps65
    go_wp2_with fail
    refine (C.out _).mono ?_
    rintro e w1 ⟨rfl, hb1⟩
    rw [H0.out]
    have S1 := S0.on hb1
    have k1 := (S1.nth 0 rfl).five.1
    have k2 := (S1.nth 1 rfl).five.1
    clear S0 C
    go_wp2
    go_ret
    exact ⟨ret_bool H.out.symm, S1.below⟩
  have H : Hid (pairFollow (s, k, y, t, u) (s', k', y', t', u') = decide (t' ≤ t)) := by unfold Hid pairFollow; simp [h0, h1, h2]
  have H0 := hide h0
  clear h0
  go_enter Try.func65, Try.ntmps65
  go_wp2_with fail
  refine (C.out _).mono ?_
  rintro e w1 ⟨rfl, hb1⟩
  rw [H0.out]
  have S1 := S0.on hb1
  have k1 := (S1.nth 0 rfl).five.1
  have k2 := (S1.nth 1 rfl).five.1
  clear S0 C
  go_wp2
  go_ret
  exact ⟨ret_bool H.out.symm, S1.below⟩

set_option maxRecDepth 100000 in
set_option maxHeartbeats 2000000 in
theorem fitsW_any (s k y t u : Int) (f : Bool) (w : World) :
    Calls Try.prog 57 (#[.agg (doneC s k y t u), .bool f] ++ #[]) w fun e w' => e = .returned (.bool (fitsW (s, k, y, t, u) f)) ∧ Below w.heap.size w w' := by
  have S0 := (Inv.start w).box 53 (doneC s k y t u)
  have C := hide (sees_any s k y t u)
  have hq := tagEql_run t u 0 0
  cases f
  · cases h0 : seesB (s, k, y, t, u)
    · have H : Hid (fitsW (s, k, y, t, u) false = true) := by unfold Hid fitsW; simp [h0]
      have H0 := hide h0
      clear h0
      go_enter Try.func57, Try.ntmps57
      go_wp2_with fail
      refine (C.out _).mono ?_
      rintro e w1 ⟨rfl, hb1⟩
      rw [H0.out]
      have S1 := S0.on hb1
      clear S0 C
      go_wp2
      go_ret
      exact ⟨ret_bool H.out.symm, S1.below⟩
    · have H : Hid (fitsW (s, k, y, t, u) false = eqB t u 0 0) := by unfold Hid fitsW; simp [h0]
      have H0 := hide h0
      clear h0
      go_enter Try.func57, Try.ntmps57
      go_wp2_with fail
      refine (C.out _).mono ?_
      rintro e w1 ⟨rfl, hb1⟩
      rw [H0.out]
      have S1 := S0.on hb1
      have k1 := (S1.nth 0 rfl).five.1
      clear S0 C
      go_wp2
      go_ret
      exact ⟨ret_bool H.out.symm, S1.below⟩
  · have H : Hid (fitsW (s, k, y, t, u) true = true) := rfl
    clear C
    go_enter Try.func57, Try.ntmps57
    go_wp2
    go_ret
    exact ⟨ret_bool H.out.symm, S0.below⟩
set_option maxHeartbeats 1000000 in
theorem fitsNot_any (s k y t u : Int) (f : Bool) (w : World) :
    Calls Try.prog 90 (#[.agg (doneC s k y t u), .bool f] ++ #[]) w fun e w' => e = .returned (.bool (fitsNot (s, k, y, t, u) f)) ∧ Below w.heap.size w w' := by
  have S0 := (Inv.start w).box 53 (doneC s k y t u)
  have H : Hid (fitsNot (s, k, y, t, u) f = !f) := rfl
  go_enter Try.func90, Try.ntmps90
  go_wp2
  go_ret
  exact ⟨ret_bool H.out.symm, S0.below⟩

set_option maxRecDepth 100000 in
set_option maxHeartbeats 2000000 in
theorem behClosure_any (N g1 g2 : Nat) (caps : Array Value) (b : Bool) (s k y t u s' k' y' t' u' : Int) (w : World) (hc : Entered N) (h1 : Blk w g1 59 #[.func (.func N) #[] caps]) (h2 : Blk w g2 53 (doneC s' k' y' t' u'))
    (hp : ∀ W, Below w.heap.size w W → Calls Try.prog N (#[.agg (doneC s k y t u), .agg (doneC s' k' y' t' u')] ++ caps) W fun e w' => e = .returned (.bool b) ∧ Below W.heap.size W w') :
    Calls Try.prog 89 (#[.agg (doneC s k y t u)] ++ #[.pointer (some ⟨g1, 0, none⟩), .pointer (some ⟨g2, 0, none⟩)]) w fun e w' => e = .returned (.bool b) ∧ Below w.heap.size w w' := by
  have L0 := below_alloc1 w (.cells (doneC s k y t u) 53)
  have HP := hide hp
  unfold Entered at hc
  have q1 := (h1.more (.cells (doneC s k y t u) 53)).one.1
  have q2 := (h2.more (.cells (doneC s k y t u) 53)).five.1
  have i1 := h1.inside
  have i2 := h2.inside
  have r1 := h1.one.1
  have r2 := h2.five.1
  clear hp h1 h2
  go_enter Try.func89, Try.ntmps89
  go_wp2_with fail
  refine (HP.out _ L0).mono ?_
  rintro e w1 ⟨rfl, hb1⟩
  have hl := L0.trans (hb1.mono L0.size)
  go_wp2
  go_ret
  exact ⟨rfl, hl⟩

set_option maxRecDepth 100000 in
set_option maxHeartbeats 4000000 in
theorem allBehind_any (N1 N2 : Nat) (caps1 caps2 : Array Value) (pair : D → D → Bool) (fits : D → Bool → Bool) (a : Option Addr) (c : Nat) (ds : List D) (w : World) (hn : ds.length ≤ 1048576) (hcap : ds.length ≤ c) (hd : Dg w w.heap.size a ds) (hc1 : Entered N1) (hc2 : Entered N2)
    (hp1 : ∀ s k y t u s' k' y' t' u' W, Below w.heap.size w W → Calls Try.prog N1 (#[.agg (doneC s k y t u), .agg (doneC s' k' y' t' u')] ++ caps1) W fun e w' => e = .returned (.bool (pair (s, k, y, t, u) (s', k', y', t', u'))) ∧ Below W.heap.size W w')
    (hp2 : ∀ s k y t u f W, Below w.heap.size w W → Calls Try.prog N2 (#[.agg (doneC s k y t u), .bool f] ++ caps2) W fun e w' => e = .returned (.bool (fits (s, k, y, t, u) f)) ∧ Below W.heap.size W w') :
    Calls Try.prog 55 #[.slice a ds.length c, .func (.func N1) #[] caps1, .func (.func N2) #[] caps2] w fun e w' => e = .returned (.bool (behB pair fits ds)) ∧ Below w.heap.size w w' := by
  have S0 := (Inv.start w).box 59 #[.func (.func N1) #[] caps1]
  simp only [World.size_alloc] at S0
  have HP1 := hide hp1
  have HP2 := hide hp2
  have HC1 := hide hc1
  have hin : Entered 89 := run_enter Try.func89 (by kernel_rfl) rfl
  have HIN := hide hin
  unfold Entered at hc2
  clear hp1 hp2 hc1 hin
  generalize hnn : ds.length = n at *
  have HN := hide hnn
  clear hnn
  go_enter Try.func55, Try.ntmps55
  go_wp2
  go_loopw [12] (fun i wr => ∃ k : Nat, k ≤ n ∧ i = .int .i64 (k : Int) ∧ Hid (∀ j x, j < k → ds[j]? = some x → fits x ((ds.take j).any fun z => pair z x) = true) ∧ Inv w (w.heap.size + 1) [(w.heap.size, 59, #[.func (.func N1) #[] caps1])] wr) (fun i _ => n - (intOf i).toNat)
  case atStart => exact ⟨0, Nat.zero_le _, rfl, fun j x hj => absurd hj (by omega), S0⟩
  case round =>
    obtain ⟨k, hk, rfl, hall, hI⟩ := hrel
    clear S0
    have hL := hI.below
    by_cases hlt : k < n
    · have hd' := hide hd
      rcases hd with h0 | ⟨b, off, rfl, hb, hx⟩
      · have := HN.out; subst h0; simp at this; omega
      · have hkl : k < ds.length := by have := HN.out; omega
        have hF := (hx k _ (List.getElem?_eq_getElem hkl)).on hb hL
        have HY := hide (List.getElem?_eq_getElem hkl)
        generalize ds[k] = y at hF HY
        obtain ⟨y0, y1, y2, y3, y4⟩ := y
        have hlen : (ds.take k).length = k := by simp; omega
        have HLEN := hide hlen
        have I1 := hI.top.box 53 (doneC y0 y1 y2 y3 y4)
        simp only [World.size_alloc] at I1
        have C0 := containsFunc_any 89 #[.pointer (some ⟨w.heap.size, 0, none⟩), .pointer (some ⟨wr.heap.size, 0, none⟩)] (fun z => pair z (y0, y1, y2, y3, y4)) (some ⟨b, off, none⟩) c (ds.take k) (wr.alloc (.cells (doneC y0 y1 y2 y3 y4) 53)) (by omega)
          (((hd'.out.on I1.below).up I1.base).take k) HIN.out (fun s k y t u W hW => behClosure_any N1 w.heap.size wr.heap.size caps1 _ s k y t u y0 y1 y2 y3 y4 W HC1.out ((I1.nth 1 rfl).on hW) ((I1.nth 0 rfl).on hW) (fun W' hW' => HP1.out _ _ _ _ _ _ _ _ _ _ W' ((I1.below.trans (hW.mono I1.base)).trans (hW'.mono (Nat.le_trans I1.base hW.size)))))
        rw [hlen] at C0
        have HC0 := hide C0
        have k1 : (0 : Int) ≤ (k : Int) := by omega
        have k2 : (k : Int) < (n : Int) := by omega
        have k3 : (k : Int) ≤ (c : Int) := by omega
        have k4 : ¬ (c : Int) < (k : Int) := by omega
        clear hx C0 hlen
        go_wp2_with fail
        refine HC0.out.mono ?_
        rintro e w1 ⟨rfl, hb1⟩
        have I2 := I1.on hb1
        have f1 := (I2.nth 0 rfl).five.1
        generalize hf : (ds.take k).any (fun z => pair z (y0, y1, y2, y3, y4)) = fb
        have HFB := hide hf
        have hin1 : wr.heap.size < w1.heap.size := (I2.nth 0 rfl).inside
        clear hf hF HC0 I1 hb1
        go_wp2_with fail
        refine (HP2.out _ _ _ _ _ _ _ I2.below).mono ?_
        rintro e w2 ⟨rfl, hb2⟩
        have I3 : Inv w (w.heap.size + 1) [(w.heap.size, 59, #[.func (.func N1) #[] caps1])] w2 := ⟨(I2.on hb2).below, by have := hI.room; have := hb2.size; omega, fun x hx => by
          simp only [List.mem_cons, List.not_mem_nil, or_false] at hx
          subst hx
          exact ⟨Nat.le_refl _, by simp, (I2.on hb2).nth 1 rfl⟩⟩
        clear I2 f1
        cases hft : fits (y0, y1, y2, y3, y4) fb
        · have hf := hide (behB_f (pair := pair) (fits := fits) HY.out (by rw [HFB.out]; exact hft))
          clear hft
          go_wp2
          go_ret
          exact ⟨ret_bool hf.out.symm, I3.below⟩
        · have HA : Hid (∀ j x, j < k + 1 → ds[j]? = some x → fits x ((ds.take j).any fun z => pair z x) = true) := fun j x hj hx => by
            by_cases e : j = k
            · subst e
              have h1 := HY.out
              rw [h1] at hx
              injection hx with hx
              subst hx
              rw [HFB.out]
              exact hft
            · exact hall.out j x (by omega) hx
          clear hft
          go_wp2
          exact ⟨⟨k + 1, by omega, by go_num, HA, I3⟩, by simp [intOf]; omega⟩
    · have hkn : k = n := by omega
      subst hkn
      clear hlt
      have hf := hide (behB_t (pair := pair) (fits := fits) (ds := ds) fun j x hx => hall.out j x (by have := (List.getElem?_eq_some_iff.1 hx).1; have := HN.out; omega) hx)
      go_wp2
      go_ret
      exact ⟨ret_bool hf.out.symm, hL⟩

set_option maxHeartbeats 2000000 in
theorem guarded_any (N : Nat) (pair : D → D → Bool) (a : Option Addr) (c : Nat) (ds : List D) (w : World) (hn : ds.length ≤ 1048576) (hcap : ds.length ≤ c) (hd : Dg w w.heap.size a ds) (hc : Entered N)
    (hp : ∀ s k y t u s' k' y' t' u' W, Calls Try.prog N (#[.agg (doneC s k y t u), .agg (doneC s' k' y' t' u')] ++ #[]) W fun e w' => e = .returned (.bool (pair (s, k, y, t, u) (s', k', y', t', u'))) ∧ Below W.heap.size W w') :
    Calls Try.prog 61 #[.slice a ds.length c, .func (.func N) #[] #[]] w fun e w' => e = .returned (.bool (formB ds && behB pair fitsNot ds)) ∧ Below w.heap.size w w' := by
  have C1 := hide (wellFormed_any a c ds w hn hd)
  have C2 := hide (fun W (h : Below w.heap.size w W) => allBehind_any N 90 #[] #[] pair fitsNot a c ds W hn hcap ((hd.on h).up h.size) hc (run_enter Try.func90 (by kernel_rfl) rfl) (fun s k y t u s' k' y' t' u' W' _ => hp s k y t u s' k' y' t' u' W') (fun s k y t u f W' _ => fitsNot_any s k y t u f W'))
  clear hp hc
  cases hf : formB ds
  · have H : Hid ((false && behB pair fitsNot ds) = false) := rfl
    have HF := hide hf
    clear hf
    go_enter Try.func61, Try.ntmps61
    go_wp2_with fail
    refine C1.out.mono ?_
    rintro e w1 ⟨rfl, hb1⟩
    rw [HF.out]
    go_wp2
    go_ret
    exact ⟨ret_bool rfl, hb1⟩
  · have HF := hide hf
    clear hf
    go_enter Try.func61, Try.ntmps61
    go_wp2_with fail
    refine C1.out.mono ?_
    rintro e w1 ⟨rfl, hb1⟩
    rw [HF.out]
    go_wp2_with fail
    refine (C2.out w1 hb1).mono ?_
    rintro e w2 ⟨rfl, hb2⟩
    have hl := hb1.trans (hb2.mono hb1.size)
    generalize hx : behB pair fitsNot ds = x
    have HX := hide hx
    clear hx
    go_wp2
    go_ret
    exact ⟨ret_bool (by rw [HX.out]; rfl), hl⟩

set_option maxHeartbeats 1000000 in
theorem implGuardReads_any (a : Option Addr) (c : Nat) (ds : List D) (w : World) (hn : ds.length ≤ 1048576) (hcap : ds.length ≤ c) (hd : Dg w w.heap.size a ds) :
    Calls Try.prog 21 #[.slice a ds.length c] w fun e w' => e = .returned (.bool (formB ds && behB pairReads fitsNot ds)) ∧ Below w.heap.size w w' := by
  have C := hide (guarded_any 62 pairReads a c ds w hn hcap hd (run_enter Try.func62 (by kernel_rfl) rfl) pairReads_any)
  generalize (formB ds && behB pairReads fitsNot ds) = x at C ⊢
  go_enter Try.func21, Try.ntmps21
  go_wp2_with fail
  refine C.out.mono ?_
  rintro e w1 ⟨rfl, hb1⟩
  go_wp2
  go_ret
  exact ⟨rfl, hb1⟩

set_option maxHeartbeats 1000000 in
theorem implGuardOwn_any (a : Option Addr) (c : Nat) (ds : List D) (w : World) (hn : ds.length ≤ 1048576) (hcap : ds.length ≤ c) (hd : Dg w w.heap.size a ds) :
    Calls Try.prog 23 #[.slice a ds.length c] w fun e w' => e = .returned (.bool (formB ds && behB pairOwn fitsNot ds)) ∧ Below w.heap.size w w' := by
  have C := hide (guarded_any 64 pairOwn a c ds w hn hcap hd (run_enter Try.func64 (by kernel_rfl) rfl) pairOwn_any)
  generalize (formB ds && behB pairOwn fitsNot ds) = x at C ⊢
  go_enter Try.func23, Try.ntmps23
  go_wp2_with fail
  refine C.out.mono ?_
  rintro e w1 ⟨rfl, hb1⟩
  go_wp2
  go_ret
  exact ⟨rfl, hb1⟩

set_option maxHeartbeats 1000000 in
theorem implGuardFollow_any (a : Option Addr) (c : Nat) (ds : List D) (w : World) (hn : ds.length ≤ 1048576) (hcap : ds.length ≤ c) (hd : Dg w w.heap.size a ds) :
    Calls Try.prog 25 #[.slice a ds.length c] w fun e w' => e = .returned (.bool (formB ds && behB pairFollow fitsNot ds)) ∧ Below w.heap.size w w' := by
  have C := hide (guarded_any 65 pairFollow a c ds w hn hcap hd (run_enter Try.func65 (by kernel_rfl) rfl) pairFollow_any)
  generalize (formB ds && behB pairFollow fitsNot ds) = x at C ⊢
  go_enter Try.func25, Try.ntmps25
  go_wp2_with fail
  refine C.out.mono ?_
  rintro e w1 ⟨rfl, hb1⟩
  go_wp2
  go_ret
  exact ⟨rfl, hb1⟩

set_option maxHeartbeats 2000000 in
theorem implGuardWritten_any (a : Option Addr) (c : Nat) (ds : List D) (w : World) (hn : ds.length ≤ 1048576) (hcap : ds.length ≤ c) (hd : Dg w w.heap.size a ds) :
    Calls Try.prog 18 #[.slice a ds.length c] w fun e w' => e = .returned (.bool (formB ds && behB writeOfB fitsW ds)) ∧ Below w.heap.size w w' := by
  have C1 := hide (wellFormed_any a c ds w hn hd)
  have C2 := hide (fun W (h : Below w.heap.size w W) => allBehind_any 56 57 #[] #[] writeOfB fitsW a c ds W hn hcap ((hd.on h).up h.size) (run_enter Try.func56 (by kernel_rfl) rfl) (run_enter Try.func57 (by kernel_rfl) rfl) (fun s k y t u s' k' y' t' u' W' _ => isWriteOf_any s k y t u s' k' y' t' u' W') (fun s k y t u f W' _ => fitsW_any s k y t u f W'))
  cases hf : formB ds
  · have HF := hide hf
    clear hf
    go_enter Try.func18, Try.ntmps18
    go_wp2_with fail
    refine C1.out.mono ?_
    rintro e w1 ⟨rfl, hb1⟩
    rw [HF.out]
    go_wp2
    go_ret
    exact ⟨ret_bool rfl, hb1⟩
  · have HF := hide hf
    clear hf
    go_enter Try.func18, Try.ntmps18
    go_wp2_with fail
    refine C1.out.mono ?_
    rintro e w1 ⟨rfl, hb1⟩
    rw [HF.out]
    go_wp2_with fail
    refine (C2.out w1 hb1).mono ?_
    rintro e w2 ⟨rfl, hb2⟩
    have hl := hb1.trans (hb2.mono hb1.size)
    generalize hx : behB writeOfB fitsW ds = x
    have HX := hide hx
    clear hx
    go_wp2
    go_ret
    exact ⟨ret_bool (by rw [HX.out]; rfl), hl⟩
end Go.Proofs.Ytjljaobmeaocjaa
