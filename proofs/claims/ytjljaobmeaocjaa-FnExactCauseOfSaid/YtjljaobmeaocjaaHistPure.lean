/- What a history amounts to, record by record: plain lists, no walk. -/
import Derived.Test.YtjljaobmeaocjaaPastJoin2
import Derived.Test.YtjljaobmeaocjaaForms
namespace Go.Proofs.Ytjljaobmeaocjaa

abbrev T4 := List (Int × Int)
/-- The views of the four clients; what was done, each with what was seen then. -/
abbrev St := List T4 × List (D × T4)
def st0 : St := ([z4, z4, z4, z4], [])
def viewOf (st : St) (s : Int) : T4 := st.1.getD s.toNat z4
def isW (t u : Int) (x : D × T4) : Bool := (x.1.2.1 == 1) && eqB x.1.2.2.2.1 x.1.2.2.2.2 t u
/-- The first write with a tag, and the view on which it depends. -/
def wrote (st : St) (t u : Int) : Option (D × T4) := st.2.find? (isW t u)
/-- Whether a time is later than all of a view. -/
def lateB (v : T4) (t : Int) : Bool := v.all fun x => decide (x.1 < t)
def tagAt (v : T4) (y : Int) : Int × Int := v.getD y.toNat (0, 0)
/-- A view with one tag more. -/
def withT (p : T4) (y t u : Int) : T4 := p.set y.toNat (mxp (tagAt p y) (t, u))
def sawT (v p : T4) (d : D) : T4 := withT (mxL v p) d.2.2.1 d.2.2.2.1 d.2.2.2.2
def stepH (st : St) (d : D) : Option St :=
  if (d.2.1 == 1) = true then
    (if (wrote st d.2.2.2.1 d.2.2.2.2).isSome = true then none else if lateB (viewOf st d.1) d.2.2.2.1 = true then some (st.1, st.2 ++ [(d, viewOf st d.1)]) else none)
  else if lessB d.2.2.2.1 d.2.2.2.2 (tagAt (viewOf st d.1) d.2.2.1).1 (tagAt (viewOf st d.1) d.2.2.1).2 = true then none
  else if eqB d.2.2.2.1 d.2.2.2.2 0 0 = true then some (st.1, st.2 ++ [(d, viewOf st d.1)])
  else match wrote st d.2.2.2.1 d.2.2.2.2 with
    | none => none
    | some x => if (x.1.2.2.1 == d.2.2.1) = true then (if ((d.2.1 == 3) && (x.1.1 != d.1)) = true then none else some (st.1.set d.1.toNat (sawT (viewOf st d.1) x.2 d), st.2 ++ [(d, sawT (viewOf st d.1) x.2 d)])) else none

/-- A state as it comes up: four views of four tags. -/
def StOk (st : St) : Prop := st.1.length = 4 ∧ (∀ v ∈ st.1, v.length = 4) ∧ ∀ x ∈ st.2, x.2.length = 4
theorem stOk0 : StOk st0 := ⟨rfl, by simp [st0, z4], by simp [st0]⟩
theorem viewOf_len {st : St} (h : StOk st) (s : Int) : (viewOf st s).length = 4 := by
  unfold viewOf
  rw [List.getD_eq_getElem?_getD]
  cases hx : st.1[s.toNat]? with
  | none => rfl
  | some v => exact h.2.1 v (List.mem_of_getElem? hx)
theorem wrote_len {st : St} (h : StOk st) {t u : Int} {x : D × T4} (hx : wrote st t u = some x) : x.2.length = 4 := h.2.2 x (List.mem_of_find?_eq_some hx)
theorem sawT_len {v p : T4} {d : D} (hv : v.length = 4) (hp : p.length = 4) : (sawT v p d).length = 4 := by
  unfold sawT withT mxL
  simp [hv, hp]
theorem stepH_ok {st st' : St} {d : D} (h : StOk st) (hs : stepH st d = some st') : StOk st' := by
  have hv := viewOf_len h d.1
  unfold stepH at hs
  split at hs
  · split at hs
    · cases hs
    · split at hs
      · injection hs with hs
        subst hs
        refine ⟨h.1, h.2.1, fun x hx => ?_⟩
        simp at hx
        rcases hx with hx | rfl
        · exact h.2.2 x hx
        · exact hv
      · cases hs
  · split at hs
    · cases hs
    · split at hs
      · injection hs with hs
        subst hs
        refine ⟨h.1, h.2.1, fun x hx => ?_⟩
        simp at hx
        rcases hx with hx | rfl
        · exact h.2.2 x hx
        · exact hv
      · split at hs
        · cases hs
        · rename_i x hx
          split at hs
          · split at hs
            · cases hs
            · injection hs with hs
              subst hs
              have hl := sawT_len (d := d) hv (wrote_len h hx)
              refine ⟨by simpa using h.1, fun v hv' => ?_, fun y hy => ?_⟩
              · rcases List.mem_or_eq_of_mem_set hv' with hv' | rfl
                · exact h.2.1 v hv'
                · exact hl
              · simp at hy
                rcases hy with hy | rfl
                · exact h.2.2 y hy
                · exact hl
          · cases hs
/-- The records of a state are those that came. -/
theorem stepH_recs {st st' : St} {d : D} (hs : stepH st d = some st') : st'.2.map Prod.fst = st.2.map Prod.fst ++ [d] := by
  unfold stepH at hs
  split at hs
  · split at hs
    · cases hs
    · split at hs
      · injection hs with hs
        subst hs
        simp
      · cases hs
  · split at hs
    · cases hs
    · split at hs
      · injection hs with hs
        subst hs
        simp
      · split at hs
        · cases hs
        · split at hs
          · split at hs
            · cases hs
            · injection hs with hs
              subst hs
              simp
          · cases hs

/-- All of these fit, and lead to this state. -/
def Runs (ds : List D) (st : St) : Prop := ds.foldlM stepH st0 = some st
theorem runs_nil : Runs [] st0 := rfl
theorem runs_step {ds : List D} {k : Nat} {x : D} {st st' : St} (h : Runs (ds.take k) st) (hx : ds[k]? = some x) (hs : stepH st x = some st') : Runs (ds.take (k + 1)) st' := by
  unfold Runs at *
  rw [List.take_add_one, hx, List.foldlM_append, h]
  simpa using hs
theorem runs_inv : ∀ (l : List D) (st st' : St), StOk st → l.foldlM stepH st = some st' → StOk st' ∧ st'.2.map Prod.fst = st.2.map Prod.fst ++ l
  | [], st, st', h, e => by
    simp at e
    subst e
    exact ⟨h, by simp⟩
  | d :: l, st, st', h, e => by
    simp only [List.foldlM_cons] at e
    cases hs : stepH st d with
    | none => rw [hs] at e; cases e
    | some s1 =>
      rw [hs] at e
      obtain ⟨h1, h2⟩ := runs_inv l s1 st' (stepH_ok h hs) e
      exact ⟨h1, by rw [h2, stepH_recs hs]; simp⟩
theorem Runs.ok {ds : List D} {st : St} (h : Runs ds st) : StOk st := (runs_inv ds st0 st stOk0 h).1
theorem Runs.recs {ds : List D} {st : St} (h : Runs ds st) : st.2.map Prod.fst = ds := by
  have := (runs_inv ds st0 st stOk0 h).2
  simpa [st0] using this
theorem Runs.len {ds : List D} {st : St} (h : Runs ds st) : st.2.length = ds.length := by
  have := congrArg List.length h.recs
  simpa using this

/-- How many fit, from the first on. -/
def farFrom : St → List D → Nat
  | _, [] => 0
  | st, d :: r => match stepH st d with | none => 0 | some st' => farFrom st' r + 1
def farH (ds : List D) : Nat := farFrom st0 ds
theorem farFrom_stop : ∀ (l : List D) (st st' : St) (x : D) (r : List D), l.foldlM stepH st = some st' → stepH st' x = none → farFrom st (l ++ x :: r) = l.length
  | [], st, st', x, r, e, hn => by
    simp at e
    subst e
    simp [farFrom, hn]
  | d :: l, st, st', x, r, e, hn => by
    simp only [List.foldlM_cons] at e
    cases hs : stepH st d with
    | none => rw [hs] at e; cases e
    | some s1 =>
      rw [hs] at e
      have := farFrom_stop l s1 st' x r e hn
      simp [farFrom, hs, this]
theorem farFrom_all : ∀ (l : List D) (st st' : St), l.foldlM stepH st = some st' → farFrom st l = l.length
  | [], _, _, _ => rfl
  | d :: l, st, st', e => by
    simp only [List.foldlM_cons] at e
    cases hs : stepH st d with
    | none => rw [hs] at e; cases e
    | some s1 =>
      rw [hs] at e
      simp [farFrom, hs, farFrom_all l s1 st' e]
theorem far_stop {ds : List D} {k : Nat} {x : D} {st : St} (h : Runs (ds.take k) st) (hx : ds[k]? = some x) (hn : stepH st x = none) : farH ds = k := by
  obtain ⟨hk, rfl⟩ := List.getElem?_eq_some_iff.1 hx
  have e : ds = ds.take k ++ ds[k] :: ds.drop (k + 1) := by simp
  unfold farH
  rw [e]
  have := farFrom_stop (ds.take k) st0 st ds[k] (ds.drop (k + 1)) h hn
  rw [this]
  simp
  omega
theorem far_all {ds : List D} {st : St} (h : Runs ds st) : farH ds = ds.length := farFrom_all ds st0 st h
theorem farFrom_le : ∀ (l : List D) (st : St), farFrom st l ≤ l.length
  | [], _ => Nat.le_refl _
  | d :: l, st => by
    unfold farFrom
    split
    · exact Nat.zero_le _
    · have := farFrom_le l
      rename_i s1 _
      have := this s1
      simp
      omega
theorem farFrom_runs : ∀ (l : List D) (st : St), farFrom st l = l.length → ∃ st', l.foldlM stepH st = some st'
  | [], st, _ => ⟨st, rfl⟩
  | d :: l, st, h => by
    unfold farFrom at h
    cases hs : stepH st d with
    | none => rw [hs] at h; simp at h
    | some s1 =>
      rw [hs] at h
      simp at h
      obtain ⟨st', h'⟩ := farFrom_runs l s1 h
      exact ⟨st', by simp [hs, h']⟩
theorem far_runs {ds : List D} (h : farH ds = ds.length) : ∃ st, Runs ds st := farFrom_runs ds st0 h
/-- What HistFar answers. -/
def histFar (ds : List D) : Int := if formB ds = true then (farH ds : Int) else -1
/-- What HistOk answers. -/
def histOk (ds : List D) : Bool := decide (histFar ds = (ds.length : Int))
theorem histOk_form {ds : List D} (h : histOk ds = true) : formB ds = true := by
  have := of_decide_eq_true h
  unfold histFar at this
  split at this
  · assumption
  · omega
theorem histOk_runs {ds : List D} (h : histOk ds = true) : ∃ st, Runs ds st := by
  have hf := histOk_form h
  have := of_decide_eq_true h
  unfold histFar at this
  rw [if_pos hf] at this
  exact far_runs (by omega)

/-- What was seen last by a client, other than when it wrote. -/
def lastSeen (s : Int) (l : List (D × T4)) : T4 := l.foldl (fun v x => if ((x.1.1 == s) && (x.1.2.1 != 1)) = true then x.2 else v) z4
theorem lastSeen_snoc (s : Int) (l : List (D × T4)) (x : D × T4) : lastSeen s (l ++ [x]) = if ((x.1.1 == s) && (x.1.2.1 != 1)) = true then x.2 else lastSeen s l := by
  unfold lastSeen
  rw [List.foldl_append]
  rfl
theorem step_last {st st' : St} {d : D} (hd : 0 ≤ d.1 ∧ d.1 ≤ 3) (hok : StOk st) (hs : stepH st d = some st') (h : ∀ s : Int, 0 ≤ s → s ≤ 3 → viewOf st s = lastSeen s st.2) :
    ∀ s : Int, 0 ≤ s → s ≤ 3 → viewOf st' s = lastSeen s st'.2 := by
  intro s hs0 hs3
  unfold stepH at hs
  split at hs
  · rename_i hk
    split at hs
    · cases hs
    · split at hs
      · injection hs with hs
        subst hs
        rw [lastSeen_snoc]
        have hn : (d.2.1 != 1) = false := by simpa using hk
        simp only [hn, Bool.and_false, Bool.false_eq_true, if_false]
        exact h s hs0 hs3
      · cases hs
  · rename_i hk
    have hn : (d.2.1 != 1) = true := by simpa using hk
    split at hs
    · cases hs
    · split at hs
      · injection hs with hs
        subst hs
        rw [lastSeen_snoc]
        simp only [hn, Bool.and_true]
        split
        · rename_i he
          have he' : d.1 = s := by simpa using he
          rw [he']
          rfl
        · exact h s hs0 hs3
      · split at hs
        · cases hs
        · split at hs
          · split at hs
            · cases hs
            · injection hs with hs
              subst hs
              rw [lastSeen_snoc]
              simp only [hn, Bool.and_true]
              by_cases he : d.1 = s
              · rw [if_pos (by simpa using he)]
                unfold viewOf
                rw [List.getD_eq_getElem?_getD, he, List.getElem?_set_self (by have := hok.1; omega)]
                rfl
              · rw [if_neg (by simpa using he), ← h s hs0 hs3]
                unfold viewOf
                simp only [List.getD_eq_getElem?_getD]; rw [List.getElem?_set_ne (by omega)]
          · cases hs
theorem runs_last : ∀ (l : List D) (st st' : St), (∀ d ∈ l, 0 ≤ d.1 ∧ d.1 ≤ 3) → StOk st → (∀ s : Int, 0 ≤ s → s ≤ 3 → viewOf st s = lastSeen s st.2) → l.foldlM stepH st = some st' → ∀ s : Int, 0 ≤ s → s ≤ 3 → viewOf st' s = lastSeen s st'.2
  | [], st, st', _, _, h, e => by
    simp at e
    subst e
    exact h
  | d :: l, st, st', hv, hok, h, e => by
    simp only [List.foldlM_cons] at e
    cases hs : stepH st d with
    | none => rw [hs] at e; cases e
    | some s1 =>
      rw [hs] at e
      exact runs_last l s1 st' (fun x hx => hv x (List.mem_cons_of_mem _ hx)) (stepH_ok hok hs) (step_last (hv d (List.mem_cons_self ..)) hok hs h) e
theorem Runs.last {ds : List D} {st : St} (hf : formB ds = true) (h : Runs ds st) (s : Int) (h0 : 0 ≤ s) (h3 : s ≤ 3) : viewOf st s = lastSeen s st.2 := by
  refine runs_last ds st0 st (fun d hd => ?_) stOk0 (fun s h0 h3 => ?_) h s h0 h3
  · unfold formB at hf
    rw [Bool.and_eq_true, List.all_eq_true] at hf
    obtain ⟨s, k, y, t, u⟩ := d
    have := doneB_i (hf.2 _ hd)
    exact ⟨this.1, this.2.1⟩
  · have : s = 0 ∨ s = 1 ∨ s = 2 ∨ s = 3 := by omega
    rcases this with rfl | rfl | rfl | rfl <;> rfl
end Go.Proofs.Ytjljaobmeaocjaa
