/- Whether a row of versions is a valid store, said plainly; contracts of the program's and the model's functions that say so. Condition: at most 1048576 versions, and tags of each. -/
import Derived.Test.YtgofeljmpkhkbaaStores2
import Derived.Test.YtgofeljmpkhkbaaVerOk
import Derived.Test.YtgofeljmpkhkbaaVerSpec
namespace Go.Proofs.Ytgofeljmpkhkbaa
open Go.RowKit Go.Joins

/-- Whether this is no version. -/
def noneC (k t u : Int) (n : Nat) (s : ByteArray) (g : Bool) : Bool := decide (k = 0) && decide (t = 0 ∧ u = 0) && decide (n = 0) && s.toList.isEmpty && !g
theorem noneC_f {k t u : Int} {n : Nat} {s : ByteArray} {g : Bool} (h : ¬ k = 0 ∨ ¬ (t = 0 ∧ u = 0) ∨ ¬ n = 0 ∨ s.toList.isEmpty = false ∨ g = true) : noneC k t u n s g = false := by
  unfold noneC
  rcases h with h | h | h | h | h
  · rw [decide_eq_false h]; rfl
  · rw [decide_eq_false h]; simp
  · rw [decide_eq_false h]; simp
  · rw [h]; simp
  · rw [h]; simp
theorem noneC_t {s : ByteArray} (h : s.toList.isEmpty = true) : noneC 0 0 0 0 s false = true := by
  unfold noneC
  rw [h]
  rfl
theorem noneC_tag {k t u : Int} {n : Nat} {s : ByteArray} {g : Bool} (h : noneC k t u n s g = true) : t = 0 ∧ u = 0 := by
  apply Classical.byContradiction
  intro hn
  rw [noneC_f (.inr (.inl hn))] at h
  cases h
/-- Whether this version may lie at place i. -/
def slotB (i : Nat) (v : V) : Bool := noneC v.k v.t v.u v.ts.length v.s v.g || (decide (v.k = i) && verB v.k v.t v.u v.ts v.s v.g)
/-- Whether these versions are a store. -/
def storeB (vs : List V) : Bool := decide (vs.length = 4) && (List.range vs.length).all fun i => match vs[i]? with | some v => slotB i v | none => true
theorem storeB_len {vs : List V} (h : ¬ vs.length = 4) : storeB vs = false := by unfold storeB; simp [h]
theorem storeB_bad {vs : List V} {i : Nat} {v : V} (hi : vs[i]? = some v) (h : slotB i v = false) : storeB vs = false := by
  unfold storeB
  have : ((List.range vs.length).all fun i => match vs[i]? with | some v => slotB i v | none => true) = false := by
    rw [List.all_eq_false]
    exact ⟨i, by simpa using (List.getElem?_eq_some_iff.1 hi).1, by simp [hi, h]⟩
  rw [this]
  simp
theorem storeB_ok {vs : List V} (hl : vs.length = 4) (h : ∀ (i : Nat) (v : V), vs[i]? = some v → slotB i v = true) : storeB vs = true := by
  unfold storeB
  have : ((List.range vs.length).all fun i => match vs[i]? with | some v => slotB i v | none => true) = true := by
    rw [List.all_eq_true]
    intro i _
    cases hi : vs[i]? with
    | none => rfl
    | some v => exact h i v hi
  rw [this, decide_eq_true hl]
  rfl
theorem slot_step {vs : List V} {k : Nat} {v : V} (hA : ∀ (i : Nat) (v : V), i < k → vs[i]? = some v → slotB i v = true) (hk : vs[k]? = some v) (h : slotB k v = true) : ∀ (i : Nat) (v : V), i < k + 1 → vs[i]? = some v → slotB i v = true := fun i x hi hx => by
  by_cases e : i = k
  · subst e
    rw [hk] at hx
    injection hx with hx
    subst hx
    exact h
  · exact hA i x (by omega) hx
theorem storeB_like {vs us : List V} (hl : us.length = vs.length) (h : Like us vs) : storeB us = storeB vs := by
  have hs : ∀ i, (match us[i]? with | some v => slotB i v | none => true) = (match vs[i]? with | some v => slotB i v | none => true) := by
    intro i
    by_cases hi : i < us.length
    · have hi' : i < vs.length := by omega
      rw [List.getElem?_eq_getElem hi, List.getElem?_eq_getElem hi']
      obtain ⟨e1, e2, e3, e4, e5, e6⟩ := h i _ _ (List.getElem?_eq_getElem hi) (List.getElem?_eq_getElem hi')
      simp only [slotB, e1, e2, e3, e4, e5, e6]
    · rw [List.getElem?_eq_none (by omega), List.getElem?_eq_none (by omega)]
  unfold storeB
  rw [hl]
  congr 1
  exact congrArg (fun f => (List.range vs.length).all f) (funext hs)

theorem tagEql_ne {t u : Int} (h : ¬ (t = 0 ∧ u = 0)) (W : World) : (binOp .eql 27 (.agg #[.int .i64 t, .int .i64 u]) (.agg #[.int .i64 0, .int .i64 0])).run Try.prog W = .ok (.bool false) W := by
  by_cases ht : t = 0
  · have hp : ¬ u = 0 := fun e => h ⟨ht, e⟩
    subst ht
    go_simp
  · go_simp
theorem tagNeq_ne {t u : Int} (h : ¬ (t = 0 ∧ u = 0)) (W : World) : (binOp .neq 27 (.agg #[.int .i64 t, .int .i64 u]) (.agg #[.int .i64 0, .int .i64 0])).run Try.prog W = .ok (.bool true) W := by
  by_cases ht : t = 0
  · have hp : ¬ u = 0 := fun e => h ⟨ht, e⟩
    subst ht
    go_simp
  · go_simp

set_option maxRecDepth 100000 in
set_option maxHeartbeats 1000000 in
theorem equalTags_zero (a : Option Addr) (c : Nat) (w : World) :
    Calls Try.prog 67 #[.slice a 0 c, .slice none 0 0] w fun e w' => e = .returned (.bool true) ∧ w = w' := by
  go_enter Try.func67, Try.ntmps67
  go_wp2
  go_loop [13] (fun i => i = .int .i64 0) (fun _ => 0)
  case atStart => rfl
  case round =>
    obtain rfl := hrel
    go_wp2
    go_ret
    exact ⟨rfl, rfl⟩
set_option maxHeartbeats 1000000 in
theorem equalTags_more (a : Option Addr) (n c : Nat) (w : World) (hn : ¬ n = 0) :
    Calls Try.prog 67 #[.slice a n c, .slice none 0 0] w fun e w' => e = .returned (.bool false) ∧ w = w' := by
  have hn' : ((n : Int) != 0) = true := by simp; omega
  clear hn
  go_enter Try.func67, Try.ntmps67
  go_wp2
  go_ret
  exact ⟨rfl, rfl⟩

set_option maxRecDepth 100000 in
set_option maxHeartbeats 2000000 in
theorem verSameZero_any (k t u : Int) (a : Option Addr) (n c : Nat) (s : ByteArray) (g : Bool) (w : World) :
    Calls Try.prog 59 #[.agg (verC k t u a n c s g), .agg (verC 0 0 0 none 0 0 ⟨#[]⟩ false)] w fun e w' => e = .returned (.bool (noneC k t u n s g)) ∧ Below w.heap.size w w' := by
  have S0 := ((Inv.start w).box 32 (verC k t u a n c s g)).box 32 (verC 0 0 0 none 0 0 ⟨#[]⟩ false)
  by_cases hk : k = 0
  · subst hk
    by_cases ht : t = 0 ∧ u = 0
    · obtain ⟨rfl, rfl⟩ := ht
      by_cases hn : n = 0
      · subst hn
        cases hs : s.toList.isEmpty
        · have hf := hide (noneC_f (k := 0) (t := 0) (u := 0) (n := 0) (g := g) (.inr (.inr (.inr (.inl hs)))))
          go_enter Try.func59, Try.ntmps59
          go_wp2_with fail
          refine (equalTags_zero _ _ _).mono ?_
          rintro e w1 ⟨rfl, rfl⟩
          go_wp2
          go_ret
          exact ⟨ret_bool hf.out.symm, S0.below⟩
        · cases g
          · have hf := hide (noneC_t hs)
            go_enter Try.func59, Try.ntmps59
            go_wp2_with fail
            refine (equalTags_zero _ _ _).mono ?_
            rintro e w1 ⟨rfl, rfl⟩
            go_wp2
            go_ret
            exact ⟨ret_bool hf.out.symm, S0.below⟩
          · have hf := hide (noneC_f (k := 0) (t := 0) (u := 0) (n := 0) (s := s) (g := true) (.inr (.inr (.inr (.inr rfl)))))
            go_enter Try.func59, Try.ntmps59
            go_wp2_with fail
            refine (equalTags_zero _ _ _).mono ?_
            rintro e w1 ⟨rfl, rfl⟩
            go_wp2
            go_ret
            exact ⟨ret_bool hf.out.symm, S0.below⟩
      · have hf := hide (noneC_f (k := 0) (t := 0) (u := 0) (s := s) (g := g) (.inr (.inr (.inl hn))))
        go_enter Try.func59, Try.ntmps59
        go_wp2_with fail
        refine (equalTags_more _ _ _ _ hn).mono ?_
        rintro e w1 ⟨rfl, rfl⟩
        go_wp2
        go_ret
        exact ⟨ret_bool hf.out.symm, S0.below⟩
    · have hf := hide (noneC_f (k := 0) (n := n) (s := s) (g := g) (.inr (.inl ht)))
      have he := tagEql_ne ht
      clear ht
      go_enter Try.func59, Try.ntmps59
      go_wp2
      go_ret
      exact ⟨ret_bool hf.out.symm, S0.below⟩
  · have hf := hide (noneC_f (t := t) (u := u) (n := n) (s := s) (g := g) (.inl hk))
    have hk' : (k == 0) = false := by simpa using hk
    clear hk
    go_enter Try.func59, Try.ntmps59
    go_wp2
    go_ret
    exact ⟨ret_bool hf.out.symm, S0.below⟩

set_option maxHeartbeats 1000000 in
theorem verNone_any (k t u : Int) (a : Option Addr) (n c : Nat) (s : ByteArray) (g : Bool) (w : World) :
    Calls Try.prog 33 #[.agg (verC k t u a n c s g)] w fun e w' => e = .returned (.bool (noneC k t u n s g)) ∧ Below w.heap.size w w' := by
  have S0 := (Inv.start w).box 32 (verC k t u a n c s g)
  go_enter Try.func33, Try.ntmps33
  go_wp2_with fail
  refine (verSameZero_any _ _ _ _ _ _ _ _ _).mono ?_
  rintro e w1 ⟨rfl, hb⟩
  have hl := (S0.on hb).below
  clear S0 hb
  go_wp2
  go_ret
  exact ⟨rfl, hl⟩
end Go.Proofs.Ytgofeljmpkhkbaa
