/- Plain facts on stores that are added to and joined. -/
import Derived.Test.YtgofeljmpkhkbaaStoreJoin
import Derived.Test.YtgofeljmpkhkbaaPastPure2
import Derived.Test.YtgofeljmpkhkbaaStoreNew0
namespace Go.Proofs.Ytgofeljmpkhkbaa

/-- The later one of two versions. -/
def later (x y : V) : V := if lessB x.t x.u y.t y.u = true then y else x
theorem later_or (x y : V) : later x y = x ∨ later x y = y := by
  unfold later
  split
  · exact .inr rfl
  · exact .inl rfl
theorem storeB_mk {vs : List V} (h4 : vs.length = 4) (h : ∀ (i : Nat) v, vs[i]? = some v → slotB i v = true) : storeB vs = true := by
  unfold storeB
  rw [decide_eq_true h4, Bool.true_and, List.all_eq_true]
  intro i _
  cases hx : vs[i]? with
  | none => rfl
  | some v => exact h i v hx
theorem slot_tag {i : Nat} {v : V} (h : slotB i v = true) : okB v.t v.u = true := by
  cases hn : noneC v.k v.t v.u v.ts.length v.s v.g with
  | true =>
    unfold noneC at hn
    simp at hn
    rw [hn.1.1.1.2.1, hn.1.1.1.2.2]
    decide
  | false =>
    cases ho : okB v.t v.u with
    | true => rfl
    | false =>
      rw [slotB_bad hn (verB_f (.inr (.inr (.inl ho))))] at h
      cases h
theorem slot_own {i : Nat} {v : V} (h : slotB i v = true) (ht : 0 < v.t) : v.k = i := by
  have hn : noneC v.k v.t v.u v.ts.length v.s v.g = false := noneC_f (.inr (.inl (by omega)))
  apply Classical.byContradiction
  intro hk
  rw [slotB_key hn hk] at h
  cases h
theorem ver_slot {v : V} {i : Nat} (h : verV v = true) (hk : v.k = i) : slotB i v = true := by
  unfold slotB
  rw [decide_eq_true hk]
  unfold verV at h
  rw [h]
  simp
theorem ver_key {v : V} (h : verV v = true) : 0 ≤ v.k ∧ v.k ≤ 3 := by
  apply Classical.byContradiction
  intro hn
  unfold verV at h
  rw [verB_f (.inl hn)] at h
  cases h
theorem keepL_at {vs : List V} {v x : V} {i : Nat} (hx : vs[i]? = some x) : (keepL vs v)[i]? = some (if i = v.k.toNat then later x v else x) := by
  unfold keepL
  by_cases e : i = v.k.toNat
  · subst e
    rw [hx, if_pos rfl]
    unfold later
    simp only
    split
    · rw [List.getElem?_set_self (List.getElem?_eq_some_iff.1 hx).1]
    · exact hx
  · rw [if_neg e]
    split
    · split
      · rw [List.getElem?_set_ne (fun e' => e e'.symm)]
        exact hx
      · exact hx
    · exact hx
theorem store_keep {vs : List V} {v : V} (h : storeB vs = true) (hv : verV v = true) : storeB (keepL vs v) = true := by
  have h4 := storeB_four h
  refine storeB_mk (by rw [keepL_len]; exact h4) (fun i y hy => ?_)
  have hi : i < vs.length := by have := (List.getElem?_eq_some_iff.1 hy).1; rw [keepL_len] at this; exact this
  have hx := List.getElem?_eq_getElem hi
  rw [keepL_at hx] at hy
  injection hy with hy
  subst hy
  have hs := store_slot h hx
  by_cases e : i = v.k.toNat
  · rw [if_pos e]
    rcases later_or vs[i] v with q | q <;> rw [q]
    · exact hs
    · exact ver_slot hv (by have := ver_key hv; omega)
  · rw [if_neg e]
    exact hs
theorem later_late (x y : V) : later (later x y) y = later x y := by
  unfold later lessB
  simp only [decide_eq_true_eq]
  split
  · rw [if_neg (by omega)]
  · rfl
theorem later_swap (x y z : V) (h : ¬ (y.t = z.t ∧ y.u = z.u)) : later (later x y) z = later (later x z) y := by
  unfold later lessB
  simp only [decide_eq_true_eq]
  by_cases a : x.t < y.t ∨ x.t = y.t ∧ x.u < y.u <;> by_cases b : x.t < z.t ∨ x.t = z.t ∧ x.u < z.u
  · rw [if_pos a, if_pos b]
    by_cases c : y.t < z.t ∨ y.t = z.t ∧ y.u < z.u
    · rw [if_pos c, if_neg (by omega)]
    · rw [if_neg c, if_pos (by omega)]
  · rw [if_pos a, if_neg b, if_neg (by omega), if_pos a]
  · rw [if_neg a, if_pos b, if_neg (by omega)]
  · rw [if_neg a, if_neg b, if_neg a]
theorem keep_ext {us vs : List V} (hl : us.length = vs.length) (h : ∀ (i : Nat) x y, us[i]? = some x → vs[i]? = some y → x = y) : us = vs := by
  apply List.ext_getElem?
  intro i
  by_cases hi : i < us.length
  · have h1 := List.getElem?_eq_getElem hi
    have h2 := List.getElem?_eq_getElem (l := vs) (i := i) (by omega)
    rw [h1, h2, h i _ _ h1 h2]
  · rw [List.getElem?_eq_none (by omega), List.getElem?_eq_none (by omega)]
theorem keep_twice (vs : List V) (v : V) : keepL (keepL vs v) v = keepL vs v := by
  refine keep_ext (by rw [keepL_len]) (fun i a b ha hb => ?_)
  have hi : i < vs.length := by have := (List.getElem?_eq_some_iff.1 hb).1; rw [keepL_len] at this; exact this
  have hx := List.getElem?_eq_getElem hi
  have h1 := keepL_at (v := v) hx
  rw [h1] at hb
  rw [keepL_at h1] at ha
  injection ha with ha
  injection hb with hb
  subst ha hb
  by_cases e : i = v.k.toNat
  · rw [if_pos e, if_pos e]; exact later_late _ _
  · rw [if_neg e, if_neg e]
theorem keep_swap (vs : List V) (v u : V) (h : ¬ (v.t = u.t ∧ v.u = u.u)) : keepL (keepL vs v) u = keepL (keepL vs u) v := by
  refine keep_ext (by rw [keepL_len, keepL_len, keepL_len, keepL_len]) (fun i a b ha hb => ?_)
  have hi : i < vs.length := by have := (List.getElem?_eq_some_iff.1 hb).1; rw [keepL_len, keepL_len] at this; exact this
  have hx := List.getElem?_eq_getElem hi
  rw [keepL_at (keepL_at (v := v) hx)] at ha
  rw [keepL_at (keepL_at (v := u) hx)] at hb
  injection ha with ha
  injection hb with hb
  subst ha hb
  by_cases e : i = v.k.toNat <;> by_cases f : i = u.k.toNat
  · rw [if_pos e, if_pos f, if_pos f, if_pos e]; exact later_swap _ _ _ h
  · rw [if_neg f, if_pos e, if_pos e, if_neg f]
  · rw [if_pos f, if_neg e, if_neg e, if_pos f]
  · rw [if_neg f, if_neg e, if_neg e, if_neg f]

/-- What two stores come to, version by version. -/
theorem fold_at {vs bs : List V} (hv : storeB vs = true) (hb : storeB bs = true) : ∀ (n : Nat), n ≤ 4 → ∀ (i : Nat) x y, vs[i]? = some x → bs[i]? = some y → (foldK vs (bs.take n))[i]? = some (if i < n then later x y else x)
  | 0, _, i, x, y, hx, _ => by
    rw [if_neg (by omega)]
    exact hx
  | n + 1, hn, i, x, y, hx, hy => by
    have h4 := storeB_four hb
    have hnb := List.getElem?_eq_getElem (l := bs) (i := n) (by omega)
    have ih := fold_at hv hb n (by omega) i x y hx hy
    have hsl := store_slot hb hnb
    rw [foldK_step hnb]
    by_cases ht : 0 < bs[n].t
    · have hk := slot_own hsl ht
      rw [keepL_at ih]
      by_cases e : i = n
      · subst e
        rw [if_pos (by rw [hk]; simp), if_neg (by omega), if_pos (by omega)]
        rw [hnb] at hy
        injection hy with hy
        rw [hy]
      · rw [if_neg (by rw [hk]; simpa using e)]
        by_cases f : i < n
        · rw [if_pos f, if_pos (by omega)]
        · rw [if_neg f, if_neg (by omega)]
    · obtain ⟨_, h1, h2⟩ := slot_late hsl ht
      rw [keep_none (late_fold hv hb n) h1 h2, ih]
      by_cases e : i = n
      · subst e
        rw [hnb] at hy
        injection hy with hy
        rw [if_neg (by omega), if_pos (by omega)]
        have hlt : lessB x.t x.u y.t y.u = false := by rw [← hy, h1, h2]; exact late_store hv x (List.mem_of_getElem? hx)
        unfold later
        rw [hlt]
        rfl
      · by_cases f : i < n
        · rw [if_pos f, if_pos (by omega)]
        · rw [if_neg f, if_neg (by omega)]
theorem fold_all {vs bs : List V} (hv : storeB vs = true) (hb : storeB bs = true) {i : Nat} {x y : V} (hx : vs[i]? = some x) (hy : bs[i]? = some y) : (foldK vs bs)[i]? = some (later x y) := by
  have h := fold_at hv hb 4 (Nat.le_refl _) i x y hx hy
  have h4 := storeB_four hb
  rw [List.take_of_length_le (by omega), if_pos (by have := (List.getElem?_eq_some_iff.1 hy).1; omega)] at h
  exact h
theorem join_two {vs bs : List V} (hv : storeB vs = true) (hb : storeB bs = true) : joinR vs bs = foldK vs bs := by
  unfold joinR
  rw [hv, hb]
  rfl
theorem store_join {vs bs : List V} (hv : storeB vs = true) (hb : storeB bs = true) : storeB (joinR vs bs) = true := by
  rw [join_two hv hb]
  have h4 := storeB_four hv
  have h4' := storeB_four hb
  refine storeB_mk (by rw [foldK_len]; exact h4) (fun i z hz => ?_)
  have hi : i < vs.length := by have := (List.getElem?_eq_some_iff.1 hz).1; rw [foldK_len] at this; exact this
  have hx := List.getElem?_eq_getElem hi
  have hy := List.getElem?_eq_getElem (l := bs) (i := i) (by omega)
  rw [fold_all hv hb hx hy] at hz
  injection hz with hz
  subst hz
  rcases later_or vs[i] bs[i] with q | q <;> rw [q]
  · exact store_slot hv hx
  · exact store_slot hb hy
theorem past_tags {vs : List V} (hv : storeB vs = true) : pastB (tagsL vs) = true := by
  unfold pastB
  rw [decide_eq_true (by rw [tagsL_len]; exact storeB_four hv), Bool.true_and, List.all_eq_true]
  intro x hx
  unfold tagsL at hx
  rw [List.mem_map] at hx
  obtain ⟨v, hv', rfl⟩ := hx
  obtain ⟨i, hi⟩ := List.getElem?_of_mem hv'
  exact slot_tag (store_slot hv hi)
theorem later_tag (x y : V) : ((later x y).t, (later x y).u) = mxp (x.t, x.u) (y.t, y.u) := by
  unfold later mxp mxT mxP
  simp only
  split <;> rfl
theorem tags_join {vs bs : List V} (hv : storeB vs = true) (hb : storeB bs = true) : tagsR (joinR vs bs) = joinL (tagsR vs) (tagsR bs) := by
  have hj := store_join hv hb
  unfold tagsR
  rw [if_pos hj, if_pos hv, if_pos hb, join_eq (past_tags hv) (past_tags hb), join_two hv hb]
  have h4 := storeB_four hv
  have h4' := storeB_four hb
  apply List.ext_getElem?
  intro i
  by_cases hi : i < 4
  · have hx := List.getElem?_eq_getElem (l := vs) (i := i) (by omega)
    have hy := List.getElem?_eq_getElem (l := bs) (i := i) (by omega)
    rw [tagsL_at (fold_all hv hb hx hy), mxL_at (tagsL_at hx) (tagsL_at hy), later_tag]
  · rw [List.getElem?_eq_none (by rw [tagsL_len, foldK_len]; omega), List.getElem?_eq_none (by unfold mxL; rw [List.length_zipWith, tagsL_len, tagsL_len]; omega)]
theorem join_own {vs : List V} (hv : storeB vs = true) : joinR vs vs = vs := by
  rw [join_two hv hv]
  refine keep_ext (foldK_len _ _) (fun i a b ha hb => ?_)
  rw [fold_all hv hv hb hb] at ha
  injection ha with ha
  rw [← ha]
  rcases later_or b b with q | q <;> rw [q]
theorem no_bytes : (ByteArray.mk #[]).toList = [] := by
  rw [ByteArray.toList, ByteArray.toList.loop, if_neg (by decide)]
  rfl
theorem store_zero : storeB [v0, v0, v0, v0] = true := storeB_mk rfl (fun i v hi => by
  rw [v0_mem hi]
  exact slotB_none (noneC_t (by show (ByteArray.mk #[]).toList.isEmpty = true; rw [no_bytes]; rfl)))
theorem join_zero {vs : List V} (hv : storeB vs = true) : joinR vs [v0, v0, v0, v0] = vs := by
  rw [join_two hv store_zero]
  refine keep_ext (foldK_len _ _) (fun i a b ha hb => ?_)
  have h4 := storeB_four hv
  have hi := (List.getElem?_eq_some_iff.1 hb).1
  have hy := List.getElem?_eq_getElem (l := [v0, v0, v0, v0]) (i := i) (by simp; omega)
  rw [fold_all hv store_zero hb hy] at ha
  injection ha with ha
  have e := v0_mem hy
  rw [← ha, e]
  unfold later
  have : lessB b.t b.u v0.t v0.u = false := late_store hv b (List.mem_of_getElem? hb)
  rw [this]
  rfl
end Go.Proofs.Ytgofeljmpkhkbaa
