/- Contracts of the functions that copy a row of versions, of program and model. Condition: at most 1048576 versions, and causes of each. -/
import Derived.Test.YtpkoidbenojkmaaVerClone
namespace Go.Proofs.Ytpkoidbenojkmaa
open Go.RowKit Go.Joins
attribute [local go_sem ↓] Go.wp_at_zero Go.wp_at_succ

/-- The cells of a row of versions. -/
def cells6 (v : V) : List Value := [.int .i64 v.k, .int .i64 v.t, .int .i64 v.u, .slice v.a v.ts.length v.c, .string v.s, .bool v.g]
def flat6 (us : List V) : List Value := us.flatMap cells6
theorem flat6_snoc (us : List V) (v : V) : flat6 (us ++ [v]) = flat6 us ++ cells6 v := by simp [flat6]
theorem flat6_len (us : List V) : (flat6 us).length = us.length * 6 := by
  induction us with
  | nil => rfl
  | cons x r ih => simp [flat6, cells6] at *; omega
theorem flat6_at : ∀ (us : List V) (i : Nat) (v : V) (m : Nat), us[i]? = some v → m < 6 → (flat6 us)[i * 6 + m]? = (cells6 v)[m]?
  | [], i, v, m, h, _ => by simp at h
  | x :: r, 0, v, m, h, hm => by
    simp at h
    subst h
    have e : flat6 (x :: r) = cells6 x ++ flat6 r := by simp [flat6]
    rw [e, Nat.zero_mul, Nat.zero_add, List.getElem?_append_left (by simp [cells6]; omega)]
  | x :: r, i + 1, v, m, h, hm => by
    have e : flat6 (x :: r) = cells6 x ++ flat6 r := by simp [flat6]
    have h6 : (cells6 x).length = 6 := rfl
    rw [e, List.getElem?_append_right (by omega), h6]
    have : (i + 1) * 6 + m - 6 = i * 6 + m := by omega
    rw [this]
    exact flat6_at r i v m (by simpa using h) hm
theorem verAt_of {cur : Array Value} {us : List V} {n : Nat} (h : cur.toList.take n = flat6 us) (i : Nat) (v : V) (hi : us[i]? = some v) : VerAt cur i v := by
  have key : ∀ m, m < 6 → cur[i * 6 + m]? = (cells6 v)[m]? := by
    intro m hm
    have h1 := flat6_at us i v m hi hm
    rw [← h] at h1
    have h2 : ∃ u, (cells6 v)[m]? = some u := ⟨_, List.getElem?_eq_getElem (by simp [cells6]; omega)⟩
    obtain ⟨u, hu⟩ := h2
    rw [hu] at h1 ⊢
    obtain ⟨hl, _⟩ := List.getElem?_eq_some_iff.1 h1
    rw [List.length_take] at hl
    rw [List.getElem?_take_of_lt (by omega)] at h1
    simpa using h1
  exact ⟨key 0 (by omega), key 1 (by omega), key 2 (by omega), key 3 (by omega), key 4 (by omega), key 5 (by omega)⟩

/-- A row of copies as it grows. -/
structure CRow (base : Nat) (wr : World) (x : Value) (us : List V) : Prop where
  row : wr.ownsRow base 74 6 x us.length (flat6 us)
  own : ∀ (i : Nat) v, us[i]? = some v → Own1 wr base wr.heap.size v
  apart : ∀ (i j : Nat) v v', i ≠ j → us[i]? = some v → us[j]? = some v' → v.ts ≠ [] → v'.ts ≠ [] → v.a ≠ v'.a
  lo : base ≤ wr.heap.size
theorem CRow.start (base : Nat) (w : World) (h : base ≤ w.heap.size) : CRow base w (.slice none 0 0) [] :=
  ⟨World.ownsRow_nil _ _ _ _, fun i v h => by simp at h, fun i j v v' _ h => by simp at h, h⟩
theorem CRow.typed {base : Nat} {wr : World} {x : Value} {us : List V} (h : CRow base wr x us) (r : Nat) (hr : x.ownBlock = some r) : ∃ cs, Blk wr r 74 cs ∧ base ≤ r ∧ r < wr.heap.size := by
  rcases h.row.2 with ⟨rfl, _⟩ | ⟨g', cap, cr, rfl, hg', hb', _⟩
  · simp [Value.ownBlock] at hr
  · simp [Value.ownBlock] at hr
    subst hr
    exact ⟨cr, hb', hg', Blk.inside hb'⟩
theorem CRow.form {base : Nat} {wr : World} {x : Value} {us : List V} (h : CRow base wr x us) : ∃ A n c, x = .slice A n c := by
  rcases h.row.2 with ⟨rfl, _⟩ | ⟨g', cap, cr, rfl, hg', hb', _⟩
  · exact ⟨_, _, _, rfl⟩
  · exact ⟨_, _, _, rfl⟩
theorem CRow.on {base : Nat} {wr w2 : World} {x : Value} {us : List V} (h : CRow base wr x us) (hb : Below wr.heap.size wr w2) : CRow base w2 x us :=
  ⟨World.ownsRow.kept h.row (grown_none (row := none) hb) (Classical.em _), fun i v hi => ((h.own i v hi).on hb).wide hb.size, h.apart, Nat.le_trans h.lo hb.size⟩
/-- A store into a block below the row's, that holds no tags. -/
theorem CRow.aside {base : Nat} {wr : World} {x : Value} {us : List V} (h : CRow base wr x us) {p : Addr} {T : TypeId} {cs : Array Value} (hb : Blk wr p.block T cs) (hT : T ≠ 55) (hp : p.block < base) (u : Value) : CRow base (wr.setCell p u) x us :=
  ⟨ownsRow_setCell_below h.row hp u, fun i v hi => by
    have := (h.own i v hi).tk (.set hb hT u)
    simpa [World.setCell] using this, h.apart, by simpa [World.setCell] using h.lo⟩
/-- One copy more. -/
theorem CRow.push {base : Nat} {wr w1 w2 : World} {x : Value} {us : List V} {v : V} {B g cap : Nat} (h : CRow base wr x us) (hb : Below wr.heap.size wr w1) (hB : wr.heap.size ≤ B) (ho : Own1 w1 B w1.heap.size v)
    (hown : w2.ownsRow base 74 6 (.slice (some ⟨g, 0, none⟩) (us.length + 1) cap) (us.length + 1) (flat6 us ++ cells6 v)) (hg : w1.grownBy w2 x.ownBlock) : CRow base w2 (.slice (some ⟨g, 0, none⟩) (us.length + 1) cap) (us ++ [v]) := by
  have hk : Tk w1 w2 := .grown hg fun r hr => by
    obtain ⟨cs, h1, _⟩ := h.typed r hr
    exact ⟨_, _, h1.on hb, ver_ne_tag⟩
  have zb := h.lo
  have z1 := hb.size
  have z2 := hg.size
  have hget : ∀ (i : Nat) y, (us ++ [v])[i]? = some y → (i = us.length ∧ y = v) ∨ (i < us.length ∧ us[i]? = some y) := by
    intro i y hy
    by_cases e : i < us.length
    · rw [List.getElem?_append_left e] at hy
      exact .inr ⟨e, hy⟩
    · rw [List.getElem?_append_right (by omega)] at hy
      have h0 : i - us.length = 0 := by
        have := (List.getElem?_eq_some_iff.1 hy).1
        simp at this
        omega
      rw [h0] at hy
      simp at hy
      exact .inl ⟨by omega, hy.symm⟩
  have hap : ∀ (i : Nat) y, us[i]? = some y → y.ts ≠ [] → v.ts ≠ [] → y.a ≠ v.a := by
    intro i y hy hn hn'
    rcases h.own i y hy with h0 | ⟨g1, _, e1, _, q1, _⟩
    · exact absurd h0 hn
    · rcases ho with h0 | ⟨g2, _, e2, q2, _⟩
      · exact absurd h0 hn'
      · rw [e1, e2]
        intro e
        injection e with e
        injection e with e
        omega
  refine ⟨by simpa [flat6_snoc] using hown, fun i y hy => ?_, fun i j y y' hne hy hy' hn hn' => ?_, by omega⟩
  · rcases hget i y hy with ⟨rfl, rfl⟩ | ⟨_, hy⟩
    · exact ((ho.low (by omega)).tk hk).wide z2
    · exact ((((h.own i y hy).on hb).wide z1).tk hk).wide z2
  · rcases hget i y hy with ⟨e1, e2⟩ | ⟨e, hq⟩ <;> rcases hget j y' hy' with ⟨e3, e4⟩ | ⟨e', hq'⟩
    · omega
    · rw [e2]; exact fun e => hap j y' hq' hn' (e2 ▸ hn) e.symm
    · rw [e4]; exact hap i y hq hn (e4 ▸ hn')
    · exact h.apart i j y y' hne hq hq' hn hn'

/-- A row of versions that a call has made: none, or in a block of its own. -/
def ResV (w : World) (B U : Nat) (x : Value) (us : List V) : Prop :=
  (us = [] ∧ ∃ A cap, x = .slice A 0 cap) ∨ ∃ G cap cur, x = .slice (some ⟨G, 0, none⟩) us.length cap ∧ ORow w B U G us cur
theorem CRow.res {base : Nat} {wr : World} {x : Value} {us : List V} (h : CRow base wr x us) : ResV wr base wr.heap.size x us := by
  rcases h.row.2 with ⟨rfl, e⟩ | ⟨g', cap, cr, rfl, hg', hb', hn, hm, hs, ht⟩
  · exact .inl ⟨List.length_eq_zero_iff.1 (by omega), none, 0, rfl⟩
  · exact .inr ⟨g', cap, cr, rfl, hb', hg', Blk.inside hb', by omega, verAt_of ht, h.own, h.apart⟩
/-- What a copy of a row is. -/
def CopiedR (w : World) (vs : List V) (e : Ending) (w' : World) : Prop :=
  ∃ (x : Value) (us : List V), e = .returned x ∧ us.length = vs.length ∧ Like us vs ∧ CRow w.heap.size w' x us ∧ Below w.heap.size w w'

/-- What a copy of a store is. -/
def CopiedStR (w : World) (vs : List V) (e : Ending) (w' : World) : Prop :=
  ∃ (x : Value) (us : List V), e = .returned (.agg #[x]) ∧ us.length = vs.length ∧ Like us vs ∧ CRow w.heap.size w' x us ∧ Below w.heap.size w w'
theorem CRow.down {base base' : Nat} {wr : World} {x : Value} {us : List V} (h : CRow base wr x us) (hb : base' ≤ base) : CRow base' wr x us :=
  ⟨⟨h.row.1, by
    rcases h.row.2 with h | ⟨g, cap, cr, h1, h2, h3⟩
    · exact .inl h
    · exact .inr ⟨g, cap, cr, h1, by omega, h3⟩⟩, fun i v hi => (h.own i v hi).low hb, h.apart, by have := h.lo; omega⟩
theorem store_ne_tag : (67 : TypeId) ≠ 55 := by decide

/-- What the round of copying a store holds. -/
theorem cheld {w w' : World} {n b off k c m : Nat} {v : V} {T : TypeId} {q : Nat × TypeId × Array Value} (Q : Hid (Six w b (off + k * 6) v)) (hb : b < w.heap.size)
    (h : Inv w n [q, (w.heap.size, T, #[.slice (some ⟨b, off, none⟩) m c])] w') :
    Six w' b (off + k * 6) v ∧ w'.cell? ⟨w.heap.size, 0, none⟩ = some (.slice (some ⟨b, off, none⟩) m c) ∧ Inv w n [q, (w.heap.size, T, #[.slice (some ⟨b, off, none⟩) m c])] w' :=
  ⟨Q.out.keep hb fun _ hp => h.below.cell hp, (h.nth 1 rfl).at 0, h⟩
end Go.Proofs.Ytpkoidbenojkmaa
