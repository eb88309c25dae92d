/- What a node has that another one has not, said plainly. No condition. -/
import Derived.Test.YtnaggcdhimcilaaGreatJAppendMore
import Derived.Test.YtnaggcdhimcilaaGreatJStorePure
import Derived.Deep.DeepCutAuto
namespace Go.Proofs.YtnaggcdhimcilaaGreat
open Go.RowKit Go.Joins

/-- A version put at its place among others, by tags. -/
def insL (us : List V) (v : V) : List V := us.takeWhile (fun x => lessB x.t x.u v.t v.u) ++ v :: us.dropWhile (fun x => lessB x.t x.u v.t v.u)
/-- What of the first slots is later in one store than in another, by tags. -/
def lackN (xs ys : List V) : Nat → List V
  | 0 => []
  | i + 1 => match xs[i]?, ys[i]? with
    | some x, some y => if lessB y.t y.u x.t x.u = true then insL (lackN xs ys i) x else lackN xs ys i
    | _, _ => lackN xs ys i
/-- How far a version goes. -/
def InsAt (us : List V) (v : V) (p : Nat) : Prop := p ≤ us.length ∧ (∀ (j : Nat) x, j < p → us[j]? = some x → lessB x.t x.u v.t v.u = true) ∧ (∀ x, us[p]? = some x → lessB x.t x.u v.t v.u = false)
theorem insL_at : ∀ {us : List V} {v : V} {p : Nat}, InsAt us v p → insL us v = us.take p ++ v :: us.drop p
  | [], v, p, ⟨h0, _, _⟩ => by
    have : p = 0 := by simpa using h0
    subst this
    rfl
  | x :: r, v, 0, ⟨_, _, h2⟩ => by
    have := h2 x rfl
    simp [insL, this]
  | x :: r, v, p + 1, ⟨h0, h1, h2⟩ => by
    have hx := h1 0 x (by omega) rfl
    have ih := insL_at (us := r) (v := v) (p := p) ⟨by simpa using h0, fun j y hj hy => h1 (j + 1) y (by omega) (by simpa using hy), fun y hy => h2 y (by simpa using hy)⟩
    unfold insL at ih ⊢
    simp only [List.takeWhile_cons, List.dropWhile_cons, hx, if_true, List.cons_append, List.take_succ_cons, List.drop_succ_cons]
    rw [ih]
theorem insL_cut : ∀ (us : List V) (v : V), ∃ p, InsAt us v p
  | [], v => ⟨0, Nat.le_refl _, fun j x hj => by omega, fun x hx => by simp at hx⟩
  | x :: r, v => by
    cases hb : lessB x.t x.u v.t v.u
    · exact ⟨0, Nat.zero_le _, fun j x hj => by omega, fun y hy => by
        have : x = y := by simpa using hy
        subst this
        exact hb⟩
    · obtain ⟨p, h0, h1, h2⟩ := insL_cut r v
      refine ⟨p + 1, by simpa using h0, fun j y hj hy => ?_, fun y hy => h2 y (by simpa using hy)⟩
      cases j with
      | zero =>
        have : x = y := by simpa using hy
        subst this
        exact hb
      | succ j => exact h1 j y (by omega) (by simpa using hy)
theorem insL_len (us : List V) (v : V) : (insL us v).length = us.length + 1 := by
  obtain ⟨p, hp⟩ := insL_cut us v
  have := hp.1
  rw [insL_at hp, List.length_append, List.length_cons, List.length_take, List.length_drop]
  omega
theorem ins_get {us : List V} {v : V} {p : Nat} (hp : p ≤ us.length) {i : Nat} {y : V} (h : (us.take p ++ v :: us.drop p)[i]? = some y) : (i < p ∧ us[i]? = some y) ∨ (i = p ∧ y = v) ∨ (p < i ∧ us[i - 1]? = some y) := by
  have hl : (us.take p).length = p := by rw [List.length_take]; omega
  rcases Nat.lt_trichotomy i p with h1 | h1 | h1
  · rw [List.getElem?_append_left (by omega), List.getElem?_take_of_lt h1] at h
    exact .inl ⟨h1, h⟩
  · subst h1
    rw [List.getElem?_append_right (by omega), hl, Nat.sub_self] at h
    exact .inr (.inl ⟨rfl, by simpa using h.symm⟩)
  · rw [List.getElem?_append_right (by omega), hl] at h
    obtain ⟨q, hq⟩ : ∃ q, i - p = q + 1 := ⟨i - p - 1, by omega⟩
    rw [hq, List.getElem?_cons_succ, List.getElem?_drop] at h
    exact .inr (.inr ⟨h1, by rw [show i - 1 = p + q by omega]; exact h⟩)
theorem ins_at {us : List V} {v : V} {p : Nat} (hp : p ≤ us.length) (i : Nat) : (us.take p ++ v :: us.drop p)[i]? = if i < p then us[i]? else if i = p then some v else us[i - 1]? := by
  have hl : (us.take p).length = p := by rw [List.length_take]; omega
  rcases Nat.lt_trichotomy i p with h1 | h1 | h1
  · rw [if_pos h1, List.getElem?_append_left (by omega), List.getElem?_take_of_lt h1]
  · subst h1
    rw [if_neg (by omega), if_pos rfl, List.getElem?_append_right (by omega), hl, Nat.sub_self]
    rfl
  · rw [if_neg (by omega), if_neg (by omega), List.getElem?_append_right (by omega), hl]
    obtain ⟨q, hq⟩ : ∃ q, i - p = q + 1 := ⟨i - p - 1, by omega⟩
    rw [hq, List.getElem?_cons_succ, List.getElem?_drop, show i - 1 = p + q by omega]
theorem ll_ins {us vs : List V} {u v : V} {p : Nat} (h : LL us vs) (hp : p ≤ us.length) (hv : V.like u v) : LL (us.take p ++ u :: us.drop p) (vs.take p ++ v :: vs.drop p) := by
  have hp' : p ≤ vs.length := by rw [← h.1]; exact hp
  refine ⟨by simp only [List.length_append, List.length_cons, List.length_take, List.length_drop]; have := h.1; omega, fun i x y hx hy => ?_⟩
  rw [ins_at hp] at hx
  rw [ins_at hp'] at hy
  by_cases h1 : i < p
  · rw [if_pos h1] at hx hy
    exact h.2 i x y hx hy
  · rw [if_neg h1] at hx hy
    by_cases h2 : i = p
    · rw [if_pos h2] at hx hy
      injection hx with hx
      injection hy with hy
      subst hx hy
      exact hv
    · rw [if_neg h2] at hx hy
      exact h.2 (i - 1) x y hx hy
theorem insAt_like {us vs : List V} {u v : V} {p : Nat} (h : LL us vs) (hv : V.like u v) (hp : InsAt us u p) : InsAt vs v p := by
  have key : ∀ (j : Nat) y, vs[j]? = some y → ∃ x, us[j]? = some x ∧ lessB x.t x.u u.t u.u = lessB y.t y.u v.t v.u := fun j y hy => by
    obtain ⟨x, hx⟩ : ∃ x, us[j]? = some x := ⟨_, List.getElem?_eq_getElem (by rw [h.1]; exact (List.getElem?_eq_some_iff.1 hy).1)⟩
    have hl := h.2 j x y hx hy
    exact ⟨x, hx, by rw [hl.2.1, hl.2.2.1, hv.2.1, hv.2.2.1]⟩
  refine ⟨by rw [← h.1]; exact hp.1, fun j y hj hy => ?_, fun y hy => ?_⟩
  · obtain ⟨x, hx, e⟩ := key j y hy
    rw [← e]
    exact hp.2.1 j x hj hx
  · obtain ⟨x, hx, e⟩ := key p y hy
    rw [← e]
    exact hp.2.2 x hx
theorem insL_like {us vs : List V} {u v : V} (h : LL us vs) (hv : V.like u v) : LL (insL us u) (insL vs v) := by
  obtain ⟨p, hp⟩ := insL_cut us u
  rw [insL_at hp, insL_at (insAt_like h hv hp)]
  exact ll_ins h hp.1 hv
theorem lackN_len (xs ys : List V) : ∀ i, (lackN xs ys i).length ≤ i
  | 0 => Nat.le_refl _
  | i + 1 => by
    have ih := lackN_len xs ys i
    unfold lackN
    split
    · split
      · rw [insL_len]; omega
      · omega
    · omega
theorem lackN_yes {xs ys : List V} {i : Nat} {x y : V} (hx : xs[i]? = some x) (hy : ys[i]? = some y) (h : lessB y.t y.u x.t x.u = true) : lackN xs ys (i + 1) = insL (lackN xs ys i) x := by
  rw [lackN, hx, hy]
  simp only [h, if_true]
theorem lackN_not {xs ys : List V} {i : Nat} {x y : V} (hx : xs[i]? = some x) (hy : ys[i]? = some y) (h : lessB y.t y.u x.t x.u = false) : lackN xs ys (i + 1) = lackN xs ys i := by
  rw [lackN, hx, hy]
  simp only [h]
  rfl
theorem lackN_like {xs ys xs' ys' : List V} (ha : LL xs xs') (hb : LL ys ys') : ∀ i, LL (lackN xs ys i) (lackN xs' ys' i)
  | 0 => ⟨rfl, fun i x y hx => by simp [lackN] at hx⟩
  | i + 1 => by
    have ih := lackN_like ha hb i
    cases hx : xs[i]? with
    | none =>
      have hx' : xs'[i]? = none := List.getElem?_eq_none (by rw [← ha.1]; exact List.getElem?_eq_none_iff.1 hx)
      simp only [lackN, hx, hx']
      exact ih
    | some x =>
      obtain ⟨x', hx'⟩ : ∃ x', xs'[i]? = some x' := ⟨_, List.getElem?_eq_getElem (by rw [← ha.1]; exact (List.getElem?_eq_some_iff.1 hx).1)⟩
      cases hy : ys[i]? with
      | none =>
        have hy' : ys'[i]? = none := List.getElem?_eq_none (by rw [← hb.1]; exact List.getElem?_eq_none_iff.1 hy)
        simp only [lackN, hx, hx', hy, hy']
        exact ih
      | some y =>
        obtain ⟨y', hy'⟩ : ∃ y', ys'[i]? = some y' := ⟨_, List.getElem?_eq_getElem (by rw [← hb.1]; exact (List.getElem?_eq_some_iff.1 hy).1)⟩
        have lx := ha.2 i x x' hx hx'
        have ly := hb.2 i y y' hy hy'
        have e : lessB y.t y.u x.t x.u = lessB y'.t y'.u x'.t x'.u := by rw [lx.2.1, lx.2.2.1, ly.2.1, ly.2.2.1]
        cases hc : lessB y.t y.u x.t x.u
        · rw [lackN_not hx hy hc, lackN_not hx' hy' (e ▸ hc)]
          exact ih
        · rw [lackN_yes hx hy hc, lackN_yes hx' hy' (e ▸ hc)]
          exact insL_like ih lx
/-- A row with one version more among the others: the causes of these stay where they are. -/
theorem CRow.ins {base : Nat} {wr w2 : World} {x x' : Value} {us : List V} {v : V} {B n p : Nat} (h : CRow base wr x us) (hp : p ≤ us.length) (hb : Below wr.heap.size wr w2) (hB : wr.heap.size ≤ B) (ho : Own1 w2 B w2.heap.size v)
    (hn : n = us.length + 1) (hown : w2.ownsRow base 96 6 x' n (flat6 (us.take p ++ v :: us.drop p))) : CRow base w2 x' (us.take p ++ v :: us.drop p) := by
  have zb := h.lo
  have z1 := hb.size
  have hl : (us.take p ++ v :: us.drop p).length = us.length + 1 := by
    simp only [List.length_append, List.length_cons, List.length_take, List.length_drop]
    omega
  have hap : ∀ (i : Nat) y, us[i]? = some y → y.ts ≠ [] → v.ts ≠ [] → y.a ≠ v.a := by
    intro i y hy hn hn'
    rcases h.own i y hy with h0 | ⟨g1, _, e1, _, q1, _⟩
    · exact absurd h0 hn
    · rcases ho with h0 | ⟨g2, _, e2, q2, _⟩
      · exact absurd h0 hn'
      · rw [e1, e2]
        intro e
        injection e with e
        injection e with e
        omega
  subst hn
  refine ⟨by rw [hl]; exact hown, fun i y hy => ?_, fun i j y y' hne hy hy' hn hn' => ?_, by omega⟩
  · rcases ins_get hp hy with ⟨_, hq⟩ | ⟨_, rfl⟩ | ⟨_, hq⟩
    · exact ((h.own i y hq).on hb).wide z1
    · exact ho.low (by omega)
    · exact ((h.own _ y hq).on hb).wide z1
  · rcases ins_get hp hy with ⟨q1, hq⟩ | ⟨q1, e1⟩ | ⟨q1, hq⟩ <;> rcases ins_get hp hy' with ⟨q2, hq'⟩ | ⟨q2, e2⟩ | ⟨q2, hq'⟩
    · exact h.apart i j y y' hne hq hq' hn hn'
    · rw [e2]; exact hap i y hq hn (e2 ▸ hn')
    · exact h.apart i (j - 1) y y' (by omega) hq hq' hn hn'
    · rw [e1]; exact fun e => hap j y' hq' hn' (e1 ▸ hn) e.symm
    · omega
    · rw [e1]; exact fun e => hap (j - 1) y' hq' hn' (e1 ▸ hn) e.symm
    · exact h.apart (i - 1) j y y' (by omega) hq hq' hn hn'
    · rw [e2]; exact hap (i - 1) y hq hn (e2 ▸ hn')
    · exact h.apart (i - 1) (j - 1) y y' (by omega) hq hq' hn hn'
theorem owns_typed {w : World} {base size g n c : Nat} {e : TypeId} {zs : List Value} (h : w.ownsRow base e size (.slice (some ⟨g, 0, none⟩) n c) n zs) : ∃ cs, Blk w g e cs := by
  rcases h.2 with ⟨q, _⟩ | ⟨g', cap, cr, q, _, h2, _⟩
  · cases q
  · injection q with q
    injection q with q
    injection q with q
    subst q
    exact ⟨cr, h2⟩
theorem tk_grown {w w' : World} {base size g n c : Nat} {zs : List Value} (h : w.ownsRow base 96 size (.slice (some ⟨g, 0, none⟩) n c) n zs) (hg : w.grownBy w' (some g)) : Tk w w' := .grown hg fun r hr => by
  injection hr with hr
  subst hr
  obtain ⟨cs, hc⟩ := owns_typed h
  exact ⟨_, _, hc, ver_ne_tag⟩
theorem flat6_append (us vs : List V) : flat6 (us ++ vs) = flat6 us ++ flat6 vs := by simp [flat6]
theorem flat6_cons (v : V) (us : List V) : flat6 (v :: us) = cells6 v ++ flat6 us := by simp [flat6]
/-- The cells of the first, and of the last, of a row. -/
theorem CRow.newsTake {base : Nat} {w : World} {g n c p : Nat} {us : List V} (h : CRow base w (.slice (some ⟨g, 0, none⟩) n c) us) (hn : n = us.length) : ∀ (j : Nat) u, (flat6 (us.take p))[j]? = some u → w.cell? ((⟨g, 0, none⟩ : Addr).add j) = some u := fun j u hu => by
  subst hn
  have hj := (List.getElem?_eq_some_iff.1 hu).1
  rw [flat6_len, List.length_take] at hj
  have hadd : (⟨g, 0, none⟩ : Addr).add j = ⟨g, j, none⟩ := by unfold Addr.add; split <;> simp_all
  rw [hadd, World.ownsRow.cellAt (n := us.length) h.row j (by omega)]
  have e : flat6 us = flat6 (us.take p) ++ flat6 (us.drop p) := by rw [← flat6_append, List.take_append_drop]
  rw [e, List.getElem?_append_left (by rw [flat6_len, List.length_take]; exact hj)]
  exact hu
theorem CRow.newsDrop {base : Nat} {w : World} {g n c p : Nat} {us : List V} (h : CRow base w (.slice (some ⟨g, 0, none⟩) n c) us) (hn : n = us.length) : ∀ (j : Nat) u, (flat6 (us.drop p))[j]? = some u → w.cell? ((⟨g, p * 6, none⟩ : Addr).add j) = some u := fun j u hu => by
  subst hn
  have hj := (List.getElem?_eq_some_iff.1 hu).1
  rw [flat6_len, List.length_drop] at hj
  have hadd : (⟨g, p * 6, none⟩ : Addr).add j = ⟨g, p * 6 + j, none⟩ := by unfold Addr.add; split <;> simp_all
  rw [hadd, World.ownsRow.cellAt (n := us.length) h.row (p * 6 + j) (by omega)]
  have e : flat6 us = flat6 (us.take p) ++ flat6 (us.drop p) := by rw [← flat6_append, List.take_append_drop]
  have hl : (flat6 (us.take p)).length = p * 6 := by rw [flat6_len, List.length_take]; omega
  rw [e, List.getElem?_append_right (by omega), hl]
  rw [show p * 6 + j - p * 6 = j by omega]
  exact hu
theorem CRow.tagCells {base : Nat} {w : World} {g n c p : Nat} {us : List V} {y : V} (h : CRow base w (.slice (some ⟨g, 0, none⟩) n c) us) (hn : n = us.length) (hy : us[p]? = some y) : w.cell? ⟨g, p * 6 + 1, none⟩ = some (.int .i64 y.t) ∧ w.cell? ⟨g, p * 6 + 2, none⟩ = some (.int .i64 y.u) := by
  subst hn
  have hp := (List.getElem?_eq_some_iff.1 hy).1
  refine ⟨?_, ?_⟩
  · rw [World.ownsRow.cellAt (n := us.length) h.row (p * 6 + 1) (by omega), flat6_at us p y 1 hy (by omega)]
    rfl
  · rw [World.ownsRow.cellAt (n := us.length) h.row (p * 6 + 2) (by omega), flat6_at us p y 2 hy (by omega)]
    rfl
theorem CRow.caps {base : Nat} {w : World} {g n c : Nat} {us : List V} (h : CRow base w (.slice (some ⟨g, 0, none⟩) n c) us) : us.length ≤ c ∧ g < w.heap.size := by
  rcases h.row.2 with ⟨q, _⟩ | ⟨g', cap, cr, q, _, h2, h3, _⟩
  · cases q
  · injection q with q1 q2 q3
    injection q1 with q1
    injection q1 with q1
    subst q1 q3
    exact ⟨h3, Blk.inside (show Blk w g 96 cr from h2)⟩
end Go.Proofs.YtnaggcdhimcilaaGreat
/- Contracts of the model's l3Can and l3Pass. Condition: at most four nodes, all valid. -/
namespace Go.Proofs.YtnaggcdhimcilaaGreat
open Go.RowKit Go.Joins
attribute [local go_sem ↓] Go.wp_at_zero Go.wp_at_succ

theorem flat6_one (us : List V) : ∀ u ∈ flat6 us, u.oneCell' = true := fun u hu => by
  simp only [flat6, List.mem_flatMap] at hu
  obtain ⟨x, _, hx⟩ := hu
  simp only [cells6, List.mem_cons, List.not_mem_nil, or_false] at hx
  rcases hx with rfl | rfl | rfl | rfl | rfl | rfl <;> rfl
theorem CRow.news {base : Nat} {w : World} {g c : Nat} {v : V} {r : List V} (h : CRow base w (.slice (some ⟨g, 0, none⟩) (r.length + 1) c) (v :: r)) : ∀ (j : Nat) u, (flat6 r)[j]? = some u → w.cell? ⟨g, 6 + j, none⟩ = some u := fun j u hu => by
  have hj := (List.getElem?_eq_some_iff.1 hu).1
  rw [flat6_len] at hj
  have := World.ownsRow.cellAt (n := r.length + 1) (by simpa using h.row) (6 + j) (by omega)
  rw [this]
  have e : flat6 (v :: r) = cells6 v ++ flat6 r := by simp [flat6]
  rw [e, List.getElem?_append_right (by simp [cells6])]
  simpa [cells6] using hu
theorem below_rows {w w1 w2 : World} {g : Nat} (h : Below w.heap.size w w1) (hg : w1.grownBy w2 (some g)) (hw : w.heap.size ≤ g) : Below w.heap.size w w2 :=
  ⟨hg.os.trans h.os, hg.tape.trans h.tape, hg.output.trans h.output, Nat.le_trans h.size hg.size, fun k hk => (hg.block k (Nat.lt_of_lt_of_le hk h.size) (by intro e; injection e with e; omega)).trans (h.block k hk)⟩
/-- What l3Pass leaves. -/
def PassedC (w : World) (base G xc : Nat) (us : List Nd) (k : Nat) (e : Ending) (w' : World) : Prop :=
  ∃ us' : List Nd, e = .returned (.agg #[.slice (some ⟨G, 0, none⟩) us.length xc]) ∧ NL us' (goN us k) ∧ GRow base w' (.slice (some ⟨G, 0, none⟩) us.length xc) us' ∧ Turn (TouchC w base) w w'
end Go.Proofs.YtnaggcdhimcilaaGreat
/- Contract of the model's l3Lack. Condition: four versions each, of causes that memory holds. -/
namespace Go.Proofs.YtnaggcdhimcilaaGreat
open Go.RowKit Go.Joins
attribute [local go_sem ↓] Go.wp_at_zero Go.wp_at_succ

def LackedC (w : World) (xs ys : List V) (e : Ending) (w' : World) : Prop :=
  ∃ (x : Value) (us : List V), e = .returned x ∧ LL us (lackN xs ys 4) ∧ CRow w.heap.size w' x us ∧ Below w.heap.size w w'
set_option maxRecDepth 100000 in
set_option maxHeartbeats 8000000 in
theorem l3Lack_any (A B : Option Addr) (ca cb : Nat) (xs ys : List V) (w : World) (ha4 : xs.length = 4) (hb4 : ys.length = 4) (hma : ∀ v ∈ xs, v.ts.length ≤ 1048576) (ha : Vg w w.heap.size A xs) (hb : Vg w w.heap.size B ys) :
    Calls Tryz.prog 85 #[.agg #[.slice A 4 ca], .agg #[.slice B 4 cb]] w (LackedC w xs ys) := by
  obtain ⟨j0, hj0, hy0, hy1, hy2⟩ := info_parts ver_info
  have J0 := hide hj0
  have J1 := hide hy0
  have J2 := hide hy1
  have J3 := hide hy2
  clear hj0 hy0 hy1 hy2
  rcases ha with h0 | ⟨ga, oa, rfl, hga, hax⟩
  · rw [h0] at ha4; simp at ha4
  rcases hb with h0 | ⟨gb, ob, rfl, hgb, hbx⟩
  · rw [h0] at hb4; simp at hb4
  have S0 := ((Inv.start w).box 88 #[.slice (some ⟨ga, oa, none⟩) 4 ca]).box 88 #[.slice (some ⟨gb, ob, none⟩) 4 cb]
  simp only [World.size_alloc] at S0
  have HAX : Hid (∀ (i : Nat) v, xs[i]? = some v → ∀ W, Below w.heap.size w W → Six W ga (oa + i * 6) v ∧ Tg W W.heap.size v.a v.ts) := fun i v hi W hW => ⟨(hax i v hi).1.keep hga fun _ hp => hW.cell hp, ((hax i v hi).2.on hW).up hW.size⟩
  have HBX : Hid (∀ (i : Nat) v, ys[i]? = some v → ∀ W, Below w.heap.size w W → Six W gb (ob + i * 6) v) := fun i v hi W hW => (hbx i v hi).1.keep hgb fun _ hp => hW.cell hp
  have HMA := hide hma
  have HA4 := hide ha4
  have HB4 := hide hb4
  clear hax hbx hma ha4 hb4
  go_enter Tryz.func85, Tryz.ntmps85
  go_wp2
  have hz0 : ((w.alloc (.cells #[.slice (some ⟨ga, oa, none⟩) 4 ca] 88)).alloc (.cells #[.slice (some ⟨gb, ob, none⟩) 4 cb] 88)).heap.size = w.heap.size + 1 + 1 := by simp
  generalize (w.alloc (.cells #[.slice (some ⟨ga, oa, none⟩) 4 ca] 88)).alloc (.cells #[.slice (some ⟨gb, ob, none⟩) 4 cb] 88) = W0 at S0 hz0 ⊢
  have SA := S0.alloc (.cells #[] 96)
  have HC0 : Hid (CRow (w.heap.size + 1 + 1) (W0.alloc (.cells #[] 96)) (.slice (some ⟨w.heap.size + 1 + 1, 0, none⟩) 0 0) []) := by
    unfold Hid
    rw [← hz0]
    exact ⟨World.ownsRow_made (base := W0.heap.size) (e := 96) (size := 6) W0 #[] 0 (Nat.le_refl _) (by unfold maxLen; omega) rfl, fun i v h => by simp at h, fun i j v v' _ h => by simp at h, by simp⟩
  clear hz0
  clear S0
  go_loopw [5, 6] (fun x i wr => ∃ (k G xc : Nat) (us : List V), k ≤ 4 ∧ x = .slice (some ⟨G, 0, none⟩) us.length xc ∧ i = .int .i64 (k : Int) ∧ Hid (LL us (lackN xs ys k)) ∧ Hid (CRow (w.heap.size + 1 + 1) wr (.slice (some ⟨G, 0, none⟩) us.length xc) us) ∧ Inv w (w.heap.size + 1 + 1) [(w.heap.size + 1, 88, #[.slice (some ⟨gb, ob, none⟩) 4 cb]), (w.heap.size, 88, #[.slice (some ⟨ga, oa, none⟩) 4 ca])] wr) (fun _ i _ => 4 - (intOf i).toNat)
  case atStart => exact ⟨0, w.heap.size + 1 + 1, 0, [], Nat.zero_le _, rfl, rfl, ⟨rfl, fun i v v' hi => by simp at hi⟩, HC0.out, SA⟩
  case round =>
    rename World => wo
    obtain ⟨k, G, xc, us, hk, rfl, rfl, HU, HC, hI⟩ := hrel
    clear HC0 SA
    by_cases hlt : k < 4
    · obtain ⟨va, hva⟩ : ∃ v, xs[k]? = some v := ⟨_, List.getElem?_eq_getElem (by have := HA4.out; omega)⟩
      obtain ⟨vb, hvb⟩ : ∃ v, ys[k]? = some v := ⟨_, List.getElem?_eq_getElem (by have := HB4.out; omega)⟩
      have HVA := hide hva
      have HVB := hide hvb
      have HSA := hide (HAX.out k va hva)
      have HSB := hide (HBX.out k vb hvb)
      have i1 : (0 : Int) ≤ (k : Int) := by omega
      have i2 : (k : Int) < 4 := by omega
      have jh : ∀ {W : World}, Inv w (w.heap.size + 1 + 1) [(w.heap.size + 1, 88, #[.slice (some ⟨gb, ob, none⟩) 4 cb]), (w.heap.size, 88, #[.slice (some ⟨ga, oa, none⟩) 4 ca])] W → Hid (CRow (w.heap.size + 1 + 1) W (.slice (some ⟨G, 0, none⟩) us.length xc) us) → (W.cell? ⟨w.heap.size, 0, none⟩ = some (.slice (some ⟨ga, oa, none⟩) 4 ca) ∧ W.cell? ⟨w.heap.size + 1, 0, none⟩ = some (.slice (some ⟨gb, ob, none⟩) 4 cb)) ∧ (W.cell? ⟨ga, oa + k * 6 + 1, none⟩ = some (.int .i64 va.t) ∧ W.cell? ⟨ga, oa + k * 6 + 2, none⟩ = some (.int .i64 va.u)) ∧ (W.cell? ⟨gb, ob + k * 6 + 1, none⟩ = some (.int .i64 vb.t) ∧ W.cell? ⟨gb, ob + k * 6 + 2, none⟩ = some (.int .i64 vb.u)) ∧ Inv w (w.heap.size + 1 + 1) [(w.heap.size + 1, 88, #[.slice (some ⟨gb, ob, none⟩) 4 cb]), (w.heap.size, 88, #[.slice (some ⟨ga, oa, none⟩) 4 ca])] W ∧ Hid (CRow (w.heap.size + 1 + 1) W (.slice (some ⟨G, 0, none⟩) us.length xc) us) := fun hI hC => ⟨⟨(hI.nth 1 rfl).at 0, (hI.nth 0 rfl).at 0⟩, ⟨(HSA.out _ hI.below).1.2.1, (HSA.out _ hI.below).1.2.2.1⟩, ⟨(HSB.out _ hI.below).2.1, (HSB.out _ hI.below).2.2.1⟩, hI, hC⟩
      clear hva hvb
      have c1 := (hI.nth 1 rfl).one.1
      have c2 := (hI.nth 0 rfl).one.1
      go_wp2_with fail
      clear c1 c2
      refine wp_region_noPanic ?_
      refine wp_region_held_drew (S := (fun w' => (w'.cell? ⟨w.heap.size, 0, none⟩ = some (.slice (some ⟨ga, oa, none⟩) 4 ca) ∧ w'.cell? ⟨w.heap.size + 1, 0, none⟩ = some (.slice (some ⟨gb, ob, none⟩) 4 cb)) ∧ (w'.cell? ⟨ga, oa + k * 6 + 1, none⟩ = some (.int .i64 va.t) ∧ w'.cell? ⟨ga, oa + k * 6 + 2, none⟩ = some (.int .i64 va.u)) ∧ (w'.cell? ⟨gb, ob + k * 6 + 1, none⟩ = some (.int .i64 vb.t) ∧ w'.cell? ⟨gb, ob + k * 6 + 2, none⟩ = some (.int .i64 vb.u)) ∧ Inv w (w.heap.size + 1 + 1) [(w.heap.size + 1, 88, #[.slice (some ⟨gb, ob, none⟩) 4 cb]), (w.heap.size, 88, #[.slice (some ⟨ga, oa, none⟩) 4 ca])] w' ∧ Hid (CRow (w.heap.size + 1 + 1) w' (.slice (some ⟨G, 0, none⟩) us.length xc) us))) (by kernel_rfl) (by exact jh hI.drew (HC.out.on (Below.refl _ _).drew)) (fun hHeld => ?_)
      refine mvR 0 (some 14) hHeld ?_
      refine mvR 1 (some 15) hHeld ?_
      refine mvR 2 (some 16) hHeld ?_
      refine mvR 3 (some 17) hHeld ?_
      refine mvR 4 (some 18) hHeld ?_
      refine mvR 5 (some 19) hHeld ?_
      refine mvR 6 (some 20) hHeld ?_
      refine mvR 7 (some 21) hHeld ?_
      refine mvR 8 (some 22) hHeld ?_
      refine mvR 9 (some 23) hHeld ?_
      refine mvR 10 (some 24) hHeld ?_
      refine mvR 11 (some 25) hHeld ?_
      refine take_one 12 (by kernel_rfl) rfl (fun K hK => ?_)
      go_simp
      ((with_reducible refine (l1Less_any vb.t vb.u va.t va.u _).mono ?_); rintro e w1 ⟨rfl, hb1⟩)
      try go_wp2_with fail
      refine hK.out _ _ (by exact jh (hHeld.2.2.2.1.on hb1) (hHeld.2.2.2.2.out.on hb1)) (fun hHeld => ?_)
      clear hK K
      refine mvR 13 (some 27) hHeld ?_
      refine wpAnyH_done (by kernel_rfl) ?_ _
      refine NoPanic.normal ?_
      obtain ⟨-, -, -, I1, C1⟩ := hHeld
      clear hI HC hb1
      cases hless : lessB vb.t vb.u va.t va.u
      · have HU1 := hide (lackN_not HVA.out HVB.out hless)
        clear hless
        go_wp2
        refine ⟨⟨k + 1, G, xc, us, by omega, rfl, by go_num, ?_, C1, I1⟩, by simp [intOf]; omega⟩
        unfold Hid
        rw [HU1.out]
        exact HU.out
      · have HU1 := hide (lackN_yes HVA.out HVB.out hless)
        clear hless
        go_wp2
        go_loopw [7] (fun q wr => ∃ p : Nat, q = .int .i64 (p : Int) ∧ Hid (p ≤ us.length ∧ ∀ (j : Nat) x, j < p → us[j]? = some x → lessB x.t x.u va.t va.u = true) ∧ Hid (CRow (w.heap.size + 1 + 1) wr (.slice (some ⟨G, 0, none⟩) us.length xc) us) ∧ Inv w (w.heap.size + 1 + 1) [(w.heap.size + 1, 88, #[.slice (some ⟨gb, ob, none⟩) 4 cb]), (w.heap.size, 88, #[.slice (some ⟨ga, oa, none⟩) 4 ca])] wr) (fun q _ => us.length - (intOf q).toNat)
        case atStart => exact ⟨0, rfl, ⟨Nat.zero_le _, fun j x hj => by omega⟩, C1, I1⟩
        case round =>
          obtain ⟨p, rfl, HP, C2, I2⟩ := hrel
          clear C1 I1
          go_upto_region 7 with (fail)
          go_cut [45] (fun s wx => ∃ b : Bool, s = .bool b ∧ Hid ((b = true → p < us.length ∧ ∀ x, us[p]? = some x → lessB x.t x.u va.t va.u = true) ∧ (b = false → ∀ x, us[p]? = some x → lessB x.t x.u va.t va.u = false)) ∧ Hid (CRow (w.heap.size + 1 + 1) wx (.slice (some ⟨G, 0, none⟩) us.length xc) us) ∧ Inv w (w.heap.size + 1 + 1) [(w.heap.size + 1, 88, #[.slice (some ⟨gb, ob, none⟩) 4 cb]), (w.heap.size, 88, #[.slice (some ⟨ga, oa, none⟩) 4 ca])] wx)
          case first =>
            by_cases hpl : p < us.length
            · obtain ⟨y, hy⟩ : ∃ y, us[p]? = some y := ⟨_, List.getElem?_eq_getElem hpl⟩
              have HY := hide hy
              clear hy
              have d1 : decide ((p : Int) < (us.length : Int)) = true := decide_eq_true (by omega)
              have j1 : (0 : Int) ≤ (p : Int) := by omega
              have j2 : (p : Int) < (us.length : Int) := by omega
              have jq : ∀ {W : World}, Inv w (w.heap.size + 1 + 1) [(w.heap.size + 1, 88, #[.slice (some ⟨gb, ob, none⟩) 4 cb]), (w.heap.size, 88, #[.slice (some ⟨ga, oa, none⟩) 4 ca])] W → Hid (CRow (w.heap.size + 1 + 1) W (.slice (some ⟨G, 0, none⟩) us.length xc) us) → W.cell? ⟨w.heap.size, 0, none⟩ = some (.slice (some ⟨ga, oa, none⟩) 4 ca) ∧ (W.cell? ⟨ga, oa + k * 6 + 1, none⟩ = some (.int .i64 va.t) ∧ W.cell? ⟨ga, oa + k * 6 + 2, none⟩ = some (.int .i64 va.u)) ∧ (W.cell? ⟨G, p * 6 + 1, none⟩ = some (.int .i64 y.t) ∧ W.cell? ⟨G, p * 6 + 2, none⟩ = some (.int .i64 y.u)) ∧ Inv w (w.heap.size + 1 + 1) [(w.heap.size + 1, 88, #[.slice (some ⟨gb, ob, none⟩) 4 cb]), (w.heap.size, 88, #[.slice (some ⟨ga, oa, none⟩) 4 ca])] W ∧ Hid (CRow (w.heap.size + 1 + 1) W (.slice (some ⟨G, 0, none⟩) us.length xc) us) := fun hI hC => ⟨(hI.nth 1 rfl).at 0, ⟨(HSA.out _ hI.below).1.2.1, (HSA.out _ hI.below).1.2.2.1⟩, hC.out.tagCells rfl HY.out, hI, hC⟩
              refine wp_region_noPanic ?_
              refine wp_region_held_drew (S := (fun w' => w'.cell? ⟨w.heap.size, 0, none⟩ = some (.slice (some ⟨ga, oa, none⟩) 4 ca) ∧ (w'.cell? ⟨ga, oa + k * 6 + 1, none⟩ = some (.int .i64 va.t) ∧ w'.cell? ⟨ga, oa + k * 6 + 2, none⟩ = some (.int .i64 va.u)) ∧ (w'.cell? ⟨G, p * 6 + 1, none⟩ = some (.int .i64 y.t) ∧ w'.cell? ⟨G, p * 6 + 2, none⟩ = some (.int .i64 y.u)) ∧ Inv w (w.heap.size + 1 + 1) [(w.heap.size + 1, 88, #[.slice (some ⟨gb, ob, none⟩) 4 cb]), (w.heap.size, 88, #[.slice (some ⟨ga, oa, none⟩) 4 ca])] w' ∧ Hid (CRow (w.heap.size + 1 + 1) w' (.slice (some ⟨G, 0, none⟩) us.length xc) us))) (by kernel_rfl) (by exact jq I2.drew (C2.out.on (Below.refl _ _).drew)) (fun hHeld => ?_)
              refine mvR 0 (some 28) hHeld ?_
              refine mvR 1 (some 29) hHeld ?_
              refine mvR 2 (some 30) hHeld ?_
              refine mvR 3 (some 31) hHeld ?_
              refine mvR 4 (some 32) hHeld ?_
              refine mvR 5 (some 33) hHeld ?_
              refine mvR 6 (some 34) hHeld ?_
              refine mvR 7 (some 35) hHeld ?_
              refine mvR 8 (some 36) hHeld ?_
              refine mvR 9 (some 37) hHeld ?_
              refine mvR 10 (some 38) hHeld ?_
              refine mvR 11 (some 39) hHeld ?_
              refine mvR 12 (some 40) hHeld ?_
              refine mvR 13 (some 41) hHeld ?_
              refine mvR 14 (some 42) hHeld ?_
              refine mvR 15 (some 43) hHeld ?_
              refine take_one 16 (by kernel_rfl) rfl (fun K hK => ?_)
              go_simp
              ((with_reducible refine (l1Less_any y.t y.u va.t va.u _).mono ?_); rintro e w1 ⟨rfl, hb1⟩)
              try go_wp2_with fail
              refine hK.out _ _ (by exact jq (hHeld.2.2.2.1.on hb1) (hHeld.2.2.2.2.out.on hb1)) (fun hHeld => ?_)
              clear hK K
              refine mvR 17 (some 45) hHeld ?_
              refine wpAnyH_done (by kernel_rfl) ?_ _
              refine NoPanic.normal ?_
              go_wp2_with fail
              go_meet
              exact ⟨lessB y.t y.u va.t va.u, rfl, ⟨fun h => ⟨hpl, fun x hx => by rw [HY.out] at hx; injection hx with hx; rw [← hx]; exact h⟩, fun h x hx => by rw [HY.out] at hx; injection hx with hx; rw [← hx]; exact h⟩, hHeld.2.2.2.2, hHeld.2.2.2.1⟩
            · have d1 : decide ((p : Int) < (us.length : Int)) = false := decide_eq_false (by omega)
              refine wp_region_noPanic ?_
              refine wp_region_held_drew (S := (fun w' => Inv w (w.heap.size + 1 + 1) [(w.heap.size + 1, 88, #[.slice (some ⟨gb, ob, none⟩) 4 cb]), (w.heap.size, 88, #[.slice (some ⟨ga, oa, none⟩) 4 ca])] w' ∧ Hid (CRow (w.heap.size + 1 + 1) w' (.slice (some ⟨G, 0, none⟩) us.length xc) us))) (by kernel_rfl) (by exact ⟨I2.drew, C2.out.on (Below.refl _ _).drew⟩) (fun hHeld => ?_)
              refine mvR 0 (some 28) hHeld ?_
              refine mvR 1 (some 29) hHeld ?_
              refine mvR 2 (some 30) hHeld ?_
              refine mvR 3 (some 31) hHeld ?_
              refine mvR 4 (some 32) hHeld ?_
              refine mvS 5 (some 33) hHeld ?_
              refine mvS 6 (some 34) hHeld ?_
              refine mvS 7 (some 35) hHeld ?_
              refine mvS 8 (some 36) hHeld ?_
              refine mvS 9 (some 37) hHeld ?_
              refine mvS 10 (some 38) hHeld ?_
              refine mvS 11 (some 39) hHeld ?_
              refine mvS 12 (some 40) hHeld ?_
              refine mvS 13 (some 41) hHeld ?_
              refine mvS 14 (some 42) hHeld ?_
              refine mvS 15 (some 43) hHeld ?_
              refine mvS 16 (some 44) hHeld ?_
              refine mvR 17 (some 45) hHeld ?_
              refine wpAnyH_done (by kernel_rfl) ?_ _
              refine NoPanic.normal ?_
              go_wp2_with fail
              go_meet
              exact ⟨false, rfl, ⟨fun h => (by cases h), fun _ x hx => absurd (List.getElem?_eq_some_iff.1 hx).1 hpl⟩, hHeld.2, hHeld.1⟩
          case rest =>
            obtain ⟨b, rfl, HB, C3, I3⟩ := hcut
            rename World => w3
            clear C2 I2
            have hus : us.length ≤ 4 := by have := HU.out.1; have := lackN_len xs ys k; omega
            cases b
            · have HIA : Hid (InsAt us va p) := ⟨HP.out.1, HP.out.2, HB.out.2 rfl⟩
              have hp1 : p ≤ us.length := HIA.out.1
              have hcap : us.length ≤ xc := C3.out.caps.1
              clear HP HB
              have c3 := (I3.nth 1 rfl).one.1
              have j1 : (0 : Int) ≤ (p : Int) := by omega
              have j2 : (p : Int) ≤ (xc : Int) := by omega
              have j3 : (p : Int) ≤ (us.length : Int) := by omega
              have zb := I3.base
              have HOW1 : Hid ((w3.alloc (.cells #[] 96)).ownsRow (w.heap.size + 1 + 1) 96 6 (.slice (some ⟨w3.heap.size, 0, none⟩) 0 0) 0 []) := World.ownsRow_made (base := w.heap.size + 1 + 1) (e := 96) (size := 6) w3 #[] 0 (by have := I3.room; omega) (by unfold maxLen; omega) rfl
              have HN1 := hide ((C3.out.on (below_alloc1 w3 (.cells #[] 96))).newsTake (p := p) rfl)
              go_wp2_with (at_builtin; (refine wpList_append_more _ rfl (.tmp 48) (.tmp 51) 33 rfl (w.heap.size + 1 + 1) 96 j0 _ 6 72 Tryz.underlying33 J0.out J1.out J2.out J3.out rfl (by omega) w3.heap.size 0 0 [] rfl HOW1.out (some ⟨G, 0, none⟩) p xc (flat6 (us.take p)) rfl (by rw [flat6_len, List.length_take]; omega) (fun _ => ⟨_, rfl, HN1.out⟩) (flat6_one _) (by unfold maxLen; omega) (by omega) (by have := I3.room; simp; omega) _ rfl ?_; intro g1 cap1 w4 hown1 hgrow1 hat1; rw [Nat.zero_add] at hown1 ⊢; rw [List.nil_append] at hown1; have HB4 := hide (below_rows (below_alloc1 w3 _) hgrow1 (Nat.le_refl _)); have I4 := I3.on HB4.out; have c4 := (I4.nth 1 rfl).one.1; have s4 := (HSA.out _ I4.below).1; have HOW4 := hide hown1; have hg1 : w3.heap.size ≤ g1 := (by rcases hat1 with q | q <;> (rw [q]; first | exact Nat.le_refl _ | simp)); have HC4 := hide (C3.out.on HB4.out); clear hown1 hgrow1 hat1 c3))
              have HT4 := hide (HSA.out _ I4.below).2
              have HMV := hide (HMA.out va (List.mem_of_getElem? HVA.out))
              refine (l2Copy_any va w4 HMV.out HT4.out).mono ?_
              rintro e w5 ⟨v', rfl, hlike, hown, hb5⟩
              have HLK := hide hlike
              have HOV := hide hown
              have HB5 := hide hb5
              have z4 := HB4.out.size
              have z5 := hb5.size
              have I5 := I4.on hb5
              have L5 := hide ((HB4.out.trans (hb5.mono z4)).trans ((below_alloc1 w5 (.cells (verC v'.k v'.t v'.u v'.a v'.ts.length v'.c v'.s v'.g) 96)).mono (by omega : w3.heap.size ≤ w5.heap.size)))
              have HOW5 : Hid (w5.ownsRow (w.heap.size + 1 + 1) 96 6 (.slice (some ⟨g1, 0, none⟩) p cap1) p (flat6 (us.take p))) := World.ownsRow.kept HOW4.out (grown_none (row := none) hb5) (Classical.em _)
              have zr := I3.room
              have j4 : (us.length : Int) ≤ (xc : Int) := by omega
              clear hlike hown hb5 I4 c4 s4 HOW4 HC4 HT4
              have tk2 : True := trivial
              go_wp2_with (at_builtin; first | (clear tk2; (refine wpList_append_lies _ rfl (.tmp 53) (.tmp 60) 33 rfl (w.heap.size + 1 + 1) 96 j0 _ 6 72 Tryz.underlying33 J0.out J1.out J2.out J3.out rfl (by omega) (.slice (some ⟨g1, 0, none⟩) p cap1) p (flat6 (us.take p)) rfl (HOW5.out.alloc _) ⟨w5.heap.size, 0, none⟩ 1 1 (cells6 v') rfl rfl (World.news_of_block (cs := verC v'.k v'.t v'.u v'.a v'.ts.length v'.c v'.s v'.g) (by simpa using heap_alloc_new w5 (.cells (verC v'.k v'.t v'.u v'.a v'.ts.length v'.c v'.s v'.g) 96))) (by simp [cells6, Value.oneCell']) (by omega) (by unfold maxLen; omega) (by omega) (by simp; omega) _ rfl ?_; intro g2 cap2 w6 hown2 hgrow2 hat2 hlt2; have HB6 := hide (below_rows L5.out hgrow2 hg1); have HOW6 := hide hown2; have HGW6 := hide hgrow2; have hg2 : w3.heap.size ≤ g2 := (by rcases hat2 with q | q; (injection q with q; have q' : g1 = g2 := q; omega); (rw [q]; simp; omega)); have HN6 := hide ((C3.out.on HB6.out).newsDrop (p := p) rfl); have z6 := HB6.out.size; clear hown2 hgrow2 hat2 hlt2)) | ((refine wpList_append_more _ rfl (.tmp 62) (.tmp 65) 33 rfl (w.heap.size + 1 + 1) 96 j0 _ 6 72 Tryz.underlying33 J0.out J1.out J2.out J3.out rfl (by omega) g2 (p + 1) cap2 (flat6 (us.take p) ++ cells6 v') rfl HOW6.out _ (us.length - p) _ (flat6 (us.drop p)) rfl (by rw [flat6_len, List.length_drop]) (fun hm => ⟨⟨G, p * 6, none⟩, by first | rfl | (split <;> first | rfl | (exfalso; omega)), HN6.out⟩) (flat6_one _) (by unfold maxLen; omega) (by omega) (by omega) _ rfl ?_; intro g3 cap3 w7 hown3 hgrow3 hat3; have HB7 := hide (below_rows HB6.out hgrow3 hg2); have HOW7 := hide hown3; have HGW7 := hide hgrow3; clear hown3 hgrow3 hat3)))
              all_goals
                have hl : (us.take p ++ v' :: us.drop p).length = p + 1 + (us.length - p) := by
                  simp only [List.length_append, List.length_cons, List.length_take, List.length_drop]
                  omega
                have hO7 : Own1 w7 w4.heap.size w7.heap.size v' := ((((HOV.out.on (below_alloc1 w5 _)).tk (tk_grown (HOW5.out.alloc _) HGW6.out)).tk (tk_grown HOW6.out HGW7.out)).wide (by have := HGW7.out.size; have := HGW6.out.size; simp at this; omega))
                have hC7 := C3.out.ins (n := p + 1 + (us.length - p)) (x' := .slice (some ⟨g3, 0, none⟩) (p + 1 + (us.length - p)) cap3) hp1 HB7.out z4 hO7 (by omega) (by rw [flat6_append, flat6_cons, ← List.append_assoc]; exact HOW7.out)
                refine ⟨⟨k + 1, g3, cap3, us.take p ++ v' :: us.drop p, by omega, by rw [hl], by go_num, ?_, ?_, I3.on HB7.out⟩, by simp [intOf]; omega⟩
                · unfold Hid
                  rw [HU1.out]
                  have h1 := insL_like HU.out (vlike_refl va)
                  refine ll_trans ?_ h1
                  rw [insL_at HIA.out]
                  exact ll_ins (ll_refl us) hp1 HLK.out
                · unfold Hid
                  rw [hl]
                  exact hC7
            · have hq1 := (HB.out.1 rfl).1
              have hp4 : p < 4 := by omega
              have HQ2 := hide (HB.out.1 rfl).2
              go_wp2
              refine ⟨⟨p + 1, by go_num, ⟨by omega, fun j x hj hx => ?_⟩, C3, I3⟩, by simp [intOf]; omega⟩
              by_cases e : j = p
              · subst e
                exact HQ2.out x hx
              · exact HP.out.2 j x (by omega) hx
    · have hk4 : k = 4 := by omega
      subst hk4
      clear hlt
      go_wp2
      go_ret
      exact ⟨_, us, rfl, HU.out, HC.out.down (by omega), hI.below⟩
end Go.Proofs.YtnaggcdhimcilaaGreat
/- What ChainFall answers, said plainly; a row of some nodes of another. No condition. -/
namespace Go.Proofs.YtnaggcdhimcilaaGreat
open Go.RowKit Go.Joins

/-- A node to which waits what the next one has not. -/
def lackNd (n m : Nd) : Nd := ⟨n.sa, n.sc, n.ss, n.wa, n.wc, lackN n.ss m.ss 4⟩
/-- The node ahead of where one fell passes on what the next one has not. -/
def owedN (r : List Nd) (k : Nat) : List Nd := match r[k - 1]?, r[k]? with | some n, some m => if 0 < k then r.set (k - 1) (lackNd n m) else r | _, _ => r
/-- At the last nothing waits. -/
def lastN (r : List Nd) : List Nd := match r[r.length - 1]? with | some n => r.set (r.length - 1) (bare n) | none => r
/-- A chain without a node. -/
def fallG (ns : List Nd) (k : Nat) : List Nd := lastN (owedN (ns.eraseIdx k) k)
/-- What ChainFall answers. -/
def fallB (ns : List Nd) (k : Int) : Bool := decide (2 ≤ ns.length) && decide (0 ≤ k ∧ k < (ns.length : Int))
def fallN (ns : List Nd) (k : Int) : List Nd := if chainB ns = true then (if fallB ns k = true then fallG ns k.toNat else ns) else []
def fallK (ns : List Nd) (k : Int) : Bool := chainB ns && fallB ns k
theorem fallN_no {ns : List Nd} {k : Int} (h : chainB ns = false) : fallN ns k = [] ∧ fallK ns k = false := by unfold fallN fallK; rw [h]; exact ⟨rfl, rfl⟩
theorem fallN_not {ns : List Nd} {k : Int} (h : chainB ns = true) (hc : fallB ns k = false) : fallN ns k = ns ∧ fallK ns k = false := by unfold fallN fallK; rw [h, hc]; exact ⟨rfl, rfl⟩
theorem fallN_yes {ns : List Nd} {k : Int} (h : chainB ns = true) (hc : fallB ns k = true) : fallN ns k = fallG ns k.toNat ∧ fallK ns k = true := by unfold fallN fallK; rw [h, hc]; exact ⟨rfl, rfl⟩
theorem fallB_like {us ns : List Nd} (h : NL us ns) (k : Int) : fallB us k = fallB ns k := by unfold fallB; rw [h.1]
theorem owedN_len (r : List Nd) (k : Nat) : (owedN r k).length = r.length := by
  unfold owedN
  split
  · split
    · rw [List.length_set]
    · rfl
  · rfl
theorem lastN_len (r : List Nd) : (lastN r).length = r.length := by
  unfold lastN
  split
  · rw [List.length_set]
  · rfl
theorem erase_len {us : List Nd} {k : Nat} (h : k < us.length) : (us.eraseIdx k).length = us.length - 1 := List.length_eraseIdx_of_lt h
theorem fallG_len {us : List Nd} {k : Nat} (h : k < us.length) : (fallG us k).length = us.length - 1 := by unfold fallG; rw [lastN_len, owedN_len, erase_len h]
theorem owedN_at {r : List Nd} {k : Nat} {n m : Nd} (h0 : 0 < k) (hn : r[k - 1]? = some n) (hm : r[k]? = some m) : owedN r k = r.set (k - 1) (lackNd n m) := by unfold owedN; rw [hn, hm]; simp only [h0, if_true]
theorem owedN_head {r : List Nd} {k : Nat} (h0 : ¬ (0 < k ∧ k < r.length)) : owedN r k = r := by
  unfold owedN
  split
  · split
    · rename_i h1 h2 h3
      exact absurd ⟨h3, (List.getElem?_eq_some_iff.1 h2).1⟩ h0
    · rfl
  · rfl
theorem lastN_at {r : List Nd} {n : Nd} (hn : r[r.length - 1]? = some n) : lastN r = r.set (r.length - 1) (bare n) := by unfold lastN; rw [hn]
theorem nl_erase {us ns : List Nd} (h : NL us ns) (k : Nat) : NL (us.eraseIdx k) (ns.eraseIdx k) := by
  refine ⟨by rw [List.length_eraseIdx, List.length_eraseIdx, h.1], fun i x y hx hy => ?_⟩
  rw [List.getElem?_eraseIdx] at hx hy
  split at hx
  · rename_i hik
    rw [if_pos hik] at hy
    exact h.2 i x y hx hy
  · rename_i hik
    rw [if_neg hik] at hy
    exact h.2 (i + 1) x y hx hy
theorem lackNd_like {n m n' m' : Nd} (h : Nd.like n n') (hm : Nd.like m m') : Nd.like (lackNd n m) (lackNd n' m') := by
  have := lackN_like (xs := n.ss) (ys := m.ss) (xs' := n'.ss) (ys' := m'.ss) ⟨h.1, h.2.1⟩ ⟨hm.1, hm.2.1⟩ 4
  exact ⟨h.1, h.2.1, this.1, this.2⟩
theorem bare_like' {n m : Nd} (h : Nd.like n m) : Nd.like (bare n) (bare m) := ⟨h.1, h.2.1, rfl, like_refl _⟩
theorem owedN_like {us ns : List Nd} (h : NL us ns) (k : Nat) : NL (owedN us k) (owedN ns k) := by
  by_cases hc : 0 < k ∧ k < us.length
  · obtain ⟨n, hn⟩ : ∃ n, us[k - 1]? = some n := ⟨_, List.getElem?_eq_getElem (by omega)⟩
    obtain ⟨m, hm⟩ : ∃ m, us[k]? = some m := ⟨_, List.getElem?_eq_getElem hc.2⟩
    obtain ⟨n', hn', hl⟩ := nl_at h hn
    obtain ⟨m', hm', hl'⟩ := nl_at h hm
    rw [owedN_at hc.1 hn hm, owedN_at hc.1 hn' hm']
    exact nl_set h (lackNd_like hl hl')
  · rw [owedN_head hc, owedN_head (by rw [← h.1]; exact hc)]
    exact h
theorem lastN_like {us ns : List Nd} (h : NL us ns) : NL (lastN us) (lastN ns) := by
  cases hx : us[us.length - 1]? with
  | none =>
    have h1 : lastN us = us := by unfold lastN; rw [hx]
    have h2 : lastN ns = ns := by unfold lastN; rw [← h.1, nl_none h hx]
    rw [h1, h2]
    exact h
  | some n =>
    obtain ⟨m, hm, hl⟩ := nl_at h hx
    rw [lastN_at hx, lastN_at (by rw [← h.1]; exact hm), ← h.1]
    exact nl_set h (bare_like' hl)
theorem fallG_like {us ns : List Nd} (h : NL us ns) (k : Nat) : NL (fallG us k) (fallG ns k) := lastN_like (owedN_like (nl_erase h k) k)
theorem fallN_like {us ns : List Nd} (h : NL us ns) (k : Int) : NL (fallN us k) (fallN ns k) ∧ fallK us k = fallK ns k := by
  refine ⟨?_, by unfold fallK; rw [chainB_like h, fallB_like h]⟩
  unfold fallN
  rw [chainB_like h, fallB_like h]
  split
  · split
    · exact fallG_like h _
    · exact h
  · exact ⟨rfl, fun i x y hx => by simp at hx⟩
/-- A row of some of the nodes of another, in other memory; what these own stays where it is. -/
theorem GRow.pick {base : Nat} {wr w2 : World} {x x' : Value} {us us' : List Nd} {n : Nat} (h : GRow base wr x us) (hb : Below wr.heap.size wr w2) (f : Nat → Nat) (hf : ∀ (i : Nat) y, us'[i]? = some y → us[f i]? = some y) (hinj : ∀ i j, i ≠ j → f i ≠ f j) (hn : n = us'.length) (hrow : w2.ownsRow base 90 2 x' n (flatN us')) : GRow base w2 x' us' := by
  have h2 := h.on hb
  exact ⟨hn ▸ hrow, fun i y hi => h2.store _ y (hf i y hi), fun i y hi => h2.wait _ y (hf i y hi), fun i y hi => h2.two _ y (hf i y hi), fun i j y y' hne hi hj => h2.apart _ _ y y' (hinj i j hne) (hf i y hi) (hf j y' hj), h2.lo, fun i y hi => h2.own _ y (hf i y hi)⟩
theorem flatN_append (us vs : List Nd) : flatN (us ++ vs) = flatN us ++ flatN vs := by simp [flatN]
theorem flatN_len (us : List Nd) : (flatN us).length = us.length * 2 := by
  induction us with
  | nil => rfl
  | cons x r ih => simp [flatN, cellsN] at *; omega
theorem flatN_one (us : List Nd) : ∀ u ∈ flatN us, u.oneCell' = true := fun u hu => by
  simp only [flatN, List.mem_flatMap] at hu
  obtain ⟨x, _, hx⟩ := hu
  simp only [cellsN, List.mem_cons, List.not_mem_nil, or_false] at hx
  rcases hx with rfl | rfl <;> rfl
theorem GRow.erased {base : Nat} {wr w2 : World} {x x' : Value} {us : List Nd} {n k : Nat} (h : GRow base wr x us) (hb : Below wr.heap.size wr w2) (hk : k < us.length) (hn : n = us.length - 1) (hrow : w2.ownsRow base 90 2 x' n (flatN (us.take k) ++ flatN (us.drop (k + 1)))) : GRow base w2 x' (us.eraseIdx k) :=
  h.pick (n := n) hb (fun i => if i < k then i else i + 1) (fun i y hi => by
    rw [List.getElem?_eraseIdx] at hi
    by_cases e : i < k
    · rw [if_pos e] at hi ⊢
      exact hi
    · rw [if_neg e] at hi ⊢
      exact hi) (fun i j hne => by
    show (if i < k then i else i + 1) ≠ (if j < k then j else j + 1)
    split <;> split <;> omega) (by rw [erase_len hk]; exact hn) (by rw [List.eraseIdx_eq_take_drop_succ, flatN_append]; exact hrow)
theorem GRow.newsTake {base : Nat} {w : World} {g c p : Nat} {us : List Nd} (h : GRow base w (.slice (some ⟨g, 0, none⟩) us.length c) us) : ∀ (j : Nat) u, (flatN (us.take p))[j]? = some u → w.cell? ((⟨g, 0, none⟩ : Addr).add j) = some u := fun j u hu => by
  have hj := (List.getElem?_eq_some_iff.1 hu).1
  rw [flatN_len, List.length_take] at hj
  have hadd : (⟨g, 0, none⟩ : Addr).add j = ⟨g, j, none⟩ := by unfold Addr.add; split <;> simp_all
  rw [hadd, World.ownsRow.cellAt (n := us.length) h.row j (by omega)]
  have e : flatN us = flatN (us.take p) ++ flatN (us.drop p) := by rw [← flatN_append, List.take_append_drop]
  rw [e, List.getElem?_append_left (by rw [flatN_len, List.length_take]; exact hj)]
  exact hu
theorem GRow.newsDrop {base : Nat} {w : World} {g c p : Nat} {us : List Nd} (h : GRow base w (.slice (some ⟨g, 0, none⟩) us.length c) us) : ∀ (j : Nat) u, (flatN (us.drop p))[j]? = some u → w.cell? ((⟨g, p * 2, none⟩ : Addr).add j) = some u := fun j u hu => by
  have hj := (List.getElem?_eq_some_iff.1 hu).1
  rw [flatN_len, List.length_drop] at hj
  have hadd : (⟨g, p * 2, none⟩ : Addr).add j = ⟨g, p * 2 + j, none⟩ := by unfold Addr.add; split <;> simp_all
  rw [hadd, World.ownsRow.cellAt (n := us.length) h.row (p * 2 + j) (by omega)]
  have e : flatN us = flatN (us.take p) ++ flatN (us.drop p) := by rw [← flatN_append, List.take_append_drop]
  have hl : (flatN (us.take p)).length = p * 2 := by rw [flatN_len, List.length_take]; omega
  rw [e, List.getElem?_append_right (by omega), hl, show p * 2 + j - p * 2 = j by omega]
  exact hu
theorem GRow.caps {base : Nat} {w : World} {g n c : Nat} {us : List Nd} (h : GRow base w (.slice (some ⟨g, 0, none⟩) n c) us) : us.length ≤ c ∧ g < w.heap.size := by
  rcases h.row.2 with ⟨q, _⟩ | ⟨g', cap, cr, q, _, h2, h3, _⟩
  · cases q
  · injection q with q1 q2 q3
    injection q1 with q1
    injection q1 with q1
    subst q1 q3
    exact ⟨h3, Blk.inside (show Blk w g 90 cr from h2)⟩
end Go.Proofs.YtnaggcdhimcilaaGreat
/- Contract of the model's l3Fall: a chain of the caller's own without a node. Condition: two to four nodes of four slots each, of causes that memory holds. -/
namespace Go.Proofs.YtnaggcdhimcilaaGreat
open Go.RowKit Go.Joins
attribute [local go_sem ↓] Go.wp_at_zero Go.wp_at_succ

/-- What l3Fall leaves. -/
def FellC (w : World) (base : Nat) (us : List Nd) (k : Nat) (e : Ending) (w' : World) : Prop :=
  ∃ (G2 cap2 : Nat) (us' : List Nd), e = .returned (.agg #[.slice (some ⟨G2, 0, none⟩) us'.length cap2]) ∧ NL us' (fallG us k) ∧ GRow base w' (.slice (some ⟨G2, 0, none⟩) us'.length cap2) us' ∧ Below w.heap.size w w'
end Go.Proofs.YtnaggcdhimcilaaGreat
