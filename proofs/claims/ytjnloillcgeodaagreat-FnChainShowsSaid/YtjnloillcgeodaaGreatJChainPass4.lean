/- What ChainPass answers, said plainly; what waits at a node replaced, in memory. No condition. -/
import Derived.Test.YtjnloillcgeodaaGreatJAppendMore
namespace Go.Proofs.YtjnloillcgeodaaGreat
open Go.RowKit Go.Joins

/-- A node without the first that waits there. -/
def tailNd (n : Nd) : Nd := ⟨n.sa, n.sc, n.ss, n.wa, n.wc, n.ws.tail⟩
/-- Whether a node can pass something on. -/
def canB (ns : List Nd) (k : Nat) : Bool := match ns[k]?, ns[k + 1]? with | some n, some m => decide (0 < n.ws.length) && decide (m.ws.length < 6) | _, _ => false
/-- The first that waits at a node comes to the next one. -/
def goN (ns : List Nd) (k : Nat) : List Nd := match ns[k]? with | some n => (match n.ws with | v :: _ => addN (ns.set k (tailNd n)) (k + 1) v | [] => ns) | none => ns
/-- What ChainPass answers. -/
def passN (ns : List Nd) (k : Int) : List Nd := if chainB ns = true then (if 0 ≤ k ∧ canB ns k.toNat = true then goN ns k.toNat else ns) else []
def passK (ns : List Nd) (k : Int) : Bool := chainB ns && (decide (0 ≤ k) && canB ns k.toNat)
theorem canB_at {ns : List Nd} {k : Nat} {n m : Nd} (hk : ns[k]? = some n) (hm : ns[k + 1]? = some m) : canB ns k = (decide (0 < n.ws.length) && decide (m.ws.length < 6)) := by unfold canB; rw [hk, hm]
theorem canB_end {ns : List Nd} {k : Nat} (h : ns.length ≤ k + 1) : canB ns k = false := by
  unfold canB
  rw [List.getElem?_eq_none (i := k + 1) h]
  cases ns[k]? <;> rfl
theorem goN_at {ns : List Nd} {k : Nat} {n : Nd} {v : V} {r : List V} (hk : ns[k]? = some n) (hw : n.ws = v :: r) : goN ns k = addN (ns.set k (tailNd n)) (k + 1) v := by
  unfold goN
  rw [hk]
  simp only [hw]
theorem Vg.tail {w : World} {B b off : Nat} {v : V} {r : List V} (h : Vg w B (some ⟨b, off, none⟩) (v :: r)) : Vg w B (some ⟨b, off + 6, none⟩) r := by
  rcases h with h | ⟨b', off', e, hb, hx⟩
  · cases h
  · injection e with e
    injection e with e1 e2
    subst e1 e2
    refine .inr ⟨b, off + 6, rfl, hb, fun i x hi => ?_⟩
    have := hx (i + 1) x (by simpa using hi)
    rw [show off + (i + 1) * 6 = off + 6 + i * 6 by omega] at this
    exact this
theorem CRow.footLo {base : Nat} {w : World} {A : Option Addr} {c : Nat} {us : List V} {sa : Option Addr} {sc : Nat} {ss : List V} {g : Nat} (h : CRow base w (.slice A us.length c) us) (hg : FootW ⟨sa, sc, ss, A, c, us⟩ g) : base ≤ g := by
  rcases hg with hf | e
  · obtain ⟨A', cap', e', hR⟩ := h.resS
    injection e' with e'
    subst e'
    obtain ⟨_, _, _, _, q, _⟩ := hR.typed hf
    exact q
  · obtain ⟨_, _, q, _⟩ := h.typed g e
    exact q
/-- What waits at a node is another row now: one of new blocks, or of what was the node's own. -/
theorem GRow.newWait {base : Nat} {wr w1 : World} {G xc k cap : Nat} {A : Option Addr} {us : List Nd} {n : Nd} {ws : List V} (h : GRow base wr (.slice (some ⟨G, 0, none⟩) us.length xc) us) (hk : us[k]? = some n) (hb : Below wr.heap.size wr w1)
    (hc : CRow base w1 (.slice A ws.length cap) ws) (hf : ∀ y, FootW ⟨n.sa, n.sc, n.ss, A, cap, ws⟩ y → FootW n y ∨ wr.heap.size ≤ y) :
    GRow base (w1.setCell ⟨G, k * 2 + 1, none⟩ (.slice A ws.length cap)) (.slice (some ⟨G, 0, none⟩) us.length xc) (us.set k ⟨n.sa, n.sc, n.ss, A, cap, ws⟩) := by
  have hT := (Turn.below (P := fun y => y = G) hb).set (p := ⟨G, k * 2 + 1, none⟩) rfl (.slice A ws.length cap)
  refine h.set hk hT ?_ ?_ ?_ (fun y h1 h2 => ?_) (fun y e => .inr (by rw [e]; rfl)) (fun y hy => ?_)
  · rw [flatN_set2 hk (u := .slice A ws.length cap) (by simp [cellsN])]
    refine ⟨by rw [List.length_set]; exact h.row.1, ?_⟩
    rcases h.row.2 with ⟨q, _⟩ | ⟨G', cap', cr, h1, h2, h3, h4, h5, h6, h7⟩
    · cases q
    · injection h1 with h1 _ h1'
      injection h1 with h1
      injection h1 with h1
      subst h1 h1'
      have B2 : Blk w1 G 37 cr := (show Blk wr G 37 cr from h3).on hb
      refine .inr ⟨G, xc, _, rfl, h2, B2.put (k * 2 + 1) _, h4, h5, by simpa using h6, ?_⟩
      rw [Array.toList_setIfInBounds, List.take_set, h7]
  · exact ((h.store k n hk).turnF hT (fun y hf hp => by
      obtain ⟨T, cs, b1, b2, _⟩ := (h.store k n hk).typed hf
      obtain ⟨cs', b3, _⟩ := h.typed G rfl
      subst hp
      exact b2 (blk_one b1 b3))).wide hT.size
  · exact hc.turnedT (P := fun y => y = G) ((Turn.refl (fun y => y = G) w1).set (p := ⟨G, k * 2 + 1, none⟩) rfl _) (fun y e => by
      obtain ⟨cs', b3, _⟩ := h.typed G rfl
      subst e
      exact ⟨_, cs', b3.on hb, node_ne_ver, node_ne_tag⟩)
  · rcases hf y h2 with q | q
    · exact h.two k n hk y h1 q
    · have := h.foot hk (g := y) (.inl h1)
      omega
  · rcases hy with hy | hy
    · exact .inl (.inl hy)
    · rcases hf y hy with q | q
      · exact .inl (.inr q)
      · exact .inr q
/-- A row without its first, laid anew: the causes stay where they are. -/
theorem CRow.tail {base : Nat} {wr w1 : World} {A : Option Addr} {m c : Nat} {x : Value} {v : V} {r : List V} (h : CRow base wr (.slice A m c) (v :: r)) (hb : Below wr.heap.size wr w1) (hrow : w1.ownsRow base 51 6 x r.length (flat6 r)) : CRow base w1 x r :=
  ⟨hrow, fun i y hi => ((h.own (i + 1) y (by simpa using hi)).on hb).wide hb.size, fun i j y y' hne hi hj => h.apart (i + 1) (j + 1) y y' (by omega) (by simpa using hi) (by simpa using hj), Nat.le_trans h.lo hb.size⟩
theorem CRow.tailFoot {base : Nat} {wr : World} {n : Nd} {g cap : Nat} {v : V} {r : List V} (h : CRow base wr (.slice n.wa n.ws.length n.wc) n.ws) (hw : n.ws = v :: r) (hg : wr.heap.size ≤ g) : ∀ y, FootW ⟨n.sa, n.sc, n.ss, some ⟨g, 0, none⟩, cap, r⟩ y → FootW n y ∨ wr.heap.size ≤ y := fun y hy => by
  rcases hy with ⟨_, G', e, hf⟩ | e
  · injection e with e
    injection e with e
    subst e
    rcases hf with rfl | ⟨i, z, hi, hn, ha⟩
    · exact .inr hg
    · exact .inl (.inl (h.tagFoot (i := i + 1) (by rw [hw]; simpa using hi) hn ha))
  · simp only [Value.ownBlock] at e
    injection e with e
    subst e
    exact .inr hg
end Go.Proofs.YtjnloillcgeodaaGreat
/- What a node has that another one has not, said plainly. No condition. -/
namespace Go.Proofs.YtjnloillcgeodaaGreat
open Go.RowKit Go.Joins

/-- A version put at its place among others, by tags. -/
def insL (us : List V) (v : V) : List V := us.takeWhile (fun x => lessB x.t x.u v.t v.u) ++ v :: us.dropWhile (fun x => lessB x.t x.u v.t v.u)
/-- What of the first slots is later in one store than in another, by tags. -/
def lackN (xs ys : List V) : Nat → List V
  | 0 => []
  | i + 1 => match xs[i]?, ys[i]? with
    | some x, some y => if lessB y.t y.u x.t x.u = true then insL (lackN xs ys i) x else lackN xs ys i
    | _, _ => lackN xs ys i
/-- How far a version goes. -/
def InsAt (us : List V) (v : V) (p : Nat) : Prop := p ≤ us.length ∧ (∀ (j : Nat) x, j < p → us[j]? = some x → lessB x.t x.u v.t v.u = true) ∧ (∀ x, us[p]? = some x → lessB x.t x.u v.t v.u = false)
theorem insL_at : ∀ {us : List V} {v : V} {p : Nat}, InsAt us v p → insL us v = us.take p ++ v :: us.drop p
  | [], v, p, ⟨h0, _, _⟩ => by
    have : p = 0 := by simpa using h0
    subst this
    rfl
  | x :: r, v, 0, ⟨_, _, h2⟩ => by
    have := h2 x rfl
    simp [insL, this]
  | x :: r, v, p + 1, ⟨h0, h1, h2⟩ => by
    have hx := h1 0 x (by omega) rfl
    have ih := insL_at (us := r) (v := v) (p := p) ⟨by simpa using h0, fun j y hj hy => h1 (j + 1) y (by omega) (by simpa using hy), fun y hy => h2 y (by simpa using hy)⟩
    unfold insL at ih ⊢
    simp only [List.takeWhile_cons, List.dropWhile_cons, hx, if_true, List.cons_append, List.take_succ_cons, List.drop_succ_cons]
    rw [ih]
theorem insL_cut : ∀ (us : List V) (v : V), ∃ p, InsAt us v p
  | [], v => ⟨0, Nat.le_refl _, fun j x hj => by omega, fun x hx => by simp at hx⟩
  | x :: r, v => by
    cases hb : lessB x.t x.u v.t v.u
    · exact ⟨0, Nat.zero_le _, fun j x hj => by omega, fun y hy => by
        have : x = y := by simpa using hy
        subst this
        exact hb⟩
    · obtain ⟨p, h0, h1, h2⟩ := insL_cut r v
      refine ⟨p + 1, by simpa using h0, fun j y hj hy => ?_, fun y hy => h2 y (by simpa using hy)⟩
      cases j with
      | zero =>
        have : x = y := by simpa using hy
        subst this
        exact hb
      | succ j => exact h1 j y (by omega) (by simpa using hy)
theorem insL_len (us : List V) (v : V) : (insL us v).length = us.length + 1 := by
  obtain ⟨p, hp⟩ := insL_cut us v
  have := hp.1
  rw [insL_at hp, List.length_append, List.length_cons, List.length_take, List.length_drop]
  omega
theorem ins_get {us : List V} {v : V} {p : Nat} (hp : p ≤ us.length) {i : Nat} {y : V} (h : (us.take p ++ v :: us.drop p)[i]? = some y) : (i < p ∧ us[i]? = some y) ∨ (i = p ∧ y = v) ∨ (p < i ∧ us[i - 1]? = some y) := by
  have hl : (us.take p).length = p := by rw [List.length_take]; omega
  rcases Nat.lt_trichotomy i p with h1 | h1 | h1
  · rw [List.getElem?_append_left (by omega), List.getElem?_take_of_lt h1] at h
    exact .inl ⟨h1, h⟩
  · subst h1
    rw [List.getElem?_append_right (by omega), hl, Nat.sub_self] at h
    exact .inr (.inl ⟨rfl, by simpa using h.symm⟩)
  · rw [List.getElem?_append_right (by omega), hl] at h
    obtain ⟨q, hq⟩ : ∃ q, i - p = q + 1 := ⟨i - p - 1, by omega⟩
    rw [hq, List.getElem?_cons_succ, List.getElem?_drop] at h
    exact .inr (.inr ⟨h1, by rw [show i - 1 = p + q by omega]; exact h⟩)
theorem ins_at {us : List V} {v : V} {p : Nat} (hp : p ≤ us.length) (i : Nat) : (us.take p ++ v :: us.drop p)[i]? = if i < p then us[i]? else if i = p then some v else us[i - 1]? := by
  have hl : (us.take p).length = p := by rw [List.length_take]; omega
  rcases Nat.lt_trichotomy i p with h1 | h1 | h1
  · rw [if_pos h1, List.getElem?_append_left (by omega), List.getElem?_take_of_lt h1]
  · subst h1
    rw [if_neg (by omega), if_pos rfl, List.getElem?_append_right (by omega), hl, Nat.sub_self]
    rfl
  · rw [if_neg (by omega), if_neg (by omega), List.getElem?_append_right (by omega), hl]
    obtain ⟨q, hq⟩ : ∃ q, i - p = q + 1 := ⟨i - p - 1, by omega⟩
    rw [hq, List.getElem?_cons_succ, List.getElem?_drop, show i - 1 = p + q by omega]
theorem ll_ins {us vs : List V} {u v : V} {p : Nat} (h : LL us vs) (hp : p ≤ us.length) (hv : V.like u v) : LL (us.take p ++ u :: us.drop p) (vs.take p ++ v :: vs.drop p) := by
  have hp' : p ≤ vs.length := by rw [← h.1]; exact hp
  refine ⟨by simp only [List.length_append, List.length_cons, List.length_take, List.length_drop]; have := h.1; omega, fun i x y hx hy => ?_⟩
  rw [ins_at hp] at hx
  rw [ins_at hp'] at hy
  by_cases h1 : i < p
  · rw [if_pos h1] at hx hy
    exact h.2 i x y hx hy
  · rw [if_neg h1] at hx hy
    by_cases h2 : i = p
    · rw [if_pos h2] at hx hy
      injection hx with hx
      injection hy with hy
      subst hx hy
      exact hv
    · rw [if_neg h2] at hx hy
      exact h.2 (i - 1) x y hx hy
theorem insAt_like {us vs : List V} {u v : V} {p : Nat} (h : LL us vs) (hv : V.like u v) (hp : InsAt us u p) : InsAt vs v p := by
  have key : ∀ (j : Nat) y, vs[j]? = some y → ∃ x, us[j]? = some x ∧ lessB x.t x.u u.t u.u = lessB y.t y.u v.t v.u := fun j y hy => by
    obtain ⟨x, hx⟩ : ∃ x, us[j]? = some x := ⟨_, List.getElem?_eq_getElem (by rw [h.1]; exact (List.getElem?_eq_some_iff.1 hy).1)⟩
    have hl := h.2 j x y hx hy
    exact ⟨x, hx, by rw [hl.2.1, hl.2.2.1, hv.2.1, hv.2.2.1]⟩
  refine ⟨by rw [← h.1]; exact hp.1, fun j y hj hy => ?_, fun y hy => ?_⟩
  · obtain ⟨x, hx, e⟩ := key j y hy
    rw [← e]
    exact hp.2.1 j x hj hx
  · obtain ⟨x, hx, e⟩ := key p y hy
    rw [← e]
    exact hp.2.2 x hx
theorem insL_like {us vs : List V} {u v : V} (h : LL us vs) (hv : V.like u v) : LL (insL us u) (insL vs v) := by
  obtain ⟨p, hp⟩ := insL_cut us u
  rw [insL_at hp, insL_at (insAt_like h hv hp)]
  exact ll_ins h hp.1 hv
theorem lackN_len (xs ys : List V) : ∀ i, (lackN xs ys i).length ≤ i
  | 0 => Nat.le_refl _
  | i + 1 => by
    have ih := lackN_len xs ys i
    unfold lackN
    split
    · split
      · rw [insL_len]; omega
      · omega
    · omega
theorem lackN_yes {xs ys : List V} {i : Nat} {x y : V} (hx : xs[i]? = some x) (hy : ys[i]? = some y) (h : lessB y.t y.u x.t x.u = true) : lackN xs ys (i + 1) = insL (lackN xs ys i) x := by
  rw [lackN, hx, hy]
  simp only [h, if_true]
theorem lackN_not {xs ys : List V} {i : Nat} {x y : V} (hx : xs[i]? = some x) (hy : ys[i]? = some y) (h : lessB y.t y.u x.t x.u = false) : lackN xs ys (i + 1) = lackN xs ys i := by
  rw [lackN, hx, hy]
  simp only [h]
  rfl
theorem lackN_like {xs ys xs' ys' : List V} (ha : LL xs xs') (hb : LL ys ys') : ∀ i, LL (lackN xs ys i) (lackN xs' ys' i)
  | 0 => ⟨rfl, fun i x y hx => by simp [lackN] at hx⟩
  | i + 1 => by
    have ih := lackN_like ha hb i
    cases hx : xs[i]? with
    | none =>
      have hx' : xs'[i]? = none := List.getElem?_eq_none (by rw [← ha.1]; exact List.getElem?_eq_none_iff.1 hx)
      simp only [lackN, hx, hx']
      exact ih
    | some x =>
      obtain ⟨x', hx'⟩ : ∃ x', xs'[i]? = some x' := ⟨_, List.getElem?_eq_getElem (by rw [← ha.1]; exact (List.getElem?_eq_some_iff.1 hx).1)⟩
      cases hy : ys[i]? with
      | none =>
        have hy' : ys'[i]? = none := List.getElem?_eq_none (by rw [← hb.1]; exact List.getElem?_eq_none_iff.1 hy)
        simp only [lackN, hx, hx', hy, hy']
        exact ih
      | some y =>
        obtain ⟨y', hy'⟩ : ∃ y', ys'[i]? = some y' := ⟨_, List.getElem?_eq_getElem (by rw [← hb.1]; exact (List.getElem?_eq_some_iff.1 hy).1)⟩
        have lx := ha.2 i x x' hx hx'
        have ly := hb.2 i y y' hy hy'
        have e : lessB y.t y.u x.t x.u = lessB y'.t y'.u x'.t x'.u := by rw [lx.2.1, lx.2.2.1, ly.2.1, ly.2.2.1]
        cases hc : lessB y.t y.u x.t x.u
        · rw [lackN_not hx hy hc, lackN_not hx' hy' (e ▸ hc)]
          exact ih
        · rw [lackN_yes hx hy hc, lackN_yes hx' hy' (e ▸ hc)]
          exact insL_like ih lx
/-- A row with one version more among the others: the causes of these stay where they are. -/
theorem CRow.ins {base : Nat} {wr w2 : World} {x x' : Value} {us : List V} {v : V} {B n p : Nat} (h : CRow base wr x us) (hp : p ≤ us.length) (hb : Below wr.heap.size wr w2) (hB : wr.heap.size ≤ B) (ho : Own1 w2 B w2.heap.size v)
    (hn : n = us.length + 1) (hown : w2.ownsRow base 51 6 x' n (flat6 (us.take p ++ v :: us.drop p))) : CRow base w2 x' (us.take p ++ v :: us.drop p) := by
  have zb := h.lo
  have z1 := hb.size
  have hl : (us.take p ++ v :: us.drop p).length = us.length + 1 := by
    simp only [List.length_append, List.length_cons, List.length_take, List.length_drop]
    omega
  have hap : ∀ (i : Nat) y, us[i]? = some y → y.ts ≠ [] → v.ts ≠ [] → y.a ≠ v.a := by
    intro i y hy hn hn'
    rcases h.own i y hy with h0 | ⟨g1, _, e1, _, q1, _⟩
    · exact absurd h0 hn
    · rcases ho with h0 | ⟨g2, _, e2, q2, _⟩
      · exact absurd h0 hn'
      · rw [e1, e2]
        intro e
        injection e with e
        injection e with e
        omega
  subst hn
  refine ⟨by rw [hl]; exact hown, fun i y hy => ?_, fun i j y y' hne hy hy' hn hn' => ?_, by omega⟩
  · rcases ins_get hp hy with ⟨_, hq⟩ | ⟨_, rfl⟩ | ⟨_, hq⟩
    · exact ((h.own i y hq).on hb).wide z1
    · exact ho.low (by omega)
    · exact ((h.own _ y hq).on hb).wide z1
  · rcases ins_get hp hy with ⟨q1, hq⟩ | ⟨q1, e1⟩ | ⟨q1, hq⟩ <;> rcases ins_get hp hy' with ⟨q2, hq'⟩ | ⟨q2, e2⟩ | ⟨q2, hq'⟩
    · exact h.apart i j y y' hne hq hq' hn hn'
    · rw [e2]; exact hap i y hq hn (e2 ▸ hn')
    · exact h.apart i (j - 1) y y' (by omega) hq hq' hn hn'
    · rw [e1]; exact fun e => hap j y' hq' hn' (e1 ▸ hn) e.symm
    · omega
    · rw [e1]; exact fun e => hap (j - 1) y' hq' hn' (e1 ▸ hn) e.symm
    · exact h.apart (i - 1) j y y' (by omega) hq hq' hn hn'
    · rw [e2]; exact hap (i - 1) y hq hn (e2 ▸ hn')
    · exact h.apart (i - 1) (j - 1) y y' (by omega) hq hq' hn hn'
theorem owns_typed {w : World} {base size g n c : Nat} {e : TypeId} {zs : List Value} (h : w.ownsRow base e size (.slice (some ⟨g, 0, none⟩) n c) n zs) : ∃ cs, Blk w g e cs := by
  rcases h.2 with ⟨q, _⟩ | ⟨g', cap, cr, q, _, h2, _⟩
  · cases q
  · injection q with q
    injection q with q
    injection q with q
    subst q
    exact ⟨cr, h2⟩
theorem tk_grown {w w' : World} {base size g n c : Nat} {zs : List Value} (h : w.ownsRow base 51 size (.slice (some ⟨g, 0, none⟩) n c) n zs) (hg : w.grownBy w' (some g)) : Tk w w' := .grown hg fun r hr => by
  injection hr with hr
  subst hr
  obtain ⟨cs, hc⟩ := owns_typed h
  exact ⟨_, _, hc, ver_ne_tag⟩
theorem flat6_append (us vs : List V) : flat6 (us ++ vs) = flat6 us ++ flat6 vs := by simp [flat6]
theorem flat6_cons (v : V) (us : List V) : flat6 (v :: us) = cells6 v ++ flat6 us := by simp [flat6]
/-- The cells of the first, and of the last, of a row. -/
theorem CRow.newsTake {base : Nat} {w : World} {g n c p : Nat} {us : List V} (h : CRow base w (.slice (some ⟨g, 0, none⟩) n c) us) (hn : n = us.length) : ∀ (j : Nat) u, (flat6 (us.take p))[j]? = some u → w.cell? ((⟨g, 0, none⟩ : Addr).add j) = some u := fun j u hu => by
  subst hn
  have hj := (List.getElem?_eq_some_iff.1 hu).1
  rw [flat6_len, List.length_take] at hj
  have hadd : (⟨g, 0, none⟩ : Addr).add j = ⟨g, j, none⟩ := by unfold Addr.add; split <;> simp_all
  rw [hadd, World.ownsRow.cellAt (n := us.length) h.row j (by omega)]
  have e : flat6 us = flat6 (us.take p) ++ flat6 (us.drop p) := by rw [← flat6_append, List.take_append_drop]
  rw [e, List.getElem?_append_left (by rw [flat6_len, List.length_take]; exact hj)]
  exact hu
theorem CRow.newsDrop {base : Nat} {w : World} {g n c p : Nat} {us : List V} (h : CRow base w (.slice (some ⟨g, 0, none⟩) n c) us) (hn : n = us.length) : ∀ (j : Nat) u, (flat6 (us.drop p))[j]? = some u → w.cell? ((⟨g, p * 6, none⟩ : Addr).add j) = some u := fun j u hu => by
  subst hn
  have hj := (List.getElem?_eq_some_iff.1 hu).1
  rw [flat6_len, List.length_drop] at hj
  have hadd : (⟨g, p * 6, none⟩ : Addr).add j = ⟨g, p * 6 + j, none⟩ := by unfold Addr.add; split <;> simp_all
  rw [hadd, World.ownsRow.cellAt (n := us.length) h.row (p * 6 + j) (by omega)]
  have e : flat6 us = flat6 (us.take p) ++ flat6 (us.drop p) := by rw [← flat6_append, List.take_append_drop]
  have hl : (flat6 (us.take p)).length = p * 6 := by rw [flat6_len, List.length_take]; omega
  rw [e, List.getElem?_append_right (by omega), hl]
  rw [show p * 6 + j - p * 6 = j by omega]
  exact hu
theorem CRow.tagCells {base : Nat} {w : World} {g n c p : Nat} {us : List V} {y : V} (h : CRow base w (.slice (some ⟨g, 0, none⟩) n c) us) (hn : n = us.length) (hy : us[p]? = some y) : w.cell? ⟨g, p * 6 + 1, none⟩ = some (.int .i64 y.t) ∧ w.cell? ⟨g, p * 6 + 2, none⟩ = some (.int .i64 y.u) := by
  subst hn
  have hp := (List.getElem?_eq_some_iff.1 hy).1
  refine ⟨?_, ?_⟩
  · rw [World.ownsRow.cellAt (n := us.length) h.row (p * 6 + 1) (by omega), flat6_at us p y 1 hy (by omega)]
    rfl
  · rw [World.ownsRow.cellAt (n := us.length) h.row (p * 6 + 2) (by omega), flat6_at us p y 2 hy (by omega)]
    rfl
theorem CRow.caps {base : Nat} {w : World} {g n c : Nat} {us : List V} (h : CRow base w (.slice (some ⟨g, 0, none⟩) n c) us) : us.length ≤ c ∧ g < w.heap.size := by
  rcases h.row.2 with ⟨q, _⟩ | ⟨g', cap, cr, q, _, h2, h3, _⟩
  · cases q
  · injection q with q1 q2 q3
    injection q1 with q1
    injection q1 with q1
    subst q1 q3
    exact ⟨h3, Blk.inside (show Blk w g 51 cr from h2)⟩
end Go.Proofs.YtjnloillcgeodaaGreat
/- Contract of the program's pass: the first that waits at a node of a chain of the caller's own comes to the next one, if that has room. Condition: at most four nodes, all valid. -/
namespace Go.Proofs.YtjnloillcgeodaaGreat
open Go.RowKit Go.Joins
attribute [local go_sem ↓] Go.wp_at_zero Go.wp_at_succ

/-- What pass leaves. -/
def PassedP (w : World) (base G xc : Nat) (us : List Nd) (k : Nat) (e : Ending) (w' : World) : Prop :=
  ∃ us' : List Nd, e = .returned (.bool (canB us k)) ∧ NL us' (if canB us k = true then goN us k else us) ∧ GRow base w' (.slice (some ⟨G, 0, none⟩) us.length xc) us' ∧ Turn (TouchC w base) w w'
theorem GRow.cgs {base : Nat} {w : World} {G xc : Nat} {us : List Nd} (hG : GRow base w (.slice (some ⟨G, 0, none⟩) us.length xc) us) (h1 : 0 < us.length) : ∃ cur, Cg w G us cur := by
  obtain ⟨_, hR⟩ := hG.res
  rcases hR with h0 | ⟨G', cur, e, hR⟩
  · rw [h0] at h1; simp at h1
  · injection e with e
    injection e with e
    subst e
    exact ⟨cur, hR.cg⟩
/-- What waits, where something does. -/
theorem CRow.first {base : Nat} {w : World} {A : Option Addr} {c : Nat} {v : V} {r : List V} (h : CRow base w (.slice A (r.length + 1) c) (v :: r)) : ∃ g : Nat, A = some ⟨g, 0, none⟩ ∧ g < w.heap.size ∧ r.length + 1 ≤ c ∧ Six w g 0 v ∧ Vg w w.heap.size (some ⟨g, 6, none⟩) r ∧ Own1 w 0 w.heap.size v := by
  obtain ⟨A', cap', e', hR⟩ := h.resS
  injection e' with e' _ _
  subst e'
  have hvg := hR.vg
  rcases h.row.2 with ⟨_, e⟩ | ⟨g, cap, cr, e, q1, q2, q3, _⟩
  · simp at e
  · injection e with e _ e2
    subst e2
    subst e
    have hlt : g < w.heap.size := Blk.inside (show Blk w g 51 cr from q2)
    refine ⟨g, rfl, hlt, q3, ?_, by have := hvg.tail; simpa using this, (h.own 0 v rfl).low (Nat.zero_le _)⟩
    rcases hvg with q | ⟨b, off, e, _, hx⟩
    · cases q
    · injection e with e
      injection e with e1 e2
      subst e1 e2
      exact (hx 0 v rfl).1
end Go.Proofs.YtjnloillcgeodaaGreat
/- Contract of the program's ChainPass. Condition: sizes that memory holds. -/
namespace Go.Proofs.YtjnloillcgeodaaGreat
open Go.RowKit Go.Joins
attribute [local go_sem ↓] Go.wp_at_zero Go.wp_at_succ

set_option maxRecDepth 100000 in
set_option maxHeartbeats 2000000 in
/-- There is no such node. -/
theorem linkAt_out (G n c : Nat) (k : Int) (w : World) (hk : k < 0 ∨ (n : Int) ≤ k) :
    Calls Tryz.prog 34 #[.slice (some ⟨G, 0, none⟩) n c, .int .i64 k] w fun e w' => e = .returned (.pointer none) ∧ Below w.heap.size w w' := by
  have S0 := ((Inv.start w).box 23 #[.slice (some ⟨G, 0, none⟩) n c]).box 3 #[.int .i64 k]
  simp only [World.size_alloc] at S0
  by_cases h0 : k < 0
  · go_enter Tryz.func34, Tryz.ntmps34
    go_wp2
    go_ret
    exact ⟨rfl, S0.below⟩
  · have h1 : k ≥ (n : Int) := by omega
    go_enter Tryz.func34, Tryz.ntmps34
    go_wp2
    go_ret
    exact ⟨rfl, S0.below⟩
end Go.Proofs.YtjnloillcgeodaaGreat
/- Contracts of the model's l3Can and l3Pass. Condition: at most four nodes, all valid. -/
namespace Go.Proofs.YtjnloillcgeodaaGreat
open Go.RowKit Go.Joins
attribute [local go_sem ↓] Go.wp_at_zero Go.wp_at_succ

set_option maxRecDepth 100000 in
set_option maxHeartbeats 2000000 in
theorem l3Can_any (G c : Nat) (ns : List Nd) (cur : Array Value) (k : Int) (w : World) (hC : Cg w G ns cur) (hl : ns.length ≤ 4) :
    Calls Tryz.prog 89 #[.agg #[.slice (some ⟨G, 0, none⟩) ns.length c], .int .i64 k] w fun e w' => e = .returned (.bool (decide (0 ≤ k) && canB ns k.toNat)) ∧ Below w.heap.size w w' := by
  have L0 := below_alloc1 w (.cells #[.slice (some ⟨G, 0, none⟩) ns.length c] 25)
  have k0 := (Blk.made w 25 #[.slice (some ⟨G, 0, none⟩) ns.length c]).one.1
  have HC := hide (hC.on L0)
  have kw : IntKind.i64.wrap ((ns.length : Int) - 2) = (ns.length : Int) - 2 := by rw [IntKind.wrap_i64]; omega
  have CI := hide (l1In_any k 0 ((ns.length : Int) - 2) (w.alloc (.cells #[.slice (some ⟨G, 0, none⟩) ns.length c] 25)))
  clear hC
  by_cases hin : 0 ≤ k ∧ k ≤ (ns.length : Int) - 2
  · obtain ⟨kn, rfl⟩ : ∃ kn : Nat, k = (kn : Int) := ⟨k.toNat, by omega⟩
    obtain ⟨n, hn⟩ : ∃ n, ns[kn]? = some n := ⟨_, List.getElem?_eq_getElem (by omega)⟩
    obtain ⟨m, hm⟩ : ∃ m, ns[kn + 1]? = some m := ⟨_, List.getElem?_eq_getElem (by omega)⟩
    have n1 := (HC.out.blk.at (kn * 2 + 1)).trans (HC.out.at' kn n hn).2
    have m1 := (HC.out.blk.at ((kn + 1) * 2 + 1)).trans (HC.out.at' (kn + 1) m hm).2
    rw [decide_eq_true hin] at CI
    have HCA : Hid ((decide (0 ≤ (kn : Int)) && canB ns (kn : Int).toNat) = (decide (0 < n.ws.length) && decide (m.ws.length < 6))) := by
      unfold Hid
      rw [Int.toNat_natCast, canB_at hn hm, decide_eq_true (p := 0 ≤ (kn : Int)) (by omega), Bool.true_and]
    rw [HCA.out]
    have i1 : (0 : Int) ≤ (kn : Int) := by omega
    have i2 : (kn : Int) < (ns.length : Int) := by omega
    have i3 : (0 : Int) ≤ (kn : Int) + 1 := by omega
    have i4 : (kn : Int) + 1 < (ns.length : Int) := by omega
    have iw : IntKind.i64.wrap ((kn : Int) + 1) = (kn : Int) + 1 := by rw [IntKind.wrap_i64]; omega
    have it : ((kn : Int) + 1).toNat = kn + 1 := by omega
    clear hn hm hin
    by_cases h0 : 0 < n.ws.length
    · have z0 : (n.ws.length : Int) > 0 := by omega
      rw [decide_eq_true h0]
      by_cases h6 : m.ws.length < 6
      · have z6 : (m.ws.length : Int) < 6 := by omega
        rw [decide_eq_true h6]
        clear h0 h6
        go_enter Tryz.func89, Tryz.ntmps89
        go_wp2_with fail
        with_reducible refine CI.out.mono ?_
        rintro e w1 ⟨rfl, rfl⟩
        go_wp2
        go_ret
        exact ⟨by simp, L0⟩
      · have z6 : ¬ ((m.ws.length : Int) < 6) := by omega
        rw [decide_eq_false h6]
        clear h0 h6
        go_enter Tryz.func89, Tryz.ntmps89
        go_wp2_with fail
        with_reducible refine CI.out.mono ?_
        rintro e w1 ⟨rfl, rfl⟩
        go_wp2
        go_ret
        exact ⟨by simp [z6], L0⟩
    · have z0 : ¬ ((n.ws.length : Int) > 0) := by omega
      rw [decide_eq_false h0, Bool.false_and]
      clear h0
      go_enter Tryz.func89, Tryz.ntmps89
      go_wp2_with fail
      with_reducible refine CI.out.mono ?_
      rintro e w1 ⟨rfl, rfl⟩
      go_wp2
      go_ret
      exact ⟨rfl, L0⟩
  · have HNO : Hid ((decide (0 ≤ k) && canB ns k.toNat) = false) := by
      unfold Hid
      by_cases h0 : 0 ≤ k
      · rw [canB_end (by omega), Bool.and_false]
      · rw [decide_eq_false h0, Bool.false_and]
    rw [HNO.out]
    rw [decide_eq_false hin] at CI
    clear hin
    go_enter Tryz.func89, Tryz.ntmps89
    go_wp2_with fail
    with_reducible refine CI.out.mono ?_
    rintro e w1 ⟨rfl, rfl⟩
    go_wp2
    go_ret
    exact ⟨rfl, L0⟩
theorem flat6_one (us : List V) : ∀ u ∈ flat6 us, u.oneCell' = true := fun u hu => by
  simp only [flat6, List.mem_flatMap] at hu
  obtain ⟨x, _, hx⟩ := hu
  simp only [cells6, List.mem_cons, List.not_mem_nil, or_false] at hx
  rcases hx with rfl | rfl | rfl | rfl | rfl | rfl <;> rfl
theorem CRow.news {base : Nat} {w : World} {g c : Nat} {v : V} {r : List V} (h : CRow base w (.slice (some ⟨g, 0, none⟩) (r.length + 1) c) (v :: r)) : ∀ (j : Nat) u, (flat6 r)[j]? = some u → w.cell? ⟨g, 6 + j, none⟩ = some u := fun j u hu => by
  have hj := (List.getElem?_eq_some_iff.1 hu).1
  rw [flat6_len] at hj
  have := World.ownsRow.cellAt (n := r.length + 1) (by simpa using h.row) (6 + j) (by omega)
  rw [this]
  have e : flat6 (v :: r) = cells6 v ++ flat6 r := by simp [flat6]
  rw [e, List.getElem?_append_right (by simp [cells6])]
  simpa [cells6] using hu
theorem below_rows {w w1 w2 : World} {g : Nat} (h : Below w.heap.size w w1) (hg : w1.grownBy w2 (some g)) (hw : w.heap.size ≤ g) : Below w.heap.size w w2 :=
  ⟨hg.os.trans h.os, hg.tape.trans h.tape, hg.output.trans h.output, Nat.le_trans h.size hg.size, fun k hk => (hg.block k (Nat.lt_of_lt_of_le hk h.size) (by intro e; injection e with e; omega)).trans (h.block k hk)⟩
theorem own_not_node {w : World} {v : V} {G g : Nat} {cs : Array Value} (h : Own1 w 0 w.heap.size v) (hG : Blk w G 37 cs) (ha : v.a = some ⟨g, 0, none⟩) (hn : v.ts ≠ []) : g ≠ G := fun e => by
  subst e
  rcases h with q | ⟨g', _, e1, _, _, q3, _⟩
  · exact hn q
  · rw [ha] at e1
    injection e1 with e1
    injection e1 with e1
    subst e1
    exact absurd (blk_one q3 hG) (by decide)
theorem touch_trans {base : Nat} {w w1 w2 : World} (h : Turn (TouchC w base) w w1) (k : Turn (TouchC w1 base) w1 w2) : Turn (TouchC w base) w w2 :=
  ⟨k.os.trans h.os, k.tape.trans h.tape, k.output.trans h.output, Nat.le_trans h.size k.size, fun i hi hn => (k.block i (Nat.lt_of_lt_of_le hi h.size) (fun ⟨hb, cs, hc⟩ => hn ⟨hb, cs, by
    have e := h.block i hi hn
    rcases hc with hc | hc
    · exact .inl (e.symm.trans hc)
    · exact .inr (e.symm.trans hc)⟩)).trans (h.block i hi hn)⟩
/-- What comes to the next node, the one ahead having changed. -/
theorem passAdd (base G xc kn : Nat) (us : List Nd) (n' m : Nd) (v : V) (w : World) (hG : GRow base w (.slice (some ⟨G, 0, none⟩) us.length xc) (us.set kn n')) (hm : us[kn + 1]? = some m) (hl : us.length ≤ 4) (hnb : shN m) (hvv : shV v) (hv : Own1 w 0 w.heap.size v) :
    Calls Tryz.prog 87 #[.agg #[.slice (some ⟨G, 0, none⟩) us.length xc], .int .i64 ((kn : Int) + 1), .agg (verC v.k v.t v.u v.a v.ts.length v.c v.s v.g)] w (fun e w' => ∃ us' : List Nd, e = .returned (.agg #[.slice (some ⟨G, 0, none⟩) us.length xc]) ∧ NL us' (addN (us.set kn n') (kn + 1) v) ∧ GRow base w' (.slice (some ⟨G, 0, none⟩) us.length xc) us' ∧ Turn (TouchC w base) w w') := by
  have C := l3Add_sh base G xc (kn + 1) (us.set kn n') m v w (by rw [List.length_set]; exact hG) (by rw [List.getElem?_set_ne (by omega)]; exact hm) (by rw [List.length_set]; exact hl) hnb.1 hnb.2.1 hvv hv
  unfold AddedC at C
  rw [List.length_set] at C
  exact C
/-- What l3Pass leaves. -/
def PassedC (w : World) (base G xc : Nat) (us : List Nd) (k : Nat) (e : Ending) (w' : World) : Prop :=
  ∃ us' : List Nd, e = .returned (.agg #[.slice (some ⟨G, 0, none⟩) us.length xc]) ∧ NL us' (goN us k) ∧ GRow base w' (.slice (some ⟨G, 0, none⟩) us.length xc) us' ∧ Turn (TouchC w base) w w'
set_option maxRecDepth 100000 in
set_option maxHeartbeats 4000000 in
theorem l3Pass_sh (base G xc kn : Nat) (us : List Nd) (n m : Nd) (v : V) (r : List V) (w : World) (hG : GRow base w (.slice (some ⟨G, 0, none⟩) us.length xc) us) (hk : us[kn]? = some n) (hm : us[kn + 1]? = some m) (hl : us.length ≤ 4) (hB : ∀ (i : Nat) m, us[i]? = some m → shN m) (hw : n.ws = v :: r) :
    Calls Tryz.prog 90 #[.agg #[.slice (some ⟨G, 0, none⟩) us.length xc], .int .i64 (kn : Int)] w (PassedC w base G xc us kn) := by
  obtain ⟨j0, hj0, hy0, hy1, hy2⟩ := info_parts ver_info
  have J0 := hide hj0
  have J1 := hide hy0
  have J2 := hide hy1
  have J3 := hide hy2
  clear hj0 hy0 hy1 hy2
  have hkl := (List.getElem?_eq_some_iff.1 hk).1
  obtain ⟨cur, hcg⟩ := hG.cgs (by omega)
  have S0 := (((Inv.start w).box 25 #[.slice (some ⟨G, 0, none⟩) us.length xc]).box 25 #[.slice none 0 0]).box 51 (verC v.k v.t v.u v.a v.ts.length v.c v.s v.g)
  simp only [World.size_alloc] at S0
  have hcr := hG.own kn n hk
  have c3 := (hcg.at' kn n hk).2
  have HCRW := hide hcr
  rw [hw] at hcr c3
  simp only [List.length_cons] at hcr c3
  obtain ⟨gw, hwa, hgl, hcc, hsix, -, hov⟩ := hcr.first
  rw [hwa] at c3 hcr
  obtain ⟨adT, haT, hadd⟩ : ∃ adT : Addr, (if n.wc = 1 then some (⟨gw, 0, none⟩ : Addr) else some ⟨gw, 6, none⟩) = some adT ∧ (r = [] ∨ adT = ⟨gw, 6, none⟩) := by
    by_cases h1 : n.wc = 1
    · rw [if_pos h1]
      exact ⟨_, rfl, .inl (List.length_eq_zero_iff.1 (by omega))⟩
    · rw [if_neg h1]
      exact ⟨_, rfl, .inr rfl⟩
  have HNEWS : Hid (∀ W, Below w.heap.size w W → ∀ (j : Nat) u, (flat6 r)[j]? = some u → W.cell? (adT.add j) = some u) := fun W hW j u hu => by
    rcases hadd with rfl | rfl
    · simp [flat6] at hu
    · have hq : (⟨gw, 6, none⟩ : Addr).add j = ⟨gw, 6 + j, none⟩ := by unfold Addr.add; split <;> simp_all
      rw [hq]
      exact (hcr.on hW).news j u hu
  have hr5 : r.length ≤ 5 := by
    obtain ⟨_, h6, _⟩ := hB kn n hk
    rw [hw] at h6
    simp only [List.length_cons] at h6
    omega
  have HVV := hide ((hB kn n hk).2.2 v (by rw [hw]; exact List.mem_cons_self))
  have hS2 := (Inv.start w).box 25 #[.slice (some ⟨G, 0, none⟩) us.length xc] |>.box 25 #[.slice none 0 0]
  simp only [World.size_alloc] at hS2
  have c3' : ((w.alloc (.cells #[.slice (some ⟨G, 0, none⟩) us.length xc] 25)).alloc (.cells #[.slice none 0 0] 25)).cell? ⟨G, kn * 2 + 1, none⟩ = some (.slice (some ⟨gw, 0, none⟩) (r.length + 1) n.wc) := ((hcg.on hS2.below).blk.at _).trans c3
  obtain ⟨s0, s1, s2, s3, s4, s5⟩ := hsix.keep hgl (fun _ hp => hS2.below.cell hp)
  simp only [Nat.zero_add] at s1 s2 s3 s4 s5
  have k0 := (hS2.nth 1 rfl).one.1
  have i1 : (0 : Int) ≤ (kn : Int) := by omega
  have i2 : (kn : Int) < (us.length : Int) := by omega
  have i3 : (0 : Int) < ((r.length + 1 : Nat) : Int) := by omega
  have i4 : (0 : Int) < (r.length : Int) + 1 := by omega
  have i5 : (1 : Int) ≤ (r.length : Int) + 1 := by omega
  have gin := hcg.blk.inside
  have hbs := hG.lo
  have HG := hide hG
  have HK := hide hk
  have HMM := hide hm
  have HB := hide hB
  have HW := hide hw
  have HC3 := hide c3
  have BG := hide hcg.blk
  have HV := hide hov
  have HCR := hide hcr
  have HWA := hide hwa
  clear hG hk hm hB hw c3 hov hcr hcg hS2 hwa hadd hsix
  go_enter Tryz.func90, Tryz.ntmps90
  go_wp2_with fail
  clear s0 s1 s2 s3 s4 s5 c3' k0
  generalize ((w.alloc (.cells #[.slice (some ⟨G, 0, none⟩) us.length xc] 25)).alloc (.cells #[.slice none 0 0] 25)).alloc (.cells (verC v.k v.t v.u v.a v.ts.length v.c v.s v.g) 51) = W1 at S0 ⊢
  have B3 := S0.nth 2 rfl
  have B5 := S0.nth 0 rfl
  have B6 := S0.nth 1 rfl
  have HB1 := hide S0.below
  have z1 := S0.room
  have N1 := BG.out.on HB1.out
  have q1 := (N1.at (kn * 2 + 1)).trans HC3.out
  have N2 := N1.more (.cells #[] 51)
  have q2 := (N2.at (kn * 2 + 1)).trans HC3.out
  have HB2 : Hid (Below w.heap.size w (W1.alloc (.cells #[] 51)).drew) := HB1.out.trans (((below_alloc1 W1 _).drew).mono HB1.out.size)
  have HOW : Hid ((W1.alloc (.cells #[] 51)).drew.ownsRow base 51 6 (.slice (some ⟨W1.heap.size, 0, none⟩) 0 0) 0 []) := World.ownsRow_made (base := base) (e := 51) (size := 6) W1 #[] 0 (by omega) (by unfold maxLen; omega) rfl
  refine wp_region_noPanic ?_
  refine wp_region_held_drew (S := (fun w' => w'.cell? ⟨w.heap.size, 0, none⟩ = some (.slice (some ⟨G, 0, none⟩) us.length xc) ∧ (Blk w' w.heap.size 25 #[.slice (some ⟨G, 0, none⟩) us.length xc] ∧ Blk w' (w.heap.size + 1) 25 #[.slice none 0 0] ∧ Blk w' (w.heap.size + 1 + 1) 51 (verC v.k v.t v.u v.a v.ts.length v.c v.s v.g)))) (by kernel_rfl) (by exact ⟨B3.drew.at 0, B3.drew, B6.drew, B5.drew⟩) (fun hHeld => ?_)
  refine take_run 0 (some 14) (v := ?_) rfl rfl (by kernel_rfl) (by kernel_rfl) (by kernel_rfl) (fun _ _ _ h => h) (by rfl) ?_ hHeld ?_
  rotate_left
  · ((intro w hSw); (try dsimp only at hSw); go_simp <;> with_reducible rfl)
  simp only [Act.put, List.setIfInBounds_toArray, List.set_cons_zero, List.set_cons_succ]
  refine take_run 1 (some 15) (v := ?_) rfl rfl (by kernel_rfl) (by kernel_rfl) (by kernel_rfl) (fun _ _ _ h => h) (by rfl) ?_ hHeld ?_
  rotate_left
  · ((intro w hSw); (try dsimp only at hSw); go_simp <;> with_reducible rfl)
  simp only [Act.put, List.setIfInBounds_toArray, List.set_cons_zero, List.set_cons_succ]
  refine take_run 2 (some 16) (v := ?_) rfl rfl (by kernel_rfl) (by kernel_rfl) (by kernel_rfl) (fun _ _ _ h => h) (by rfl) ?_ hHeld ?_
  rotate_left
  · ((intro w hSw); (try dsimp only at hSw); go_simp <;> with_reducible rfl)
  simp only [Act.put, List.setIfInBounds_toArray, List.set_cons_zero, List.set_cons_succ]
  refine take_run 4 (some 18) (v := ?_) rfl rfl (by kernel_rfl) (by kernel_rfl) (by kernel_rfl) (fun _ _ _ h => h) (by rfl) ?_ hHeld ?_
  rotate_left
  · ((intro w hSw); (try dsimp only at hSw); go_simp <;> with_reducible rfl)
  simp only [Act.put, List.setIfInBounds_toArray, List.set_cons_zero, List.set_cons_succ]
  refine take_run 5 (some 19) (v := ?_) rfl rfl (by kernel_rfl) (by kernel_rfl) (by kernel_rfl) (fun _ _ _ h => h) (by rfl) ?_ hHeld ?_
  rotate_left
  · ((intro w hSw); (try dsimp only at hSw); go_simp <;> with_reducible rfl)
  simp only [Act.put, List.setIfInBounds_toArray, List.set_cons_zero, List.set_cons_succ]
  refine take_run 6 (some 20) (v := ?_) rfl rfl (by kernel_rfl) (by kernel_rfl) (by kernel_rfl) (fun _ _ _ h => h) (by rfl) ?_ hHeld ?_
  rotate_left
  · ((intro w hSw); (try dsimp only at hSw); go_simp <;> with_reducible rfl)
  simp only [Act.put, List.setIfInBounds_toArray, List.set_cons_zero, List.set_cons_succ]
  refine take_run 7 (some 21) (v := ?_) rfl rfl (by kernel_rfl) (by kernel_rfl) (by kernel_rfl) (fun _ _ _ h => h) (by rfl) ?_ hHeld ?_
  rotate_left
  · ((intro w hSw); (try dsimp only at hSw); go_simp <;> with_reducible rfl)
  simp only [Act.put, List.setIfInBounds_toArray, List.set_cons_zero, List.set_cons_succ]
  refine take_run 8 (some 22) (v := ?_) rfl rfl (by kernel_rfl) (by kernel_rfl) (by kernel_rfl) (fun _ _ _ h => h) (by rfl) ?_ hHeld ?_
  rotate_left
  · ((intro w hSw); (try dsimp only at hSw); go_simp <;> with_reducible rfl)
  simp only [Act.put, List.setIfInBounds_toArray, List.set_cons_zero, List.set_cons_succ]
  refine wpAnyH_ready (rs := [3, 9]) (by kernel_rfl) (by simp) ?_
  refine AllReadyH.cons rfl (fun K hK => ?_) (AllReadyH.cons rfl (fun K hK => ?_) AllReadyH.nil)
  · skip
    go_simp
    refine hK.out _ _ (by exact ⟨(hHeld.2.1.more _).at 0, hHeld.2.1.more _, hHeld.2.2.1.more _, hHeld.2.2.2.more _⟩) (fun hHeld => ?_)
    clear hK K
    refine take_one 9 (by kernel_rfl) rfl (fun K hK => ?_)
    go_simp
    refine hK.out _ _ (by exact hHeld) (fun hHeld => ?_)
    clear hK K
    refine take_run 10 (some 24) (v := ?_) rfl rfl (by kernel_rfl) (by kernel_rfl) (by kernel_rfl) (fun _ _ _ h => h) (by rfl) ?_ hHeld ?_
    rotate_left
    · ((intro w hSw); (try dsimp only at hSw); go_simp <;> with_reducible rfl)
    simp only [Act.put, List.setIfInBounds_toArray, List.set_cons_zero, List.set_cons_succ]
    refine take_one 11 (by kernel_rfl) rfl (fun K hK => ?_)
    (refine step_append_more _ (by rfl) _ _ _ (by rfl) base 51 j0 _ 6 72 Tryz.underlying33 J0.out J1.out J2.out J3.out rfl (by omega) W1.heap.size 0 0 [] (by rfl) HOW.out (some adT) r.length (n.wc - 1) (flat6 r) (by rfl) (flat6_len r) (fun _ => ⟨adT, rfl, HNEWS.out _ HB2.out⟩) (flat6_one r) (by unfold maxLen; omega) (by omega) (by simp; omega) _ rfl ?_; intro g cap w8 hown2 hgrow hat; rw [Nat.zero_add] at hown2 ⊢; rw [List.nil_append] at hown2; have N8 := N2.drew.kept hgrow (by intro e; injection e with e; omega); have q5 := (N8.at (kn * 2 + 1)).trans HC3.out; have f5 := N8.loose (kn * 2 + 1); have OW := hide hown2; have GW := hide hgrow; have HAT := hide hat; clear hown2 hat)
    simp only [List.getElem_toArray, List.getElem_cons_zero, List.getElem_cons_succ, Act.put, List.setIfInBounds_toArray, List.set_cons_zero, List.set_cons_succ]
    refine hK.out _ _ (by exact ⟨(hHeld.2.1.kept hgrow (by intro e; injection e with e; omega)).at 0, hHeld.2.1.kept hgrow (by intro e; injection e with e; omega), hHeld.2.2.1.kept hgrow (by intro e; injection e with e; omega), hHeld.2.2.2.kept hgrow (by intro e; injection e with e; omega)⟩) (fun hHeld => ?_)
    clear hK K
    refine take_run 12 (some 26) (v := ?_) rfl rfl (by kernel_rfl) (by kernel_rfl) (by kernel_rfl) (fun _ _ _ h => h) (by rfl) ?_ hHeld ?_
    rotate_left
    · ((intro w hSw); (try dsimp only at hSw); go_simp <;> with_reducible rfl)
    simp only [Act.put, List.setIfInBounds_toArray, List.set_cons_zero, List.set_cons_succ]
    refine take_run 13 (some 27) (v := ?_) rfl rfl (by kernel_rfl) (by kernel_rfl) (by kernel_rfl) (fun _ _ _ h => h) (by rfl) ?_ hHeld ?_
    rotate_left
    · ((intro w hSw); (try dsimp only at hSw); go_simp <;> with_reducible rfl)
    simp only [Act.put, List.setIfInBounds_toArray, List.set_cons_zero, List.set_cons_succ]
    refine take_one 14 (by kernel_rfl) rfl (fun K hK => ?_)
    go_simp
    refine hK.out _ _ (by exact ⟨(hHeld.2.1.aside (by show w.heap.size ≠ G; omega) _).at 0, hHeld.2.1.aside (by show w.heap.size ≠ G; omega) _, hHeld.2.2.1.aside (by show w.heap.size + 1 ≠ G; omega) _, hHeld.2.2.2.aside (by show w.heap.size + 1 + 1 ≠ G; omega) _⟩) (fun hHeld => ?_)
    clear hK K
    refine wpAnyH_done (by kernel_rfl) ?_ _
    refine NoPanic.normal ?_
    obtain ⟨-, E3, E6, E5⟩ := hHeld
    have hg0 : w.heap.size ≤ g := by
      rcases HAT.out with q | q <;> (rw [q]; first | omega | (simp; omega))
    have BL8 := hide (below_rows HB2.out GW.out (by omega))
    have GG := HG.out.newWait (A := some ⟨g, 0, none⟩) (cap := cap) (ws := r) HK.out BL8.out (HCR.out.tail BL8.out OW.out) (HCRW.out.tailFoot HW.out hg0)
    have HGG := hide GG
    have HT9 := hide ((Turn.below (P := TouchC w base) BL8.out).set (p := ⟨G, kn * 2 + 1, none⟩) (by obtain ⟨cs, b1, b2, _⟩ := HG.out.typed G rfl; exact ⟨b2, cs, .inr b1⟩) (.slice (some ⟨g, 0, none⟩) r.length cap))
    have HV9 : Hid (Own1 (w8.setCell ⟨G, kn * 2 + 1, none⟩ (.slice (some ⟨g, 0, none⟩) r.length cap)) 0 (w8.setCell ⟨G, kn * 2 + 1, none⟩ (.slice (some ⟨g, 0, none⟩) r.length cap)).heap.size v) := ((HV.out.on BL8.out).turned ((Turn.refl (fun y => y = G) w8).set (p := ⟨G, kn * 2 + 1, none⟩) rfl (.slice (some ⟨g, 0, none⟩) r.length cap)) (fun g' h1 _ _ hn e => own_not_node HV.out BG.out h1 hn e)).wide (by have := BL8.out.size; simpa [World.setCell] using this)
    clear GG N1 N2 N8 q1 q2 q5 f5 B3 B5 B6
    generalize w8.setCell ⟨G, kn * 2 + 1, none⟩ (.slice (some ⟨g, 0, none⟩) r.length cap) = W9 at E3 E5 E6 HGG HT9 HV9 ⊢
    have CA := hide (passAdd base G xc kn us ⟨n.sa, n.sc, n.ss, some ⟨g, 0, none⟩, cap, r⟩ m v W9 HGG.out HMM.out hl (HB.out (kn + 1) m HMM.out) HVV.out HV9.out)
    have e3 := E3.one.1
    have e5 := E5.six.1
    go_wp2_with fail
    with_reducible refine CA.out.mono ?_
    rintro e w10 ⟨us', rfl, hul, hg10, hT10⟩
    have HUL := hide hul
    have HG10 := hide hg10
    have HT10 := hide (touch_trans HT9.out hT10)
    have E6' := E6.turned hT10 (touch_no E6 (by decide) (by decide))
    have e6 := E6'.one
    clear hul hg10 hT10 CA e3 e5 E3 E5
    go_wp2
    refine bodyPost_ret (v := .agg #[.slice (some ⟨G, 0, none⟩) us.length xc]) (by simp [results, Tryz.results90, go_sem, e6]) rfl ?_
    refine ⟨us', rfl, ?_, HG10.out.asideT (p := ⟨w.heap.size + 1, 0, none⟩) E6' _, HT10.out.far (by simp only; omega) _⟩
    rw [goN_at HK.out HW.out]
    have HLT : Nd.like ⟨n.sa, n.sc, n.ss, some ⟨g, 0, none⟩, cap, r⟩ (tailNd n) := ⟨rfl, like_refl _, by show r.length = n.ws.tail.length; rw [HW.out]; rfl, by show Like r n.ws.tail; rw [HW.out]; exact like_refl _⟩
    exact nl_trans HUL.out (addN_like (nl_set (nl_refl us) HLT) (vlike_refl v) (kn + 1))
  · skip
    go_simp
    refine hK.out _ _ (by exact hHeld) (fun hHeld => ?_)
    clear hK K
    refine take_run 10 (some 24) (v := ?_) rfl rfl (by kernel_rfl) (by kernel_rfl) (by kernel_rfl) (fun _ _ _ h => h) (by rfl) ?_ hHeld ?_
    rotate_left
    · ((intro w hSw); (try dsimp only at hSw); go_simp <;> with_reducible rfl)
    simp only [Act.put, List.setIfInBounds_toArray, List.set_cons_zero, List.set_cons_succ]
    refine take_one 3 (by kernel_rfl) rfl (fun K hK => ?_)
    go_simp
    refine hK.out _ _ (by exact ⟨(hHeld.2.1.more _).at 0, hHeld.2.1.more _, hHeld.2.2.1.more _, hHeld.2.2.2.more _⟩) (fun hHeld => ?_)
    clear hK K
    refine take_one 11 (by kernel_rfl) rfl (fun K hK => ?_)
    (refine step_append_more _ (by rfl) _ _ _ (by rfl) base 51 j0 _ 6 72 Tryz.underlying33 J0.out J1.out J2.out J3.out rfl (by omega) W1.heap.size 0 0 [] (by rfl) HOW.out (some adT) r.length (n.wc - 1) (flat6 r) (by rfl) (flat6_len r) (fun _ => ⟨adT, rfl, HNEWS.out _ HB2.out⟩) (flat6_one r) (by unfold maxLen; omega) (by omega) (by simp; omega) _ rfl ?_; intro g cap w8 hown2 hgrow hat; rw [Nat.zero_add] at hown2 ⊢; rw [List.nil_append] at hown2; have N8 := N2.drew.kept hgrow (by intro e; injection e with e; omega); have q5 := (N8.at (kn * 2 + 1)).trans HC3.out; have f5 := N8.loose (kn * 2 + 1); have OW := hide hown2; have GW := hide hgrow; have HAT := hide hat; clear hown2 hat)
    simp only [List.getElem_toArray, List.getElem_cons_zero, List.getElem_cons_succ, Act.put, List.setIfInBounds_toArray, List.set_cons_zero, List.set_cons_succ]
    refine hK.out _ _ (by exact ⟨(hHeld.2.1.kept hgrow (by intro e; injection e with e; omega)).at 0, hHeld.2.1.kept hgrow (by intro e; injection e with e; omega), hHeld.2.2.1.kept hgrow (by intro e; injection e with e; omega), hHeld.2.2.2.kept hgrow (by intro e; injection e with e; omega)⟩) (fun hHeld => ?_)
    clear hK K
    refine take_run 12 (some 26) (v := ?_) rfl rfl (by kernel_rfl) (by kernel_rfl) (by kernel_rfl) (fun _ _ _ h => h) (by rfl) ?_ hHeld ?_
    rotate_left
    · ((intro w hSw); (try dsimp only at hSw); go_simp <;> with_reducible rfl)
    simp only [Act.put, List.setIfInBounds_toArray, List.set_cons_zero, List.set_cons_succ]
    refine take_run 13 (some 27) (v := ?_) rfl rfl (by kernel_rfl) (by kernel_rfl) (by kernel_rfl) (fun _ _ _ h => h) (by rfl) ?_ hHeld ?_
    rotate_left
    · ((intro w hSw); (try dsimp only at hSw); go_simp <;> with_reducible rfl)
    simp only [Act.put, List.setIfInBounds_toArray, List.set_cons_zero, List.set_cons_succ]
    refine take_one 14 (by kernel_rfl) rfl (fun K hK => ?_)
    go_simp
    refine hK.out _ _ (by exact ⟨(hHeld.2.1.aside (by show w.heap.size ≠ G; omega) _).at 0, hHeld.2.1.aside (by show w.heap.size ≠ G; omega) _, hHeld.2.2.1.aside (by show w.heap.size + 1 ≠ G; omega) _, hHeld.2.2.2.aside (by show w.heap.size + 1 + 1 ≠ G; omega) _⟩) (fun hHeld => ?_)
    clear hK K
    refine wpAnyH_done (by kernel_rfl) ?_ _
    refine NoPanic.normal ?_
    obtain ⟨-, E3, E6, E5⟩ := hHeld
    have hg0 : w.heap.size ≤ g := by
      rcases HAT.out with q | q <;> (rw [q]; first | omega | (simp; omega))
    have BL8 := hide (below_rows HB2.out GW.out (by omega))
    have GG := HG.out.newWait (A := some ⟨g, 0, none⟩) (cap := cap) (ws := r) HK.out BL8.out (HCR.out.tail BL8.out OW.out) (HCRW.out.tailFoot HW.out hg0)
    have HGG := hide GG
    have HT9 := hide ((Turn.below (P := TouchC w base) BL8.out).set (p := ⟨G, kn * 2 + 1, none⟩) (by obtain ⟨cs, b1, b2, _⟩ := HG.out.typed G rfl; exact ⟨b2, cs, .inr b1⟩) (.slice (some ⟨g, 0, none⟩) r.length cap))
    have HV9 : Hid (Own1 (w8.setCell ⟨G, kn * 2 + 1, none⟩ (.slice (some ⟨g, 0, none⟩) r.length cap)) 0 (w8.setCell ⟨G, kn * 2 + 1, none⟩ (.slice (some ⟨g, 0, none⟩) r.length cap)).heap.size v) := ((HV.out.on BL8.out).turned ((Turn.refl (fun y => y = G) w8).set (p := ⟨G, kn * 2 + 1, none⟩) rfl (.slice (some ⟨g, 0, none⟩) r.length cap)) (fun g' h1 _ _ hn e => own_not_node HV.out BG.out h1 hn e)).wide (by have := BL8.out.size; simpa [World.setCell] using this)
    clear GG N1 N2 N8 q1 q2 q5 f5 B3 B5 B6
    generalize w8.setCell ⟨G, kn * 2 + 1, none⟩ (.slice (some ⟨g, 0, none⟩) r.length cap) = W9 at E3 E5 E6 HGG HT9 HV9 ⊢
    have CA := hide (passAdd base G xc kn us ⟨n.sa, n.sc, n.ss, some ⟨g, 0, none⟩, cap, r⟩ m v W9 HGG.out HMM.out hl (HB.out (kn + 1) m HMM.out) HVV.out HV9.out)
    have e3 := E3.one.1
    have e5 := E5.six.1
    go_wp2_with fail
    with_reducible refine CA.out.mono ?_
    rintro e w10 ⟨us', rfl, hul, hg10, hT10⟩
    have HUL := hide hul
    have HG10 := hide hg10
    have HT10 := hide (touch_trans HT9.out hT10)
    have E6' := E6.turned hT10 (touch_no E6 (by decide) (by decide))
    have e6 := E6'.one
    clear hul hg10 hT10 CA e3 e5 E3 E5
    go_wp2
    refine bodyPost_ret (v := .agg #[.slice (some ⟨G, 0, none⟩) us.length xc]) (by simp [results, Tryz.results90, go_sem, e6]) rfl ?_
    refine ⟨us', rfl, ?_, HG10.out.asideT (p := ⟨w.heap.size + 1, 0, none⟩) E6' _, HT10.out.far (by simp only; omega) _⟩
    rw [goN_at HK.out HW.out]
    have HLT : Nd.like ⟨n.sa, n.sc, n.ss, some ⟨g, 0, none⟩, cap, r⟩ (tailNd n) := ⟨rfl, like_refl _, by show r.length = n.ws.tail.length; rw [HW.out]; rfl, by show Like r n.ws.tail; rw [HW.out]; exact like_refl _⟩
    exact nl_trans HUL.out (addN_like (nl_set (nl_refl us) HLT) (vlike_refl v) (kn + 1))
theorem l3Pass_can_sh (base G xc kn : Nat) (us : List Nd) (w : World) (hG : GRow base w (.slice (some ⟨G, 0, none⟩) us.length xc) us) (hc : canB us kn = true) (hl : us.length ≤ 4) (hB : ∀ (i : Nat) m, us[i]? = some m → shN m) :
    Calls Tryz.prog 90 #[.agg #[.slice (some ⟨G, 0, none⟩) us.length xc], .int .i64 (kn : Int)] w (PassedC w base G xc us kn) := by
  have h1 : kn + 1 < us.length := by
    by_cases h : kn + 1 < us.length
    · exact h
    · rw [canB_end (by omega)] at hc
      cases hc
  obtain ⟨n, hn⟩ : ∃ n, us[kn]? = some n := ⟨_, List.getElem?_eq_getElem (by omega)⟩
  obtain ⟨m, hm⟩ : ∃ m, us[kn + 1]? = some m := ⟨_, List.getElem?_eq_getElem h1⟩
  rw [canB_at hn hm, Bool.and_eq_true, decide_eq_true_eq] at hc
  cases hw : n.ws with
  | nil => rw [hw] at hc; simp at hc
  | cons v r => exact l3Pass_sh base G xc kn us n m v r w hG hn hm hl hB hw
end Go.Proofs.YtjnloillcgeodaaGreat
