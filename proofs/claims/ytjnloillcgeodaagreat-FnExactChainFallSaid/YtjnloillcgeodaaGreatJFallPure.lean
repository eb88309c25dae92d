/- What ChainFall answers, said plainly; a row of some nodes of another. No condition. -/
import Derived.Test.YtjnloillcgeodaaGreatJLack
namespace Go.Proofs.YtjnloillcgeodaaGreat
open Go.RowKit Go.Joins

/-- A node to which waits what the next one has not. -/
def lackNd (n m : Nd) : Nd := ⟨n.sa, n.sc, n.ss, n.wa, n.wc, lackN n.ss m.ss 4⟩
/-- The node ahead of where one fell passes on what the next one has not. -/
def owedN (r : List Nd) (k : Nat) : List Nd := match r[k - 1]?, r[k]? with | some n, some m => if 0 < k then r.set (k - 1) (lackNd n m) else r | _, _ => r
/-- At the last nothing waits. -/
def lastN (r : List Nd) : List Nd := match r[r.length - 1]? with | some n => r.set (r.length - 1) (bare n) | none => r
/-- A chain without a node. -/
def fallG (ns : List Nd) (k : Nat) : List Nd := lastN (owedN (ns.eraseIdx k) k)
/-- What ChainFall answers. -/
def fallB (ns : List Nd) (k : Int) : Bool := decide (2 ≤ ns.length) && decide (0 ≤ k ∧ k < (ns.length : Int))
def fallN (ns : List Nd) (k : Int) : List Nd := if chainB ns = true then (if fallB ns k = true then fallG ns k.toNat else ns) else []
def fallK (ns : List Nd) (k : Int) : Bool := chainB ns && fallB ns k
theorem fallN_no {ns : List Nd} {k : Int} (h : chainB ns = false) : fallN ns k = [] ∧ fallK ns k = false := by unfold fallN fallK; rw [h]; exact ⟨rfl, rfl⟩
theorem fallN_not {ns : List Nd} {k : Int} (h : chainB ns = true) (hc : fallB ns k = false) : fallN ns k = ns ∧ fallK ns k = false := by unfold fallN fallK; rw [h, hc]; exact ⟨rfl, rfl⟩
theorem fallN_yes {ns : List Nd} {k : Int} (h : chainB ns = true) (hc : fallB ns k = true) : fallN ns k = fallG ns k.toNat ∧ fallK ns k = true := by unfold fallN fallK; rw [h, hc]; exact ⟨rfl, rfl⟩
theorem fallB_like {us ns : List Nd} (h : NL us ns) (k : Int) : fallB us k = fallB ns k := by unfold fallB; rw [h.1]
theorem owedN_len (r : List Nd) (k : Nat) : (owedN r k).length = r.length := by
  unfold owedN
  split
  · split
    · rw [List.length_set]
    · rfl
  · rfl
theorem lastN_len (r : List Nd) : (lastN r).length = r.length := by
  unfold lastN
  split
  · rw [List.length_set]
  · rfl
theorem erase_len {us : List Nd} {k : Nat} (h : k < us.length) : (us.eraseIdx k).length = us.length - 1 := List.length_eraseIdx_of_lt h
theorem fallG_len {us : List Nd} {k : Nat} (h : k < us.length) : (fallG us k).length = us.length - 1 := by unfold fallG; rw [lastN_len, owedN_len, erase_len h]
theorem owedN_at {r : List Nd} {k : Nat} {n m : Nd} (h0 : 0 < k) (hn : r[k - 1]? = some n) (hm : r[k]? = some m) : owedN r k = r.set (k - 1) (lackNd n m) := by unfold owedN; rw [hn, hm]; simp only [h0, if_true]
theorem owedN_head {r : List Nd} {k : Nat} (h0 : ¬ (0 < k ∧ k < r.length)) : owedN r k = r := by
  unfold owedN
  split
  · split
    · rename_i h1 h2 h3
      exact absurd ⟨h3, (List.getElem?_eq_some_iff.1 h2).1⟩ h0
    · rfl
  · rfl
theorem lastN_at {r : List Nd} {n : Nd} (hn : r[r.length - 1]? = some n) : lastN r = r.set (r.length - 1) (bare n) := by unfold lastN; rw [hn]
theorem nl_erase {us ns : List Nd} (h : NL us ns) (k : Nat) : NL (us.eraseIdx k) (ns.eraseIdx k) := by
  refine ⟨by rw [List.length_eraseIdx, List.length_eraseIdx, h.1], fun i x y hx hy => ?_⟩
  rw [List.getElem?_eraseIdx] at hx hy
  split at hx
  · rename_i hik
    rw [if_pos hik] at hy
    exact h.2 i x y hx hy
  · rename_i hik
    rw [if_neg hik] at hy
    exact h.2 (i + 1) x y hx hy
theorem lackNd_like {n m n' m' : Nd} (h : Nd.like n n') (hm : Nd.like m m') : Nd.like (lackNd n m) (lackNd n' m') := by
  have := lackN_like (xs := n.ss) (ys := m.ss) (xs' := n'.ss) (ys' := m'.ss) ⟨h.1, h.2.1⟩ ⟨hm.1, hm.2.1⟩ 4
  exact ⟨h.1, h.2.1, this.1, this.2⟩
theorem bare_like' {n m : Nd} (h : Nd.like n m) : Nd.like (bare n) (bare m) := ⟨h.1, h.2.1, rfl, like_refl _⟩
theorem owedN_like {us ns : List Nd} (h : NL us ns) (k : Nat) : NL (owedN us k) (owedN ns k) := by
  by_cases hc : 0 < k ∧ k < us.length
  · obtain ⟨n, hn⟩ : ∃ n, us[k - 1]? = some n := ⟨_, List.getElem?_eq_getElem (by omega)⟩
    obtain ⟨m, hm⟩ : ∃ m, us[k]? = some m := ⟨_, List.getElem?_eq_getElem hc.2⟩
    obtain ⟨n', hn', hl⟩ := nl_at h hn
    obtain ⟨m', hm', hl'⟩ := nl_at h hm
    rw [owedN_at hc.1 hn hm, owedN_at hc.1 hn' hm']
    exact nl_set h (lackNd_like hl hl')
  · rw [owedN_head hc, owedN_head (by rw [← h.1]; exact hc)]
    exact h
theorem lastN_like {us ns : List Nd} (h : NL us ns) : NL (lastN us) (lastN ns) := by
  cases hx : us[us.length - 1]? with
  | none =>
    have h1 : lastN us = us := by unfold lastN; rw [hx]
    have h2 : lastN ns = ns := by unfold lastN; rw [← h.1, nl_none h hx]
    rw [h1, h2]
    exact h
  | some n =>
    obtain ⟨m, hm, hl⟩ := nl_at h hx
    rw [lastN_at hx, lastN_at (by rw [← h.1]; exact hm), ← h.1]
    exact nl_set h (bare_like' hl)
theorem fallG_like {us ns : List Nd} (h : NL us ns) (k : Nat) : NL (fallG us k) (fallG ns k) := lastN_like (owedN_like (nl_erase h k) k)
theorem fallN_like {us ns : List Nd} (h : NL us ns) (k : Int) : NL (fallN us k) (fallN ns k) ∧ fallK us k = fallK ns k := by
  refine ⟨?_, by unfold fallK; rw [chainB_like h, fallB_like h]⟩
  unfold fallN
  rw [chainB_like h, fallB_like h]
  split
  · split
    · exact fallG_like h _
    · exact h
  · exact ⟨rfl, fun i x y hx => by simp at hx⟩
/-- A row of some of the nodes of another, in other memory; what these own stays where it is. -/
theorem GRow.pick {base : Nat} {wr w2 : World} {x x' : Value} {us us' : List Nd} {n : Nat} (h : GRow base wr x us) (hb : Below wr.heap.size wr w2) (f : Nat → Nat) (hf : ∀ (i : Nat) y, us'[i]? = some y → us[f i]? = some y) (hinj : ∀ i j, i ≠ j → f i ≠ f j) (hn : n = us'.length) (hrow : w2.ownsRow base 37 2 x' n (flatN us')) : GRow base w2 x' us' := by
  have h2 := h.on hb
  exact ⟨hn ▸ hrow, fun i y hi => h2.store _ y (hf i y hi), fun i y hi => h2.wait _ y (hf i y hi), fun i y hi => h2.two _ y (hf i y hi), fun i j y y' hne hi hj => h2.apart _ _ y y' (hinj i j hne) (hf i y hi) (hf j y' hj), h2.lo, fun i y hi => h2.own _ y (hf i y hi)⟩
theorem flatN_append (us vs : List Nd) : flatN (us ++ vs) = flatN us ++ flatN vs := by simp [flatN]
theorem flatN_len (us : List Nd) : (flatN us).length = us.length * 2 := by
  induction us with
  | nil => rfl
  | cons x r ih => simp [flatN, cellsN] at *; omega
theorem flatN_one (us : List Nd) : ∀ u ∈ flatN us, u.oneCell' = true := fun u hu => by
  simp only [flatN, List.mem_flatMap] at hu
  obtain ⟨x, _, hx⟩ := hu
  simp only [cellsN, List.mem_cons, List.not_mem_nil, or_false] at hx
  rcases hx with rfl | rfl <;> rfl
theorem GRow.erased {base : Nat} {wr w2 : World} {x x' : Value} {us : List Nd} {n k : Nat} (h : GRow base wr x us) (hb : Below wr.heap.size wr w2) (hk : k < us.length) (hn : n = us.length - 1) (hrow : w2.ownsRow base 37 2 x' n (flatN (us.take k) ++ flatN (us.drop (k + 1)))) : GRow base w2 x' (us.eraseIdx k) :=
  h.pick (n := n) hb (fun i => if i < k then i else i + 1) (fun i y hi => by
    rw [List.getElem?_eraseIdx] at hi
    by_cases e : i < k
    · rw [if_pos e] at hi ⊢
      exact hi
    · rw [if_neg e] at hi ⊢
      exact hi) (fun i j hne => by
    show (if i < k then i else i + 1) ≠ (if j < k then j else j + 1)
    split <;> split <;> omega) (by rw [erase_len hk]; exact hn) (by rw [List.eraseIdx_eq_take_drop_succ, flatN_append]; exact hrow)
theorem GRow.newsTake {base : Nat} {w : World} {g c p : Nat} {us : List Nd} (h : GRow base w (.slice (some ⟨g, 0, none⟩) us.length c) us) : ∀ (j : Nat) u, (flatN (us.take p))[j]? = some u → w.cell? ((⟨g, 0, none⟩ : Addr).add j) = some u := fun j u hu => by
  have hj := (List.getElem?_eq_some_iff.1 hu).1
  rw [flatN_len, List.length_take] at hj
  have hadd : (⟨g, 0, none⟩ : Addr).add j = ⟨g, j, none⟩ := by unfold Addr.add; split <;> simp_all
  rw [hadd, World.ownsRow.cellAt (n := us.length) h.row j (by omega)]
  have e : flatN us = flatN (us.take p) ++ flatN (us.drop p) := by rw [← flatN_append, List.take_append_drop]
  rw [e, List.getElem?_append_left (by rw [flatN_len, List.length_take]; exact hj)]
  exact hu
theorem GRow.newsDrop {base : Nat} {w : World} {g c p : Nat} {us : List Nd} (h : GRow base w (.slice (some ⟨g, 0, none⟩) us.length c) us) : ∀ (j : Nat) u, (flatN (us.drop p))[j]? = some u → w.cell? ((⟨g, p * 2, none⟩ : Addr).add j) = some u := fun j u hu => by
  have hj := (List.getElem?_eq_some_iff.1 hu).1
  rw [flatN_len, List.length_drop] at hj
  have hadd : (⟨g, p * 2, none⟩ : Addr).add j = ⟨g, p * 2 + j, none⟩ := by unfold Addr.add; split <;> simp_all
  rw [hadd, World.ownsRow.cellAt (n := us.length) h.row (p * 2 + j) (by omega)]
  have e : flatN us = flatN (us.take p) ++ flatN (us.drop p) := by rw [← flatN_append, List.take_append_drop]
  have hl : (flatN (us.take p)).length = p * 2 := by rw [flatN_len, List.length_take]; omega
  rw [e, List.getElem?_append_right (by omega), hl, show p * 2 + j - p * 2 = j by omega]
  exact hu
theorem GRow.caps {base : Nat} {w : World} {g n c : Nat} {us : List Nd} (h : GRow base w (.slice (some ⟨g, 0, none⟩) n c) us) : us.length ≤ c ∧ g < w.heap.size := by
  rcases h.row.2 with ⟨q, _⟩ | ⟨g', cap, cr, q, _, h2, h3, _⟩
  · cases q
  · injection q with q1 q2 q3
    injection q1 with q1
    injection q1 with q1
    subst q1 q3
    exact ⟨h3, Blk.inside (show Blk w g 37 cr from h2)⟩
end Go.Proofs.YtjnloillcgeodaaGreat
