/- A version that comes to a valid chain, or is passed on in one, leaves it valid; what all nodes have is no less. No condition. -/
import Derived.Test.YtjnloillcgeodaaJLackPure
import Derived.Test.YtjnloillcgeodaaJChainStable
import Derived.Test.YtjnloillcgeodaaJStorePure
import Derived.Test.YtjnloillcgeodaaJDrawChains2
namespace Go.Proofs.Ytjnloillcgeodaa
open Go.RowKit Go.Joins

theorem stepL_keep {us ss : List V} {v : V} (h : stepL us v = some ss) : keepL us v = ss := by
  unfold stepL at h
  unfold keepL
  split at h
  · rename_i x hx
    rw [hx]
    simp only
    split at h
    · rename_i hb
      injection h with h
      rw [if_pos hb, h]
    · cases h
  · cases h
theorem stepL_none_keep {us : List V} {v : V} (h : stepL us v = none) : keepL us v = us := by
  unfold stepL at h
  unfold keepL
  split at h
  · rename_i x hx
    rw [hx]
    simp only
    split at h
    · cases h
    · rename_i hb
      rw [if_neg hb]
  · rename_i hx
    rw [hx]
theorem walkL_snoc (us ws : List V) (v : V) : walkL us (ws ++ [v]) = (walkL us ws).bind fun us => stepL us v := by
  unfold walkL
  rw [List.foldl_append]
  rfl
theorem walkL_cons (us r : List V) (v : V) : walkL us (v :: r) = (stepL us v).bind fun us => walkL us r := by
  unfold walkL
  rw [List.foldl_cons]
  cases h : stepL us v with
  | none =>
    show r.foldl _ (stepL us v) = none
    rw [h]
    exact walk_none r
  | some x =>
    show r.foldl _ (stepL us v) = _
    rw [h]
    rfl
theorem linkB_parts {n m : Nd} (h : linkB n m = true) : ∃ us, walkL m.ss n.ws = some us ∧ LL us n.ss := by
  unfold linkB at h
  split at h
  · rename_i us hu
    exact ⟨us, hu, (likesB_ll _ _).1 h⟩
  · cases h
theorem linkB_mk {n m : Nd} {us : List V} (h : walkL m.ss n.ws = some us) (hl : LL us n.ss) : linkB n m = true := by
  rw [linkB_some h]
  exact (likesB_ll _ _).2 hl
/-- What comes to a node is what it lacks, seen from the next one. -/
theorem link_add {n m : Nd} {v : V} (h : linkB n m = true) : linkB (addNd n false v) m = true := by
  obtain ⟨us, hw, hl⟩ := linkB_parts h
  unfold addNd
  rcases stepL_like hl (vlike_refl v) with ⟨_, q2⟩ | ⟨x, x', q1, q2, q3⟩
  · rw [q2]
    exact h
  · rw [q2]
    refine linkB_mk (us := x) ?_ q3
    show walkL m.ss (n.ws ++ [v]) = some x
    rw [walkL_snoc, hw]
    exact q1
/-- What is passed on comes to the next one. -/
theorem link_pass {n m : Nd} {v : V} {r : List V} {b : Bool} (h : linkB n m = true) (hw : n.ws = v :: r) : ∃ ss, stepL m.ss v = some ss ∧ (addNd m b v).ss = ss ∧ linkB (tailNd n) (addNd m b v) = true := by
  obtain ⟨us, hu, hl⟩ := linkB_parts h
  rw [hw, walkL_cons] at hu
  cases hs : stepL m.ss v with
  | none => rw [hs] at hu; cases hu
  | some ss =>
    rw [hs] at hu
    have e : (addNd m b v).ss = ss := by unfold addNd; rw [hs]
    refine ⟨ss, rfl, e, linkB_mk (us := us) ?_ hl⟩
    rw [e]
    show walkL ss n.ws.tail = some us
    rw [hw]
    exact hu
theorem link_tail {n m : Nd} (h : linkB n m = true) : ∀ m', m'.ss = m.ss → linkB n m' = true := fun m' e => by
  obtain ⟨us, hu, hl⟩ := linkB_parts h
  exact linkB_mk (us := us) (by rw [e]; exact hu) hl
/-- The two halves of what a step asks. -/
theorem stepB_link {ns : List Nd} {k : Nat} {n m : Nd} (hn : ns[k]? = some n) (hm : ns[k + 1]? = some m) : stepB ns k = linkB n m := by unfold stepB; rw [hn, hm]
theorem stepB_end {ns : List Nd} {k : Nat} {n : Nd} (hn : ns[k]? = some n) (hm : ns[k + 1]? = none) : stepB ns k = decide (n.ws.length = 0) := by unfold stepB; rw [hn, hm]
/-- A chain, link by link. -/
theorem chain_link {ns : List Nd} {k : Nat} {n m : Nd} (h : chainB ns = true) (hn : ns[k]? = some n) (hm : ns[k + 1]? = some m) : linkB n m = true := by
  rw [← stepB_link hn hm]
  exact (chainB_parts h).2.2 k (List.getElem?_eq_some_iff.1 hn).1
theorem chain_end {ns : List Nd} {n : Nd} {k : Nat} (h : chainB ns = true) (hk : k + 1 = ns.length) (hn : ns[k]? = some n) : n.ws = [] := by
  have := (chainB_parts h).2.2 k (by omega)
  rw [stepB_end hn (List.getElem?_eq_none (by omega)), decide_eq_true_eq] at this
  exact List.length_eq_zero_iff.1 this
theorem chain_mk {ns : List Nd} (h0 : 1 ≤ ns.length ∧ ns.length ≤ 4) (h1 : ∀ (i : Nat) n, ns[i]? = some n → nodeB n = true) (h2 : ∀ (i : Nat) n m, ns[i]? = some n → ns[i + 1]? = some m → linkB n m = true) (h3 : ∀ (i : Nat) n, i + 1 = ns.length → ns[i]? = some n → n.ws = []) : chainB ns = true := by
  refine chainB_ok h0 h1 (fun i hi => ?_)
  obtain ⟨n, hn⟩ : ∃ n, ns[i]? = some n := ⟨_, List.getElem?_eq_getElem hi⟩
  by_cases e : i + 1 < ns.length
  · obtain ⟨m, hm⟩ : ∃ m, ns[i + 1]? = some m := ⟨_, List.getElem?_eq_getElem e⟩
    rw [stepB_link hn hm]
    exact h2 i n m hn hm
  · rw [stepB_end hn (List.getElem?_eq_none (by omega)), decide_eq_true_eq]
    rw [h3 i n (by omega) hn]
    rfl
theorem addN_is {ns : List Nd} {k : Nat} {v : V} {n : Nd} (hn : ns[k]? = some n) : addN ns k v = ns.set k (addNd n (decide (k + 1 = ns.length)) v) := by unfold addN; rw [hn]
theorem addN_size (ns : List Nd) (k : Nat) (v : V) : (addN ns k v).length = ns.length := by
  unfold addN
  split
  · rw [List.length_set]
  · rfl
theorem set_at {α : Type} {l : List α} {i j : Nat} {x y : α} (h : (l.set i x)[j]? = some y) : (j = i ∧ y = x ∧ i < l.length) ∨ (j ≠ i ∧ l[j]? = some y) := by
  by_cases e : j = i
  · subst e
    have hl : j < l.length := by have := (List.getElem?_eq_some_iff.1 h).1; rw [List.length_set] at this; exact this
    rw [List.getElem?_set_self hl] at h
    injection h with h
    exact .inl ⟨rfl, h.symm, hl⟩
  · rw [List.getElem?_set_ne (fun q => e q.symm)] at h
    exact .inr ⟨e, h⟩
theorem addNd_last {n : Nd} {v : V} : (addNd n true v).ws = n.ws := by
  unfold addNd
  split <;> rfl
theorem addNd_ss {n : Nd} {v : V} {b : Bool} : (addNd n b v).ss = keepL n.ss v := by
  unfold addNd
  cases h : stepL n.ss v with
  | none => rw [stepL_none_keep h]
  | some x => rw [stepL_keep h]
theorem chain_room {ns : List Nd} {n : Nd} (hn : ns[0]? = some n) : roomB ns = decide (n.ws.length < 6) := by unfold roomB; rw [hn]
/-- What came to the head leaves the chain valid. -/
theorem chain_add {ns : List Nd} {v : V} (h : chainB ns = true) (hv : verV v = true) (hr : roomB ns = true) : chainB (addN ns 0 v) = true := by
  obtain ⟨h0, h1, _⟩ := chainB_parts h
  obtain ⟨n, hn⟩ : ∃ n, ns[0]? = some n := ⟨_, List.getElem?_eq_getElem (by omega)⟩
  have hr' : n.ws.length < 6 := by rw [chain_room hn, decide_eq_true_eq] at hr; exact hr
  rw [addN_is hn]
  refine chain_mk (by rw [List.length_set]; exact h0) (fun i x hx => ?_) (fun i x y hx hy => ?_) (fun i x hi hx => ?_)
  · rcases set_at hx with ⟨_, rfl, _⟩ | ⟨_, q⟩
    · exact addNd_ok (h1 0 n hn) hv (.inr hr')
    · exact h1 i x q
  · rcases set_at hy with ⟨q, _, _⟩ | ⟨_, qy⟩
    · omega
    rcases set_at hx with ⟨rfl, rfl, _⟩ | ⟨_, qx⟩
    · have : ¬ 0 + 1 = ns.length := by have := (List.getElem?_eq_some_iff.1 qy).1; omega
      rw [decide_eq_false this]
      exact link_add (chain_link h hn qy)
    · exact chain_link h qx qy
  · rw [List.length_set] at hi
    rcases set_at hx with ⟨rfl, rfl, _⟩ | ⟨_, qx⟩
    · rw [decide_eq_true hi, addNd_last]
      exact chain_end h hi hn
    · exact chain_end h hi qx
/-- The two nodes between which something is passed on. -/
theorem can_parts {ns : List Nd} {k : Nat} (hc : canB ns k = true) : ∃ n m v r, ns[k]? = some n ∧ ns[k + 1]? = some m ∧ n.ws = v :: r ∧ m.ws.length < 6 := by
  unfold canB at hc
  split at hc
  · rename_i n m hn hm
    rw [Bool.and_eq_true, decide_eq_true_eq, decide_eq_true_eq] at hc
    cases hw : n.ws with
    | nil => rw [hw] at hc; exact absurd hc.1 (by decide)
    | cons v r => exact ⟨n, m, v, r, hn, hm, hw, hc.2⟩
  · cases hc
theorem goN_is {ns : List Nd} {k : Nat} {n m : Nd} {v : V} {r : List V} (hn : ns[k]? = some n) (hm : ns[k + 1]? = some m) (hw : n.ws = v :: r) : goN ns k = (ns.set k (tailNd n)).set (k + 1) (addNd m (decide (k + 1 + 1 = ns.length)) v) := by
  rw [goN_at hn hw, addN_is (n := m) (by rw [List.getElem?_set_ne (by omega)]; exact hm), List.length_set]
/-- What is passed on leaves the chain valid. -/
theorem chain_go {ns : List Nd} {k : Nat} (h : chainB ns = true) (hc : canB ns k = true) : chainB (goN ns k) = true := by
  obtain ⟨h0, h1, _⟩ := chainB_parts h
  obtain ⟨n, m, v, r, hn, hm, hw, hr⟩ := can_parts hc
  have hlm := (List.getElem?_eq_some_iff.1 hm).1
  have hvv : verV v = true := (nodeB_parts (h1 k n hn)).2.2 v (by rw [hw]; exact List.mem_cons_self ..)
  rw [goN_is hn hm hw]
  refine chain_mk (by rw [List.length_set, List.length_set]; exact h0) (fun i x hx => ?_) (fun i x y hx hy => ?_) (fun i x hi hx => ?_)
  · rcases set_at hx with ⟨_, rfl, _⟩ | ⟨_, q⟩
    · exact addNd_ok (h1 _ m hm) hvv (.inr hr)
    · rcases set_at q with ⟨_, rfl, _⟩ | ⟨_, q⟩
      · exact tailNd_ok (h1 k n hn)
      · exact h1 i x q
  · rcases set_at hy with ⟨e1, rfl, _⟩ | ⟨e1, qy⟩
    · -- the next one is that to which it came
      have ei : i = k := by omega
      subst ei
      rcases set_at hx with ⟨e2, _, _⟩ | ⟨_, qx⟩
      · omega
      rcases set_at qx with ⟨_, rfl, _⟩ | ⟨e2, _⟩
      · exact (link_pass (chain_link h hn hm) hw).choose_spec.2.2
      · exact absurd rfl e2
    rcases set_at qy with ⟨e2, rfl, _⟩ | ⟨e2, qy⟩
    · -- the next one is that from which it went
      rcases set_at hx with ⟨e3, _, _⟩ | ⟨_, qx⟩
      · omega
      rcases set_at qx with ⟨e3, _, _⟩ | ⟨_, qx⟩
      · omega
      have hkn : ns[i + 1]? = some n := by rw [e2]; exact hn
      exact link_tail (chain_link h qx hkn) _ rfl
    rcases set_at hx with ⟨e3, rfl, _⟩ | ⟨e3, qx⟩
    · subst e3
      have : ¬ k + 1 + 1 = ns.length := by have := (List.getElem?_eq_some_iff.1 qy).1; omega
      rw [decide_eq_false this]
      exact link_add (chain_link h hm qy)
    rcases set_at qx with ⟨e4, _, _⟩ | ⟨_, qx⟩
    · omega
    exact chain_link h qx qy
  · rw [List.length_set, List.length_set] at hi
    rcases set_at hx with ⟨rfl, rfl, _⟩ | ⟨_, qx⟩
    · rw [decide_eq_true hi, addNd_last]
      exact chain_end h hi hm
    rcases set_at qx with ⟨rfl, _, _⟩ | ⟨_, qx⟩
    · omega
    · exact chain_end h hi qx
theorem goN_size (ns : List Nd) (k : Nat) : (goN ns k).length = ns.length := by
  unfold goN
  split
  · split
    · rw [addN_size, List.length_set]
    · rfl
  · rfl
theorem passN_size {ns : List Nd} {k : Int} (h : chainB ns = true) : (passN ns k).length = ns.length := by
  by_cases hc : 0 ≤ k ∧ canB ns k.toNat = true
  · rw [(passN_yes h hc.1 hc.2).1, goN_size]
  · rw [(passN_not h hc).1]
/-- The stores of the head stay. -/
theorem goN_head {ns : List Nd} {k : Nat} {x : Nd} (hx : ns[0]? = some x) : ∃ y, (goN ns k)[0]? = some y ∧ y.ss = x.ss := by
  unfold goN
  split
  · rename_i n hn
    split
    · rename_i v r hw
      unfold addN
      have key : ∃ y, (ns.set k (tailNd n))[0]? = some y ∧ y.ss = x.ss := by
        by_cases e : k = 0
        · subst e
          rw [hx] at hn
          injection hn with hn
          subst hn
          exact ⟨_, List.getElem?_set_self (List.getElem?_eq_some_iff.1 hx).1, rfl⟩
        · exact ⟨x, by rw [List.getElem?_set_ne e]; exact hx, rfl⟩
      split
      · rw [List.getElem?_set_ne (by omega)]
        exact key
      · exact key
    · exact ⟨x, hx, rfl⟩
  · exact ⟨x, hx, rfl⟩
theorem keepL_late {vs : List V} {v x y : V} {i : Nat} (hx : vs[i]? = some x) (hy : (keepL vs v)[i]? = some y) : lessB y.t y.u x.t x.u = false := by
  rw [keepL_at hx] at hy
  injection hy with hy
  subst hy
  split
  · unfold later
    split
    · rename_i hb
      unfold lessB at hb ⊢
      simp only [decide_eq_true_eq, decide_eq_false_iff_not] at hb ⊢
      omega
    · unfold lessB
      simp only [decide_eq_false_iff_not]
      omega
  · unfold lessB
    simp only [decide_eq_false_iff_not]
    omega
/-- A store that is nowhere earlier has no less tags. -/
theorem tags_within {us vs : List V} (hu : storeB us = true) (hv : storeB vs = true) (h : ∀ (i : Nat) x y, us[i]? = some x → vs[i]? = some y → lessB y.t y.u x.t x.u = false) : pwB (tagsR us) (tagsR vs) = true := by
  unfold tagsR
  rw [if_pos hu, if_pos hv, pw_iff (past_tags hu) (past_tags hv)]
  intro i x y hx hy
  unfold tagsL at hx hy
  rw [List.getElem?_map] at hx hy
  cases h1 : us[i]? with
  | none => rw [h1] at hx; cases hx
  | some a =>
    cases h2 : vs[i]? with
    | none => rw [h2] at hy; cases hy
    | some b =>
      rw [h1] at hx
      rw [h2] at hy
      injection hx with hx
      injection hy with hy
      subst hx hy
      exact h i a b h1 h2
theorem chain_last {ns : List Nd} (h : chainB ns = true) : ∃ p n, ns.length = p + 1 ∧ ns[p]? = some n ∧ storeB n.ss = true ∧ stableR ns = tagsR n.ss := by
  obtain ⟨h0, h1, _⟩ := chainB_parts h
  obtain ⟨p, hp⟩ : ∃ p, ns.length = p + 1 := ⟨ns.length - 1, by omega⟩
  obtain ⟨n, hn⟩ : ∃ n, ns[p]? = some n := ⟨_, List.getElem?_eq_getElem (by omega)⟩
  exact ⟨p, n, hp, hn, (nodeB_parts (h1 p n hn)).1, stableR_yes h hp hn⟩
/-- What all nodes have is no less when something is passed on. -/
theorem stable_go {ns : List Nd} {k : Nat} (h : chainB ns = true) (hc : canB ns k = true) : pwB (stableR ns) (stableR (goN ns k)) = true := by
  obtain ⟨p, x, hp, hx, hs, e⟩ := chain_last h
  obtain ⟨p', x', hp', hx', hs', e'⟩ := chain_last (chain_go h hc)
  rw [goN_size] at hp'
  have : p' = p := by omega
  subst this
  rw [e, e']
  obtain ⟨n, m, v, r, hn, hm, hw, hr⟩ := can_parts hc
  rw [goN_is hn hm hw] at hx'
  refine tags_within hs hs' (fun i a b ha hb => ?_)
  have same : ∀ {a b : V}, a = b → lessB b.t b.u a.t a.u = false := fun q => by
    subst q
    unfold lessB
    simp only [decide_eq_false_iff_not]
    omega
  rcases set_at hx' with ⟨e1, rfl, _⟩ | ⟨_, q⟩
  · subst e1
    rw [hm] at hx
    injection hx with hx
    subst hx
    rw [addNd_ss] at hb
    exact keepL_late ha hb
  · rcases set_at q with ⟨e1, rfl, _⟩ | ⟨_, q⟩
    · have := (List.getElem?_eq_some_iff.1 hm).1
      omega
    · rw [hx] at q
      injection q with q
      subst q
      rw [ha] at hb
      injection hb with hb
      exact same hb
end Go.Proofs.Ytjnloillcgeodaa
/- What the promises on chains share: drawn chains are small; the answers of the program and of the model are the same; cells of a chain's nodes. No condition. -/
namespace Go.Proofs.Ytjnloillcgeodaa
open Go.RowKit Go.Joins

theorem fewN_small {ns : List Nd} (h : FewN ns) : SmallN ns := fun n hn => by
  obtain ⟨⟨h1, h2⟩, h3, h4⟩ := h.2 n hn
  exact ⟨by omega, by omega, fun v hv => by have := (h2 v hv).1; omega, fun v hv => by have := (h4 v hv).1; omega⟩
theorem cgA_at {w : World} {A : Option Addr} {ns : List Nd} (h : CgA w A ns) (h0 : 1 ≤ ns.length) : ∃ G cur, A = some ⟨G, 0, none⟩ ∧ Cg w G ns cur := by
  rcases h with h | h
  · rw [h] at h0
    simp at h0
  · exact h
theorem verV_four {v : V} (h : verV v = true) : v.ts.length = 4 := pastB_len4 (verB_parts h).2.2.2
theorem small_ss {ns : List Nd} {i : Nat} {n : Nd} (h : SmN ns) (hi : ns[i]? = some n) : Small n.ss := (h i n hi).2.1
theorem len_ss {ns : List Nd} {i : Nat} {n : Nd} (h : SmN ns) (hi : ns[i]? = some n) : n.ss.length ≤ 1048576 := (h i n hi).1.1
theorem ts_ss {ns : List Nd} {i : Nat} {n : Nd} (h : SmN ns) (hi : ns[i]? = some n) : ∀ v ∈ n.ss, v.ts.length ≤ 1048576 := fun v hv => ((h i n hi).2.1 v hv).1
theorem addR_is {vs : List V} {v : V} (h : storeB vs = true) (hv : verV v = true) : addR vs v = keepL vs v := by
  unfold addR
  rw [h, hv]
  rfl
theorem nl_same (ns : List Nd) : NL ns ns := ⟨rfl, fun i x y hx hy => by rw [hx] at hy; injection hy with hy; rw [hy]; exact ⟨rfl, like_refl _, rfl, like_refl _⟩⟩
theorem none_v0 : noneC v0.k v0.t v0.u v0.ts.length v0.s v0.g = true := noneC_t (by show (ByteArray.mk #[]).toList.isEmpty = true; rw [no_bytes]; rfl)
theorem ver_size {v : V} (h : verV v = true) : v.s.size ≤ 9223372036854775807 := by
  have := textB_size (verB_parts h).2.1
  omega
theorem slot_size {i : Nat} {v : V} (h : slotB i v = true) : v.s.size ≤ 9223372036854775807 := by
  by_cases ht : v.t = 0
  · have e := (none_like (slot_none h ht) none_v0).2.2.2.2.1
    rw [e]
    exact (by decide : (ByteArray.mk #[]).size ≤ 9223372036854775807)
  · exact ver_size (slot_ver h ht)
theorem fine_sm {us : List Nd} (h : FineN us) : SmN us := fun i n hi => by
  obtain ⟨⟨q1, q2⟩, q3, q4⟩ := node_ts (h.2 i n hi)
  obtain ⟨r1, _, r3⟩ := nodeB_parts (h.2 i n hi)
  refine ⟨⟨by omega, by omega⟩, fun v hv => ⟨by have := q2 v hv; omega, ?_⟩, fun v hv => ⟨by have := q4 v hv; omega, ver_size (r3 v hv)⟩⟩
  obtain ⟨j, hj⟩ := List.getElem?_of_mem hv
  exact slot_size (store_slot r1 hj)
theorem fine_chain {ns : List Nd} (h : chainB ns = true) : FineN ns := ⟨(chainB_parts h).1.2, (chainB_parts h).2.1⟩
theorem answerCB_to {w w' : World} {rs rs' : List Nd} {b b' : Bool} {e : Ending} (h : AnswerCB w rs b e w') (hl : NL rs rs' ∧ b = b') : AnswerCB w rs' b' e w' := by
  obtain ⟨A, cap, us, he, h1, h2, h3⟩ := h
  exact ⟨A, cap, us, by rw [he, hl.1.1, hl.2], nl_trans h1 hl.1, h2, h3⟩
end Go.Proofs.Ytjnloillcgeodaa
