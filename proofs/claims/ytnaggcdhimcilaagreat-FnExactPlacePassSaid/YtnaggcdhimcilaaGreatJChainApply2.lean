/- Contracts of ChainStable, of program and model. Condition: sizes that memory holds. -/
import Derived.Test.YtnaggcdhimcilaaGreatJChainSpec3
import Derived.Test.YtnaggcdhimcilaaGreatJLogMark
import Derived.Test.YtnaggcdhimcilaaGreatJNodes
import Derived.Test.YtnaggcdhimcilaaGreatJChainClone2
namespace Go.Proofs.YtnaggcdhimcilaaGreat
open Go.RowKit Go.Joins
attribute [local go_sem ↓] Go.wp_at_zero Go.wp_at_succ

theorem tot_ll {us vs : List V} (h : LL us vs) : tot us = tot vs := by
  unfold tot
  congr 1
  apply List.ext_getElem?
  intro i
  rw [List.getElem?_map, List.getElem?_map]
  cases hx : us[i]? with
  | none => rw [ll_none h hx]
  | some v =>
    obtain ⟨v', hv', hl⟩ := ll_at h hx
    rw [hv']
    simp [hl.2.2.2.1, hl.2.2.2.2.1]
theorem totN_like {n m : Nd} (h : Nd.like n m) : totN n = totN m := by
  unfold totN
  rw [tot_ll (us := n.ss) (vs := m.ss) ⟨h.1, h.2.1⟩, tot_ll (us := n.ws) (vs := m.ws) ⟨h.2.2.1, h.2.2.2⟩, h.1, h.2.2.1]
theorem totNs_nl {us ns : List Nd} (h : NL us ns) : totNs us = totNs ns := by
  unfold totNs
  congr 1
  apply List.ext_getElem?
  intro i
  rw [List.getElem?_map, List.getElem?_map]
  cases hx : us[i]? with
  | none => rw [nl_none h hx]
  | some v =>
    obtain ⟨v', hv', hl⟩ := nl_at h hx
    rw [hv']
    simp [totN_like hl]
theorem wtNs_tot (ns : List Nd) : wtNs ns ≤ 5 * (totNs ns : Int) := by
  induction ns with
  | nil => simp [wtNs, totNs]
  | cons n r ih =>
    have h1 := wts_tot n.ss
    have h2 := wts_tot n.ws
    unfold wtNs totNs at *
    simp only [List.map_cons, List.sum_cons, wtN, totN] at *
    omega
/-- What ChainStable answers. -/
def stableR (ns : List Nd) : List (Int × Int) := if chainB ns = true then (match ns[ns.length - 1]? with | some n => tagsR n.ss | none => []) else []
theorem stableR_yes {ns : List Nd} {p : Nat} {n : Nd} (h : chainB ns = true) (hp : ns.length = p + 1) (hn : ns[p]? = some n) : stableR ns = tagsR n.ss := by
  unfold stableR
  rw [h, if_pos rfl, hp, Nat.add_sub_cancel, hn]
theorem stableR_len (ns : List Nd) : (stableR ns).length ≤ 4 := by
  unfold stableR
  split
  · split
    · exact tagsR_len _
    · simp
  · simp
theorem stableR_like {ns us : List Nd} (h : NL ns us) : stableR ns = stableR us := by
  unfold stableR
  rw [chainB_like h, h.1]
  split
  · cases hx : ns[us.length - 1]? with
    | none => rw [nl_none h hx]
    | some n =>
      obtain ⟨n', hx', hl⟩ := nl_at h hx
      rw [hx']
      exact tagsR_like hl.1 hl.2.1
  · rfl
set_option maxHeartbeats 1000000 in
theorem tail_any (G c p : Nat) (ns : List Nd) (cur : Array Value) (nd : Nd) (w : World) (hp : p + 1 ≤ 1048576) (hC : Cg w G ns cur) (hx : ns[p]? = some nd) :
    Calls Tryz.prog 72 #[.agg #[.slice (some ⟨G, 0, none⟩) (p + 1) c]] w fun e w' => e = .returned (.agg #[.slice nd.sa nd.ss.length nd.sc, .slice nd.wa nd.ws.length nd.wc]) ∧ Below w.heap.size w w' := by
  have S0 := ((Inv.start w).box 32 #[.slice (some ⟨G, 0, none⟩) (p + 1) c]).box 90 #[.slice none 0 0, .slice none 0 0]
  simp only [World.size_alloc] at S0
  have HC := hC.on S0.below
  have n0 := (HC.blk.at (p * 2)).trans (HC.at' p nd hx).1
  have n1 := (HC.blk.at (p * 2 + 1)).trans (HC.at' p nd hx).2
  have e1 : ((p + 1 : Nat) : Int) - 1 = (p : Int) := by omega
  have i1 : (0 : Int) ≤ (p : Int) := by omega
  have i2 : (p : Int) < ((p + 1 : Nat) : Int) := by omega
  obtain ⟨sa, sc, ss, wa, wc, ws⟩ := nd
  simp only at n0 n1 ⊢
  have c0 := (S0.nth 1 rfl).one.1
  have HS := hide (((Inv.start w).box 32 #[.slice (some ⟨G, 0, none⟩) (p + 1) c]).box 90 #[.slice sa ss.length sc, .slice wa ws.length wc]).below
  clear hC HC hx S0
  go_enter Tryz.func72, Tryz.ntmps72
  go_wp2
  refine bodyPost_ret (v := .agg #[.slice sa ss.length sc, .slice wa ws.length wc]) (by simp [results, Tryz.results72, go_sem]) rfl ?_
  exact ⟨rfl, HS.out⟩
theorem field_store (a b : Value) (W : World) : (Instr.field 90 (.agg #[a, b]) 0).run Tryz.prog W = .ok (.agg #[a]) W := by kernel_rfl
set_option maxRecDepth 100000 in
set_option maxHeartbeats 2000000 in
theorem l3Stable_any (G c p : Nat) (ns : List Nd) (cur : Array Value) (nd : Nd) (w : World) (hp : p + 1 ≤ 1048576) (hC : Cg w G ns cur) (hx : ns[p]? = some nd) (hs : storeB nd.ss = true) :
    Calls Tryz.prog 95 #[.agg #[.slice (some ⟨G, 0, none⟩) (p + 1) c]] w (Answer w (tagsR nd.ss)) := by
  have S0 := ((Inv.start w).box 32 #[.slice (some ⟨G, 0, none⟩) (p + 1) c]).box 94 #[.slice none 0 0]
  simp only [World.size_alloc] at S0
  have HC := hC.on S0.below
  have n0 := (HC.blk.at (p * 2)).trans (HC.at' p nd hx).1
  have e1 : ((p + 1 : Nat) : Int) - 1 = (p : Int) := by omega
  have i1 : (0 : Int) ≤ (p : Int) := by omega
  have i2 : (p : Int) < ((p + 1 : Nat) : Int) := by omega
  have HE : Hid (tagsR nd.ss = tagsL nd.ss) := by unfold Hid tagsR; rw [hs]; rfl
  have H4 := hide (storeB_four hs)
  have CT := hide (l2Tags_any nd.sa nd.sc nd.ss _ H4.out (HC.store p nd hx))
  obtain ⟨sa, sc, ss, wa, wc, ws⟩ := nd
  simp only at n0 HE H4 CT ⊢
  rw [H4.out] at n0
  have c0 := (S0.nth 1 rfl).one.1
  clear hC HC hx hs
  go_enter Tryz.func95, Tryz.ntmps95
  go_wp2_with fail
  with_reducible refine CT.out.mono ?_
  rintro e w2 ⟨g, cap, T, cu, rfl, hg, hB, hsz, hcur, hb2⟩
  have S2 := S0.on hb2
  have q2 := (S2.nth 0 rfl).one
  have hr := S0.room
  have HCU := hide hcur
  clear S0 c0 n0 CT hcur
  go_wp2
  refine bodyPost_ret (v := .agg #[.slice (some ⟨g, 0, none⟩) 4 cap]) (by simp [results, Tryz.results95, go_sem, q2]) rfl ?_
  rw [HE.out]
  have hg' : w.heap.size + 1 + 1 ≤ g := by have h := hg; simp at h; omega
  exact answer_joined (by rw [tagsL_len]; exact H4.out) ⟨g, cap, T, cu, rfl, by omega, hB.aside (by simp; omega) _, hsz, HCU.out, S2.below.setCell (by simp) _⟩
end Go.Proofs.YtnaggcdhimcilaaGreat
/- Contracts of ChainJoin, of program and model. Condition: sizes that memory holds. -/
namespace Go.Proofs.YtnaggcdhimcilaaGreat
open Go.RowKit Go.Joins
attribute [local go_sem ↓] Go.wp_at_zero Go.wp_at_succ

theorem ResS.typed2 {w : World} {B U : Nat} {A : Option Addr} {us : List V} (h : ResS w B U A us) {g : Nat} (hg : FootS A us g) : ∃ T cs, Blk w g T cs ∧ T ≠ 32 := by
  obtain ⟨h0, G, rfl, hf⟩ := hg
  rcases h with h | ⟨G', cur, e, hO⟩
  · exact absurd h h0
  · injection e with e
    injection e with e
    subst e
    rcases hf with rfl | ⟨i, v, hi, hn, ha⟩
    · exact ⟨_, _, hO.blk, by decide⟩
    · rcases hO.own i v hi with q | ⟨g', c', e1, q1, q2, q3, _⟩
      · exact absurd q hn
      · rw [e1] at ha
        injection ha with ha
        injection ha with ha
        subst ha
        exact ⟨_, _, q3, by decide⟩
/-- A store into a variable that is a chain. -/
theorem GRow.asideT {base : Nat} {wr : World} {x : Value} {us : List Nd} (h : GRow base wr x us) {p : Addr} {cs : Array Value} (hb : Blk wr p.block 32 cs) (u : Value) : GRow base (wr.setCell p u) x us := by
  have hz : (wr.setCell p u).heap.size = wr.heap.size := by simp [World.setCell]
  have ht : Turn (fun g => g = p.block) wr (wr.setCell p u) := (Turn.refl (fun g => g = p.block) wr).set (p := p) rfl u
  have hk : ∀ {B U : Nat} {A : Option Addr} {l : List V}, ResS wr B U A l → ResS (wr.setCell p u) B U A l := fun hr => hr.turnF ht (fun y hf e => by
    obtain ⟨T, cs', h3, h4⟩ := hr.typed2 hf
    subst e
    exact h4 (blk_one h3 hb))
  refine ⟨⟨h.row.1, ?_⟩, fun i v hi => ?_, fun i v hi => ?_, h.two, h.apart, by rw [hz]; exact h.lo, fun i v hi => (h.own i v hi).turnedT ht (fun g e => by subst e; exact ⟨_, cs, hb, by decide, by decide⟩)⟩
  · rcases h.row.2 with h' | ⟨g, cap, cr, h1, h2, h3, h4⟩
    · exact .inl h'
    · refine .inr ⟨g, cap, cr, h1, h2, ?_, h4⟩
      exact Blk.aside (show Blk wr g 90 cr from h3) (fun e => by subst e; exact absurd (blk_one (show Blk wr p.block 90 cr from h3) hb) (by decide)) u
  · rw [hz]
    exact hk (h.store i v hi)
  · rw [hz]
    exact hk (h.wait i v hi)
/-- A node that comes: what the last one has, and nothing waits. -/
def bare (n : Nd) : Nd := ⟨n.sa, n.sc, n.ss, none, 0, []⟩
/-- What ChainJoin answers. -/
def joinN (ns : List Nd) : List Nd := if chainB ns = true then (if ns.length = 4 then ns else ns ++ (match ns[ns.length - 1]? with | some n => [bare n] | none => [])) else []
def joinK (ns : List Nd) : Bool := chainB ns && decide (ns.length < 4)
/-- An answer that is a chain, and whether it was done. -/
def AnswerCB (w : World) (rs : List Nd) (b : Bool) (e : Ending) (w' : World) : Prop :=
  ∃ (A : Option Addr) (cap : Nat) (us : List Nd), e = .returned (.tuple #[.agg #[.slice A rs.length cap], .bool b]) ∧ NL us rs ∧ ResN w' w.heap.size w'.heap.size A us ∧ Below w.heap.size w w'
theorem answerCB_none {w w' : World} {rs : List Nd} {b : Bool} (hr : rs = [] ∧ b = false) (hb : Below w.heap.size w w') : AnswerCB w rs b (.returned (.tuple #[.agg #[.slice none 0 0], .bool false])) w' := by
  obtain ⟨rfl, rfl⟩ := hr
  exact ⟨none, 0, [], rfl, ⟨rfl, fun i x y hx => by simp at hx⟩, .inl rfl, hb⟩
theorem answerCB_row {w w' : World} {rs us : List Nd} {b : Bool} {A : Option Addr} {m cap : Nat} (h : GRow w.heap.size w' (.slice A m cap) us) (hl : NL us rs) (hb : Below w.heap.size w w') : AnswerCB w rs b (.returned (.tuple #[.agg #[.slice A m cap], .bool b])) w' := by
  obtain ⟨e, hR⟩ := h.res
  exact ⟨A, cap, us, by rw [e, hl.1], hl, hR, hb⟩
end Go.Proofs.YtnaggcdhimcilaaGreat
/- Contract of the program's ChainJoin. Condition: sizes that memory holds. -/
namespace Go.Proofs.YtnaggcdhimcilaaGreat
open Go.RowKit Go.Joins
attribute [local go_sem ↓] Go.wp_at_zero Go.wp_at_succ

end Go.Proofs.YtnaggcdhimcilaaGreat
/- Contract of the model's ChainJoin. Condition: sizes that memory holds. -/
namespace Go.Proofs.YtnaggcdhimcilaaGreat
open Go.RowKit Go.Joins
attribute [local go_sem ↓] Go.wp_at_zero Go.wp_at_succ

end Go.Proofs.YtnaggcdhimcilaaGreat
/- Chains of valid nodes that a call answers: few marks; compared, marked, and the marks found again. -/
namespace Go.Proofs.YtnaggcdhimcilaaGreat
open Go.RowKit Go.Joins

/-- At most four nodes, each valid by itself. -/
def FineN (rs : List Nd) : Prop := rs.length ≤ 4 ∧ ∀ (i : Nat) n, rs[i]? = some n → nodeB n = true
theorem FineN.like {us rs : List Nd} (h : NL us rs) (hr : FineN rs) : FineN us := ⟨by rw [h.1]; exact hr.1, fun i n hi => by
  obtain ⟨m, hm, hl⟩ := nl_at h hi
  rw [nodeB_like hl]
  exact hr.2 i m hm⟩
theorem node_ts {n : Nd} (h : nodeB n = true) : (n.ss.length = 4 ∧ ∀ v ∈ n.ss, v.ts.length ≤ 4) ∧ n.ws.length ≤ 6 ∧ ∀ v ∈ n.ws, v.ts.length ≤ 4 := by
  obtain ⟨h1, h2, h3⟩ := nodeB_parts h
  exact ⟨⟨storeB_four h1, (few_store h1).2⟩, h2, fun v hv => Nat.le_of_eq (pastB_len4 (verB_parts (h3 v hv)).2.2.2)⟩
theorem FineN.small {rs : List Nd} (h : FineN rs) : SmallN rs := fun n hn => by
  obtain ⟨i, hi⟩ := List.getElem?_of_mem hn
  obtain ⟨⟨h1, h2⟩, h3, h4⟩ := node_ts (h.2 i n hi)
  exact ⟨by omega, by omega, fun v hv => by have := h2 v hv; omega, fun v hv => by have := h4 v hv; omega⟩
theorem wtN_fine {n : Nd} (h : nodeB n = true) : wtN n ≤ 130 := by
  obtain ⟨⟨h1, h2⟩, h3, h4⟩ := node_ts h
  have := few_wts n.ss h2
  have := few_wts n.ws h4
  unfold wtN
  omega
theorem wtNs_fine : ∀ (rs : List Nd), (∀ n ∈ rs, nodeB n = true) → wtNs rs ≤ 130 * (rs.length : Int)
  | [], _ => by simp [wtNs]
  | n :: r, h => by
    have h1 := wtNs_fine r (fun x hx => h x (List.mem_cons_of_mem _ hx))
    have h2 := wtN_fine (h n (List.mem_cons_self ..))
    unfold wtNs at *
    simp at *
    omega
theorem FineN.wt {rs : List Nd} (h : FineN rs) : wtNs rs ≤ 520 := by
  have := wtNs_fine rs (fun n hn => by obtain ⟨i, hi⟩ := List.getElem?_of_mem hn; exact h.2 i n hi)
  have := h.1
  omega
end Go.Proofs.YtnaggcdhimcilaaGreat
/- A version comes to a node: said plainly; and one node of a row of nodes changed in memory. No condition. -/
namespace Go.Proofs.YtnaggcdhimcilaaGreat
open Go.RowKit Go.Joins

/-- A node to which a version comes, if that is later: it waits to be passed on, unless the node is the last one. -/
def addNd (n : Nd) (last : Bool) (v : V) : Nd := match stepL n.ss v with | some ss' => ⟨n.sa, n.sc, ss', n.wa, n.wc, if last = true then n.ws else n.ws ++ [v]⟩ | none => n
def addN (ns : List Nd) (k : Nat) (v : V) : List Nd := match ns[k]? with | some n => ns.set k (addNd n (decide (k + 1 = ns.length)) v) | none => ns
theorem ll_snoc {us vs : List V} {v u : V} (h : LL us vs) (hl : V.like v u) : LL (us ++ [v]) (vs ++ [u]) := by
  refine ⟨by simp [h.1], fun i x y hx hy => ?_⟩
  rcases snoc_get rfl i x hx with ⟨e1, rfl⟩ | ⟨e1, hq⟩ <;> rcases snoc_get rfl i y hy with ⟨e2, rfl⟩ | ⟨e2, hq'⟩
  · exact hl
  · have := h.1; omega
  · have := h.1; omega
  · exact h.2 i x y hq hq'
theorem addNd_like {n m : Nd} {v u : V} (h : Nd.like n m) (hv : V.like v u) (b : Bool) : Nd.like (addNd n b v) (addNd m b u) := by
  unfold addNd
  rcases stepL_like (us := n.ss) (us' := m.ss) ⟨h.1, h.2.1⟩ hv with ⟨q1, q2⟩ | ⟨x, x', q1, q2, q3⟩
  · rw [q1, q2]
    exact h
  · rw [q1, q2]
    cases b
    · exact ⟨q3.1, q3.2, (ll_snoc (us := n.ws) (vs := m.ws) ⟨h.2.2.1, h.2.2.2⟩ hv).1, (ll_snoc (us := n.ws) (vs := m.ws) ⟨h.2.2.1, h.2.2.2⟩ hv).2⟩
    · exact ⟨q3.1, q3.2, h.2.2.1, h.2.2.2⟩
theorem nl_set {us ns : List Nd} {k : Nat} {n m : Nd} (h : NL us ns) (hl : Nd.like n m) : NL (us.set k n) (ns.set k m) := by
  refine ⟨by rw [List.length_set, List.length_set]; exact h.1, fun i x y hx hy => ?_⟩
  by_cases e : i = k
  · subst e
    have h1 : i < us.length := by have := (List.getElem?_eq_some_iff.1 hx).1; rw [List.length_set] at this; exact this
    have h2 : i < ns.length := by have := h.1; omega
    rw [List.getElem?_set_self h1] at hx
    rw [List.getElem?_set_self h2] at hy
    injection hx with hx
    injection hy with hy
    rw [← hx, ← hy]
    exact hl
  · rw [List.getElem?_set_ne (Ne.symm e)] at hx hy
    exact h.2 i x y hx hy
theorem addN_like {us ns : List Nd} {v u : V} (h : NL us ns) (hv : V.like v u) (k : Nat) : NL (addN us k v) (addN ns k u) := by
  unfold addN
  cases hx : us[k]? with
  | none => rw [nl_none h hx]; exact h
  | some n =>
    obtain ⟨m, hm, hl⟩ := nl_at h hx
    rw [hm, h.1]
    exact nl_set h (addNd_like hl hv _)
theorem addNd_ok {n : Nd} {v : V} {b : Bool} (hn : nodeB n = true) (hv : verV v = true) (hr : b = true ∨ n.ws.length < 6) : nodeB (addNd n b v) = true := by
  unfold addNd
  cases hs : stepL n.ss v with
  | none => exact hn
  | some ss' =>
    obtain ⟨h1, h2, h3⟩ := nodeB_parts hn
    have hk := verV_key hv
    have hss : storeB ss' = true := by
      unfold stepL at hs
      split at hs
      · split at hs
        · injection hs with hs
          subst hs
          exact store_put h1 hv (by omega)
        · cases hs
      · cases hs
    refine nodeB_mk hss ?_ (fun i x hi => ?_)
    · cases b
      · simp only [Bool.false_eq_true, if_false, List.length_append, List.length_singleton]
        rcases hr with hr | hr
        · cases hr
        · omega
      · exact h2
    · have hx := List.mem_of_getElem? hi
      cases b
      · simp only [Bool.false_eq_true, if_false, List.mem_append, List.mem_singleton] at hx
        rcases hx with hx | rfl
        · exact h3 x hx
        · exact hv
      · exact h3 x hx
theorem CRow.tagFoot {base : Nat} {w : World} {A : Option Addr} {m c : Nat} {us : List V} (h : CRow base w (.slice A m c) us) {i : Nat} {v : V} (hi : us[i]? = some v) (hne : v.ts ≠ []) {g : Nat} (hg : v.a = some ⟨g, 0, none⟩) : FootS A us g := by
  have h0 : us ≠ [] := fun e => by rw [e] at hi; simp at hi
  rcases h.row.2 with ⟨_, e⟩ | ⟨G, cap, cr, e, _⟩
  · exact absurd (List.length_eq_zero_iff.1 e) h0
  · injection e with e _ _
    exact ⟨h0, G, e, .inr ⟨i, v, hi, hne, hg⟩⟩
/-- One node of a row of nodes is changed; what turns is its own, or the row's. -/
theorem GRow.set {P : Nat → Prop} {base : Nat} {wr w' : World} {x : Value} {us : List Nd} {k : Nat} {n n' : Nd} (h : GRow base wr x us) (hk : us[k]? = some n) (ht : Turn P wr w') (hrow : w'.ownsRow base 90 2 x us.length (flatN (us.set k n')))
    (hs : ResS w' base w'.heap.size n'.sa n'.ss) (hc : CRow base w' (.slice n'.wa n'.ws.length n'.wc) n'.ws) (h2 : ∀ g, FootS n'.sa n'.ss g → ¬ FootW n' g)
    (hP : ∀ g, P g → FootO n g ∨ x.ownBlock = some g) (hf : ∀ g, FootO n' g → FootO n g ∨ wr.heap.size ≤ g) : GRow base w' x (us.set k n') := by
  have hkl := (List.getElem?_eq_some_iff.1 hk).1
  have key : ∀ (i : Nat) y, (us.set k n')[i]? = some y → (i = k ∧ y = n') ∨ (i ≠ k ∧ us[i]? = some y) := by
    intro i y hy
    by_cases e : i = k
    · subst e
      rw [List.getElem?_set_self hkl] at hy
      injection hy with hy
      exact .inl ⟨rfl, hy.symm⟩
    · rw [List.getElem?_set_ne (fun e' => e e'.symm)] at hy
      exact .inr ⟨e, hy⟩
  have hno : ∀ (i : Nat) y, i ≠ k → us[i]? = some y → ∀ g, FootO y g → P g → x.ownBlock = some g := fun i y hne hy g hg hp => by
    rcases hP g hp with q | q
    · exact absurd q (h.apart i k y n hne hy hk g hg)
    · exact q
  have hkR : ∀ {B U : Nat} {A : Option Addr} {l : List V} {g : Nat}, ResS wr B U A l → FootS A l g → ¬ x.ownBlock = some g := fun hr hf e => by
    obtain ⟨cs, h1, _⟩ := h.typed _ e
    obtain ⟨T, cs', h3, h4, _⟩ := hr.typed hf
    exact h4 (blk_one h3 h1)
  refine ⟨by rw [List.length_set]; exact hrow, fun i y hy => ?_, fun i y hy => ?_, fun i y hy => ?_, fun i j y y' hne hy hy' => ?_, Nat.le_trans h.lo ht.size, fun i y hy => ?_⟩
  · rcases key i y hy with ⟨_, rfl⟩ | ⟨e, hq⟩
    · exact hs
    · exact ((h.store i y hq).turnF ht (fun g hg hp => hkR (h.store i y hq) hg (hno i y e hq g (.inl hg) hp))).wide ht.size
  · rcases key i y hy with ⟨_, rfl⟩ | ⟨e, hq⟩
    · obtain ⟨A, cap, e, hR⟩ := hc.resS
      injection e with e _ _
      rw [e]
      exact hR
    · exact ((h.wait i y hq).turnF ht (fun g hg hp => hkR (h.wait i y hq) hg (hno i y e hq g (.inr (.inl hg)) hp))).wide ht.size
  · rcases key i y hy with ⟨_, rfl⟩ | ⟨e, hq⟩
    · exact h2
    · exact h.two i y hq
  · intro g h3 h4
    rcases key i y hy with ⟨e1, rfl⟩ | ⟨e1, hq⟩ <;> rcases key j y' hy' with ⟨e2, rfl⟩ | ⟨e2, hq'⟩
    · omega
    · rcases hf g h3 with q | q
      · exact h.apart k j n y' (fun e => e2 e.symm) hk hq' g q h4
      · have := h.foot hq' h4; omega
    · rcases hf g h4 with q | q
      · exact h.apart k i n y (fun e => e1 e.symm) hk hq g q h3
      · have := h.foot hq h3; omega
    · exact h.apart i j y y' hne hq hq' g h3 h4
  · rcases key i y hy with ⟨_, rfl⟩ | ⟨e, hq⟩
    · exact hc
    · refine (h.own i y hq).turned ht (fun g hg hp => ?_) (fun l v hl g hg _ hne hp => ?_)
      · have e1 := hno i y e hq g (.inr (.inr hg)) hp
        obtain ⟨cs, b1, _⟩ := h.typed g e1
        obtain ⟨cs', b2, _⟩ := (h.own i y hq).typed g hg
        exact node_ne_ver (blk_one b1 b2)
      · have hft := (h.own i y hq).tagFoot hl hne hg
        exact hkR (h.wait i y hq) hft (hno i y e hq g (.inr (.inl hft)) hp)
end Go.Proofs.YtnaggcdhimcilaaGreat
/- What ChainPut answers, said plainly; contracts of whether there is room, in the program and in the model. -/
namespace Go.Proofs.YtnaggcdhimcilaaGreat
open Go.RowKit Go.Joins
attribute [local go_sem ↓] Go.wp_at_zero Go.wp_at_succ

/-- Whether there is room for one more at the head. -/
def roomB (ns : List Nd) : Bool := match ns[0]? with | some n => decide (n.ws.length < 6) | none => false
/-- What ChainPut answers. -/
def putN (ns : List Nd) (v : V) : List Nd := if chainB ns = true ∧ verV v = true then (if roomB ns = true then addN ns 0 v else ns) else []
def putK (ns : List Nd) (v : V) : Bool := chainB ns && verV v && roomB ns
theorem addN_fine {ns : List Nd} {v : V} {k : Nat} (h : FineN ns) (hv : verV v = true) (hr : ∀ n, ns[k]? = some n → k + 1 = ns.length ∨ n.ws.length < 6) : FineN (addN ns k v) := by
  unfold addN
  cases hx : ns[k]? with
  | none => exact h
  | some n =>
    refine ⟨by simp only [List.length_set]; exact h.1, fun i y hy => ?_⟩
    simp only at hy
    have hkl := (List.getElem?_eq_some_iff.1 hx).1
    by_cases e : i = k
    · subst e
      rw [List.getElem?_set_self hkl] at hy
      injection hy with hy
      subst hy
      refine addNd_ok (h.2 i n hx) hv ?_
      rcases hr n hx with q | q
      · exact .inl (decide_eq_true q)
      · exact .inr q
    · rw [List.getElem?_set_ne (fun e' => e e'.symm)] at hy
      exact h.2 i y hy
set_option maxHeartbeats 1000000 in
theorem linkFull_any (B L G c k nl : Nat) (ns : List Nd) (cur : Array Value) (n : Nd) (w : World) (hC : Cg w G ns cur) (hL : LinkAt w B L (some ⟨G, 0, none⟩) G nl c k) (hn : ns[k]? = some n) :
    Calls Tryz.prog 105 #[.pointer (some ⟨L, 0, none⟩)] w fun e w' => e = .returned (.bool (decide (n.ws.length ≥ 6))) ∧ w = w' := by
  obtain ⟨b1, b2, -, -, -, hL1, -, -⟩ := hL
  have q0 := hL1.two.1
  have n1 : w.cell? ⟨G, k * 2 + 1, none⟩ = some (.slice n.wa n.ws.length n.wc) := (hC.blk.at _).trans (hC.at' k n hn).2
  clear hC hL1
  by_cases h6 : n.ws.length ≥ 6
  · have z6 : (n.ws.length : Int) ≥ 6 := by omega
    rw [decide_eq_true h6]
    clear h6
    go_enter Tryz.func105, Tryz.ntmps105
    go_wp2
    go_ret
    exact ⟨rfl, rfl⟩
  · have z6 : ¬ ((n.ws.length : Int) ≥ 6) := by omega
    rw [decide_eq_false h6]
    clear h6
    go_enter Tryz.func105, Tryz.ntmps105
    go_wp2
    go_ret
    exact ⟨rfl, rfl⟩
end Go.Proofs.YtnaggcdhimcilaaGreat
/- One node of a row of nodes: a version put into its store, a version more that waits. No condition. -/
namespace Go.Proofs.YtnaggcdhimcilaaGreat
open Go.RowKit Go.Joins

/-- A store of what stands there already. -/
theorem below_same {w : World} {g i : Nat} {T : TypeId} {cs : Array Value} {u : Value} (hb : Blk w g T cs) (hc : cs[i]? = some u) : Below w.heap.size w (w.setCell ⟨g, i, none⟩ u) := by
  have h1 := hb.put i u
  have e : cs.setIfInBounds i u = cs := by
    apply Array.ext_getElem?
    intro j
    rw [Array.getElem?_setIfInBounds]
    split
    · rename_i e
      subst e
      rw [hc]
      have hl := (Array.getElem?_eq_some_iff.1 hc).1
      simp [hl]
    · rfl
  rw [e] at h1
  refine ⟨rfl, rfl, rfl, by simp [World.setCell], fun k hk => ?_⟩
  by_cases ek : k = g
  · subst ek
    exact Eq.trans h1 (Eq.symm hb)
  · exact Below.heap_setCell w _ u k ek
theorem flatN_set : ∀ {us : List Nd} {k : Nat} {n n' : Nd}, us[k]? = some n → cellsN n' = cellsN n → flatN (us.set k n') = flatN us
  | [], k, n, n', h, _ => by simp at h
  | x :: r, 0, n, n', h, hc => by
    simp at h
    subst h
    simp [flatN, hc]
  | x :: r, k + 1, n, n', h, hc => by
    have := flatN_set (us := r) (k := k) (n := n) (n' := n') (by simpa using h) hc
    simp only [flatN, List.set_cons_succ, List.flatMap_cons] at *
    rw [this]
/-- A version put into the store of a node. -/
theorem GRow.setStore {base : Nat} {wr w' : World} {x : Value} {Gs k kn : Nat} {us : List Nd} {n : Nd} {v' : V} {cur' : Array Value} (h : GRow base wr x us) (hk : us[k]? = some n) (hsa : n.sa = some ⟨Gs, 0, none⟩) (hne : n.ss ≠ [])
    (hv : Own1 w' wr.heap.size w'.heap.size v') (hO : ORow w' base w'.heap.size Gs (n.ss.set kn v') cur') (ht : Turn (fun g => g = Gs) wr w') : GRow base w' x (us.set k ⟨n.sa, n.sc, n.ss.set kn v', n.wa, n.wc, n.ws⟩) := by
  have hGs : FootS n.sa n.ss Gs := ⟨hne, Gs, hsa, .inl rfl⟩
  have hfoot : ∀ g, FootS n.sa (n.ss.set kn v') g → FootS n.sa n.ss g ∨ wr.heap.size ≤ g := fun g hg => by
    obtain ⟨_, G', e, hf⟩ := hg
    rw [hsa] at e
    injection e with e
    injection e with e
    subst e
    rcases hf with rfl | ⟨i, y, hi, hn, ha⟩
    · exact .inl hGs
    · by_cases e : i = kn
      · subst e
        have hl := (List.getElem?_eq_some_iff.1 hi).1
        rw [List.length_set] at hl
        rw [List.getElem?_set_self hl] at hi
        injection hi with hi
        subst hi
        rcases hv with q | ⟨g', _, e1, q1, _⟩
        · exact absurd q hn
        · rw [ha] at e1
          injection e1 with e1
          injection e1 with e1
          exact .inr (by omega)
      · rw [List.getElem?_set_ne (fun e' => e e'.symm)] at hi
        exact .inl ⟨hne, Gs, hsa, .inr ⟨i, y, hi, hn, ha⟩⟩
  refine h.set hk ht ?_ (.inr ⟨Gs, cur', hsa, hO⟩) ?_ (fun g h1 h2 => ?_) (fun g e => .inl (.inl (e ▸ hGs))) (fun g hg => ?_)
  · rw [flatN_set hk (by simp [cellsN])]
    refine ⟨h.row.1, ?_⟩
    rcases h.row.2 with q | ⟨g, cap, cr, h1, h2, h3, h4⟩
    · exact .inl q
    · refine .inr ⟨g, cap, cr, h1, h2, Blk.turned (show Blk wr g 90 cr from h3) ht (fun e => ?_), h4⟩
      obtain ⟨T, cs, b1, b2, _⟩ := (h.store k n hk).typed hGs
      subst e
      exact b2 (blk_one b1 (show Blk wr g 90 cr from h3))
  · exact (h.own k n hk).turned ht (fun g hg e => h.two k n hk Gs hGs (e ▸ .inr hg)) (fun i y hi g hg _ hn e => h.two k n hk Gs hGs (e ▸ .inl ((h.own k n hk).tagFoot hi hn hg)))
  · rcases hfoot g h1 with q | q
    · exact h.two k n hk g q h2
    · have := h.foot hk (g := g) (.inr h2)
      omega
  · rcases hg with hg | hg
    · rcases hfoot g hg with q | q
      · exact .inl (.inl q)
      · exact .inr q
    · exact .inl (.inr hg)
theorem flatN_set2 : ∀ {us : List Nd} {k : Nat} {n n' : Nd} {u : Value}, us[k]? = some n → cellsN n' = (cellsN n).set 1 u → flatN (us.set k n') = (flatN us).set (k * 2 + 1) u
  | [], k, n, n', u, h, _ => by simp at h
  | x :: r, 0, n, n', u, h, hc => by
    simp at h
    subst h
    simp only [flatN, List.set_cons_zero, List.flatMap_cons, hc, Nat.zero_mul, Nat.zero_add]
    rw [List.set_append_left _ _ (by simp [cellsN])]
  | x :: r, k + 1, n, n', u, h, hc => by
    have ih := flatN_set2 (us := r) (k := k) (n := n) (n' := n') (u := u) (by simpa using h) hc
    have e : flatN (x :: r) = cellsN x ++ flatN r := by simp [flatN]
    have e' : flatN ((x :: r).set (k + 1) n') = cellsN x ++ flatN (r.set k n') := by simp [flatN]
    have l2 : (cellsN x).length = 2 := rfl
    rw [e, e', ih, List.set_append_right _ _ (by omega), l2]
    congr 2
    omega
/-- One version more waits at a node. -/
theorem GRow.setWait {base : Nat} {wr w1 w2 : World} {G xc k g cap : Nat} {us : List Nd} {n : Nd} {v' : V} (h : GRow base wr (.slice (some ⟨G, 0, none⟩) us.length xc) us) (hk : us[k]? = some n) (hb : Below wr.heap.size wr w1) (hv : Own1 w1 wr.heap.size w1.heap.size v')
    (hown : w2.ownsRow base 96 6 (.slice (some ⟨g, 0, none⟩) (n.ws.length + 1) cap) (n.ws.length + 1) (flat6 n.ws ++ cells6 v')) (hg : w1.grownBy w2 (Value.slice n.wa n.ws.length n.wc).ownBlock) (hat : (Value.slice n.wa n.ws.length n.wc).ownBlock = some g ∨ wr.heap.size ≤ g) :
    GRow base (w2.setCell ⟨G, k * 2 + 1, none⟩ (.slice (some ⟨g, 0, none⟩) (n.ws.length + 1) cap)) (.slice (some ⟨G, 0, none⟩) us.length xc) (us.set k ⟨n.sa, n.sc, n.ss, some ⟨g, 0, none⟩, cap, n.ws ++ [v']⟩) := by
  have hC2 := (h.own k n hk).push hb (Nat.le_refl _) hv hown hg
  have hT1 : Turn (fun y => (Value.slice n.wa n.ws.length n.wc).ownBlock = some y ∨ y = G) wr w2 := (Turn.below hb).trans (Turn.of hg (fun y e => .inl e))
  have hT := hT1.set (p := ⟨G, k * 2 + 1, none⟩) (.inr rfl) (.slice (some ⟨g, 0, none⟩) (n.ws.length + 1) cap)
  have hGo : ∀ y, (Value.slice n.wa n.ws.length n.wc).ownBlock = some y → y ≠ G := fun y e e' => by
    subst e'
    obtain ⟨cs, b1, _⟩ := (h.own k n hk).typed y e
    obtain ⟨cs', b2, _⟩ := h.typed y rfl
    exact node_ne_ver (blk_one b2 b1)
  have hfw : ∀ y, FootW ⟨n.sa, n.sc, n.ss, some ⟨g, 0, none⟩, cap, n.ws ++ [v']⟩ y → FootW n y ∨ wr.heap.size ≤ y := fun y hy => by
    have hgg : FootW n g ∨ wr.heap.size ≤ g := hat.elim (fun q => .inl (.inr q)) .inr
    rcases hy with ⟨_, G', e, hf⟩ | e
    · injection e with e
      injection e with e
      subst e
      rcases hf with rfl | ⟨i, z, hi, hn, ha⟩
      · exact hgg
      · rcases snoc_get rfl i z hi with ⟨_, rfl⟩ | ⟨_, hq⟩
        · rcases hv with q | ⟨g', _, e1, q1, _⟩
          · exact absurd q hn
          · rw [ha] at e1
            injection e1 with e1
            injection e1 with e1
            exact .inr (by omega)
        · exact .inl (.inl ((h.own k n hk).tagFoot hq hn ha))
    · simp only [Value.ownBlock] at e
      injection e with e
      subst e
      exact hgg
  refine h.set hk hT ?_ ?_ ?_ (fun y h1 h2 => ?_) (fun y e => ?_) (fun y hy => ?_)
  · rw [flatN_set2 hk (u := .slice (some ⟨g, 0, none⟩) (n.ws.length + 1) cap) (by simp [cellsN])]
    refine ⟨by rw [List.length_set]; exact h.row.1, ?_⟩
    rcases h.row.2 with ⟨q, _⟩ | ⟨G', cap', cr, h1, h2, h3, h4, h5, h6, h7⟩
    · cases q
    · injection h1 with h1 _ h1'
      injection h1 with h1
      injection h1 with h1
      subst h1 h1'
      have B2 : Blk w2 G 90 cr := ((show Blk wr G 90 cr from h3).on hb).kept hg (fun e => hGo G e rfl)
      refine .inr ⟨G, xc, _, rfl, h2, B2.put (k * 2 + 1) _, h4, h5, by simpa using h6, ?_⟩
      rw [Array.toList_setIfInBounds, List.take_set, h7]
  · exact ((h.store k n hk).turnF hT (fun y hf hp => by
      rcases hp with hp | hp
      · exact h.two k n hk y hf (.inr hp)
      · obtain ⟨T, cs, b1, b2, _⟩ := (h.store k n hk).typed hf
        obtain ⟨cs', b3, _⟩ := h.typed G rfl
        subst hp
        exact b2 (blk_one b1 b3))).wide hT.size
  · have e1 : (n.ws ++ [v']).length = n.ws.length + 1 := by simp
    simp only [e1]
    exact hC2.turnedT (P := fun y => y = G) ((Turn.refl (fun y => y = G) w2).set (p := ⟨G, k * 2 + 1, none⟩) rfl _) (fun y e => by
      obtain ⟨cs', b3, _⟩ := h.typed G rfl
      subst e
      exact ⟨_, cs', (b3.on hb).kept hg (fun e => hGo y e rfl), node_ne_ver, node_ne_tag⟩)
  · rcases hfw y h2 with q | q
    · exact h.two k n hk y h1 q
    · have := h.foot hk (g := y) (.inl h1)
      omega
  · rcases e with e | e
    · exact .inl (.inr (.inr e))
    · exact .inr (by rw [e]; rfl)
  · rcases hy with hy | hy
    · exact .inl (.inl hy)
    · rcases hfw y hy with q | q
      · exact .inl (.inr q)
      · exact .inr q
end Go.Proofs.YtnaggcdhimcilaaGreat
/- The model lets a later version into a row: which one stands there then. Condition: a row of four, a key from 0 to 3. -/
namespace Go.Proofs.YtnaggcdhimcilaaGreat
open Go.RowKit Go.Joins
attribute [local go_sem ↓] Go.wp_at_zero Go.wp_at_succ

/-- What letting a later version in leaves: a copy of it in its place, the others as they were. -/
def PutL (w : World) (B G : Nat) (us : List V) (v : V) (kn : Nat) (x : Value) (e : Ending) (w' : World) : Prop :=
  ∃ (v' : V) (cur' : Array Value), e = .returned x ∧ V.like v' v ∧ Own1 w' w.heap.size w'.heap.size v' ∧ ORow w' B w'.heap.size G (us.set kn v') cur' ∧ Turn (fun g => g = G) w w'
set_option maxRecDepth 100000 in
set_option maxHeartbeats 1000000 in
theorem l2Add_less (B U G cx : Nat) (us : List V) (cur : Array Value) (v y : V) (kn : Nat) (w : World) (hR : ORow w B U G us cur) (hU : U ≤ w.heap.size) (h4 : us.length = 4) (hk : v.k = (kn : Int)) (hk4 : kn < 4) (hn : v.ts.length ≤ 1048576) (ht : Tg w w.heap.size v.a v.ts) (hy : us[kn]? = some y) (hless : lessB y.t y.u v.t v.u = true) :
    Calls Tryz.prog 98 #[.agg #[.slice (some ⟨G, 0, none⟩) 4 cx], .agg (verC v.k v.t v.u v.a v.ts.length v.c v.s v.g)] w (PutL w B G us v kn (.agg #[.slice (some ⟨G, 0, none⟩) 4 cx])) := by
  have hkt : v.k.toNat = kn := by rw [hk]; simp
  have HY := hide hy
  obtain ⟨vk, vt, vu, va, vc, vts, vs, vg⟩ := v
  simp only at hk hkt hn ht hless ⊢
  subst hk
  have CLA : ∀ W : World, Below w.heap.size w W → Calls Tryz.prog 61 #[.agg (verC (kn : Int) vt vu va vts.length vc vs vg)] W (Cloned W ⟨(kn : Int), vt, vu, va, vc, vts, vs, vg⟩) := fun W hb => l2Copy_any ⟨(kn : Int), vt, vu, va, vc, vts, vs, vg⟩ W hn ((ht.on hb).up hb.size)
  have HCL := hide CLA
  clear CLA
  have S0 := (((Inv.start w).box 88 #[.slice (some ⟨G, 0, none⟩) 4 cx]).box 96 (verC (kn : Int) vt vu va vts.length vc vs vg)).box 88 #[.slice none 0 0]
  simp only [World.size_alloc] at S0
  have HR0 := hide (hR.on S0.below)
  obtain ⟨g0, g1, g2, g3, g4, g5⟩ := HR0.out.at' kn y hy
  have c0 := (HR0.out.blk.at (kn * 6)).trans g0
  have c1 := (HR0.out.blk.at (kn * 6 + 1)).trans g1
  have c2 := (HR0.out.blk.at (kn * 6 + 2)).trans g2
  have C1 := hide c1
  have C2 := hide c2
  have hGl := hR.hi
  have HRW := hide hR
  have i1 : (0 : Int) ≤ (kn : Int) := by omega
  have i2 : (kn : Int) < 4 := by omega
  clear g0 g1 g2 g3 g4 g5 hy c0 c1 c2 ht hR hkt
  have HL := hide hless
  clear hless
  go_enter Tryz.func98, Tryz.ntmps98
  go_wp2_with fail
  generalize ((w.alloc (.cells #[.slice (some ⟨G, 0, none⟩) 4 cx] 88)).alloc (.cells (verC (kn : Int) vt vu va vts.length vc vs vg) 96)).alloc (.cells #[.slice none 0 0] 88) = W0 at S0 HR0 C1 C2 ⊢
  refine wp_region_noPanic ?_
  refine wp_region_held_drew (S := (fun w' => (w'.cell? ⟨G, kn * 6 + 1, none⟩ = some (.int .i64 y.t) ∧ w'.cell? ⟨G, kn * 6 + 2, none⟩ = some (.int .i64 y.u)) ∧ (w'.cell? ⟨w.heap.size, 0, none⟩ = some (.slice (some ⟨G, 0, none⟩) 4 cx) ∧ w'.cell? ⟨w.heap.size + 1, 0, none⟩ = some (.int .i64 (kn : Int)) ∧ w'.cell? ⟨w.heap.size + 1, 1, none⟩ = some (.int .i64 vt) ∧ w'.cell? ⟨w.heap.size + 1, 2, none⟩ = some (.int .i64 vu)) ∧ Inv w (w.heap.size + 1 + 1 + 1) [(w.heap.size + 1 + 1, 88, #[.slice none 0 0]), (w.heap.size + 1, 96, (verC (kn : Int) vt vu va vts.length vc vs vg)), (w.heap.size, 88, #[.slice (some ⟨G, 0, none⟩) 4 cx])] w')) (by kernel_rfl) (by exact ⟨⟨C1.out, C2.out⟩, ⟨(S0.drew.nth 2 rfl).at 0, (S0.drew.nth 1 rfl).at 0, (S0.drew.nth 1 rfl).at 1, (S0.drew.nth 1 rfl).at 2⟩, S0.drew⟩) (fun hHeld => ?_)
  refine mvR 0 (some 5) hHeld ?_
  refine mvR 1 (some 6) hHeld ?_
  refine mvR 2 (some 7) hHeld ?_
  refine mvR 3 (some 8) hHeld ?_
  refine mvR 4 (some 9) hHeld ?_
  refine mvR 5 (some 10) hHeld ?_
  refine mvR 6 (some 11) hHeld ?_
  refine mvR 7 (some 12) hHeld ?_
  refine mvR 8 (some 13) hHeld ?_
  refine take_one 9 (by kernel_rfl) rfl (fun K hK => ?_)
  go_simp
  ((with_reducible refine (l1Less_any y.t y.u vt vu _).mono ?_); rintro e w1 ⟨rfl, hb1⟩; have HR1 := hide (HRW.out.on (hHeld.2.2.on hb1).below); have tc := HR1.out.at' kn y HY.out)
  try go_wp2_with fail
  refine hK.out _ _ (by exact ⟨⟨(HR1.out.blk.at (kn * 6 + 1)).trans tc.2.1, (HR1.out.blk.at (kn * 6 + 2)).trans tc.2.2.1⟩, ⟨((hHeld.2.2.on hb1).nth 2 rfl).at 0, ((hHeld.2.2.on hb1).nth 1 rfl).at 0, ((hHeld.2.2.on hb1).nth 1 rfl).at 1, ((hHeld.2.2.on hb1).nth 1 rfl).at 2⟩, hHeld.2.2.on hb1⟩) (fun hHeld => ?_)
  clear hK K
  refine wpAnyH_done (by kernel_rfl) ?_ _
  refine NoPanic.normal ?_
  have S1 := hHeld.2.2
  clear hHeld S0 HR0 C1 C2 tc
  rw [HL.out]
  have S1' := S1.top
  have zr := S1.room
  have zb := S1.base
  go_wp2_with fail
  refine wp_region_noPanic ?_
  refine wp_region_held_drew (S := (fun w' => (w'.cell? ⟨w.heap.size, 0, none⟩ = some (.slice (some ⟨G, 0, none⟩) 4 cx) ∧ w'.cell? ⟨w.heap.size + 1, 0, none⟩ = some (.int .i64 (kn : Int)) ∧ w'.cell? ⟨w.heap.size + 1, 1, none⟩ = some (.int .i64 vt) ∧ w'.cell? ⟨w.heap.size + 1, 2, none⟩ = some (.int .i64 vu) ∧ w'.cell? ⟨w.heap.size + 1, 3, none⟩ = some (.slice va vts.length vc) ∧ w'.cell? ⟨w.heap.size + 1, 4, none⟩ = some (.string vs) ∧ w'.cell? ⟨w.heap.size + 1, 5, none⟩ = some (.bool vg)) ∧ (Blk w' w.heap.size 88 #[.slice (some ⟨G, 0, none⟩) 4 cx] ∧ Blk w' (w.heap.size + 1) 96 (verC (kn : Int) vt vu va vts.length vc vs vg) ∧ Blk w' (w.heap.size + 1 + 1) 88 #[.slice none 0 0]) ∧ w1.heap.size ≤ w'.heap.size)) (by kernel_rfl) (by exact ⟨⟨(S1.drew.nth 2 rfl).at 0, (S1.drew.nth 1 rfl).six.1⟩, ⟨S1.drew.nth 2 rfl, S1.drew.nth 1 rfl, S1.drew.nth 0 rfl⟩, Nat.le_refl _⟩) (fun hHeld => ?_)
  refine mvR 0 (some 15) hHeld ?_
  refine mvR 1 (some 16) hHeld ?_
  refine mvR 2 (some 17) hHeld ?_
  refine mvR 3 (some 18) hHeld ?_
  refine mvR 4 (some 19) hHeld ?_
  refine take_one 5 (by kernel_rfl) rfl (fun K hK => ?_)
  go_simp
  ((with_reducible refine (HCL.out _ S1.drew.below).mono ?_); rintro e w2 ⟨v', rfl, hlike, hown, hb2⟩; have HLK := hide hlike; have HOW := hide hown; have HB2 := hide hb2; have z2 : w1.heap.size ≤ w2.heap.size := hb2.size; have HR2 := hide ((HR1.out.on (Below.refl _ _).drew).on hb2); obtain ⟨e0, e1, e2, e3, e4, e5⟩ := HR2.out.at' kn y HY.out; have d0 := (HR2.out.blk.at (kn * 6)).trans e0; have d1 := (HR2.out.blk.at (kn * 6 + 1)).trans e1; have d2 := (HR2.out.blk.at (kn * 6 + 2)).trans e2; have d3 := (HR2.out.blk.at (kn * 6 + 3)).trans e3; have d4 := (HR2.out.blk.at (kn * 6 + 4)).trans e4; have d5 := (HR2.out.blk.at (kn * 6 + 5)).trans e5; have f0 := HR2.out.blk.loose (kn * 6); have f1 := HR2.out.blk.loose (kn * 6 + 1); have f2 := HR2.out.blk.loose (kn * 6 + 2); have f3 := HR2.out.blk.loose (kn * 6 + 3); have f4 := HR2.out.blk.loose (kn * 6 + 4); have f5 := HR2.out.blk.loose (kn * 6 + 5))
  try go_wp2_with fail
  refine hK.out _ _ (by exact ⟨⟨((hHeld.2.1.1).on hb2).at 0, ((hHeld.2.1.2.1).on hb2).six.1⟩, ⟨(hHeld.2.1.1).on hb2, (hHeld.2.1.2.1).on hb2, (hHeld.2.1.2.2).on hb2⟩, z2⟩) (fun hHeld => ?_)
  clear hK K
  refine mvR 6 (some 21) hHeld ?_
  refine take_one 7 (by kernel_rfl) rfl (fun K hK => ?_)
  go_simp
  refine hK.out _ _ (by exact ⟨⟨(((((((hHeld.2.1.1).aside (by show w.heap.size ≠ G; omega) _).aside (by show w.heap.size ≠ G; omega) _).aside (by show w.heap.size ≠ G; omega) _).aside (by show w.heap.size ≠ G; omega) _).aside (by show w.heap.size ≠ G; omega) _).aside (by show w.heap.size ≠ G; omega) _).at 0, (((((((hHeld.2.1.2.1).aside (by show w.heap.size + 1 ≠ G; omega) _).aside (by show w.heap.size + 1 ≠ G; omega) _).aside (by show w.heap.size + 1 ≠ G; omega) _).aside (by show w.heap.size + 1 ≠ G; omega) _).aside (by show w.heap.size + 1 ≠ G; omega) _).aside (by show w.heap.size + 1 ≠ G; omega) _).six.1⟩, ⟨((((((hHeld.2.1.1).aside (by show w.heap.size ≠ G; omega) _).aside (by show w.heap.size ≠ G; omega) _).aside (by show w.heap.size ≠ G; omega) _).aside (by show w.heap.size ≠ G; omega) _).aside (by show w.heap.size ≠ G; omega) _).aside (by show w.heap.size ≠ G; omega) _, ((((((hHeld.2.1.2.1).aside (by show w.heap.size + 1 ≠ G; omega) _).aside (by show w.heap.size + 1 ≠ G; omega) _).aside (by show w.heap.size + 1 ≠ G; omega) _).aside (by show w.heap.size + 1 ≠ G; omega) _).aside (by show w.heap.size + 1 ≠ G; omega) _).aside (by show w.heap.size + 1 ≠ G; omega) _, ((((((hHeld.2.1.2.2).aside (by show w.heap.size + 1 + 1 ≠ G; omega) _).aside (by show w.heap.size + 1 + 1 ≠ G; omega) _).aside (by show w.heap.size + 1 + 1 ≠ G; omega) _).aside (by show w.heap.size + 1 + 1 ≠ G; omega) _).aside (by show w.heap.size + 1 + 1 ≠ G; omega) _).aside (by show w.heap.size + 1 + 1 ≠ G; omega) _⟩, by simpa [World.setCell] using hHeld.2.2⟩) (fun hHeld => ?_)
  clear hK K
  refine wpAnyH_done (by kernel_rfl) ?_ _
  refine NoPanic.normal ?_
  have hpt := (HR2.out.wide (show U ≤ w2.heap.size by omega)).put6 (j := kn) (v := v') (by omega) (HOW.out.low (by have := HRW.out.lo; omega)) (fun i x hi hx hne hne' => by
    rcases HRW.out.own i x hx with q | ⟨gg, _, q1, _, q2, _⟩
    · exact absurd q hne
    · rcases HOW.out with q | ⟨gg', _, q3, q4, _⟩
      · exact absurd q hne'
      · rw [q1, q3]
        intro e
        injection e with e
        injection e with e
        have q5 : w1.heap.size ≤ gg' := q4
        omega) (fun hne' => by
      rcases HOW.out with q | ⟨gg', _, q3, q4, _⟩
      · exact absurd q hne'
      · rw [q3]
        intro e
        injection e with e
        injection e with e
        have q5 : w1.heap.size ≤ gg' := q4
        omega)
  have hk0 : v'.k = (kn : Int) := HLK.out.1
  have HP := hide hpt
  have HOVx := hide ((HOW.out.turned hpt.2 (fun g hg hb _ _ e => by have q5 : w1.heap.size ≤ g := hb; have e' : g = G := e; omega)).wide hpt.2.size)
  have HB9 := hide hHeld.2.1
  clear hHeld d0 d1 d2 d3 d4 d5 f0 f1 f2 f3 f4 f5 e0 e1 e2 e3 e4 e5 hpt
  generalize (((((w2.setCell ⟨G, kn * 6, none⟩ (.int .i64 v'.k)).setCell ⟨G, kn * 6 + 1, none⟩ (.int .i64 v'.t)).setCell ⟨G, kn * 6 + 2, none⟩ (.int .i64 v'.u)).setCell ⟨G, kn * 6 + 3, none⟩ (.slice v'.a v'.ts.length v'.c)).setCell ⟨G, kn * 6 + 4, none⟩ (.string v'.s)).setCell ⟨G, kn * 6 + 5, none⟩ (.bool v'.g) = W9 at HP HB9 HOVx ⊢
  have HOV9 : Hid (Own1 W9 w1.heap.size W9.heap.size v') := HOVx.out
  have q1 := HB9.out.2.2.one
  have q3 := HB9.out.1.one
  go_wp2
  refine bodyPost_ret (v := .agg #[.slice (some ⟨G, 0, none⟩) 4 cx]) (by simp [results, Tryz.results98, go_sem, q1]) rfl ?_
  have T1 : Turn (fun g => g = G) w w1 := ⟨S1.below.os, S1.below.tape, S1.below.output, S1.below.size, fun i hi _ => S1.below.block i hi⟩
  have T2 : Turn (fun g => g = G) w W9 := ((T1.trans (.below (Below.refl _ _).drew)).trans (.below HB2.out)).trans HP.out.2
  have P9 := (HP.out.1.aside (p := ⟨w.heap.size + 1 + 1, 0, none⟩) HB9.out.2.2 store_ne_tag (by show G ≠ w.heap.size + 1 + 1; omega) (.slice (some ⟨G, 0, none⟩) 4 cx)).wide HP.out.2.size
  have ZS : (W9.setCell ⟨w.heap.size + 1 + 1, 0, none⟩ (.slice (some ⟨G, 0, none⟩) 4 cx)).heap.size = W9.heap.size := by simp [World.setCell]
  have HOV : Own1 W9 w1.heap.size W9.heap.size v' := HOV9.out
  refine ⟨v', _, rfl, HLK.out, ?_, by simpa [World.setCell] using P9, T2.far (p := ⟨w.heap.size + 1 + 1, 0, none⟩) (by simp only; omega) _⟩
  rw [ZS]
  exact (HOV.tk (.set HB9.out.2.2 store_ne_tag _)).low (by omega)
end Go.Proofs.YtnaggcdhimcilaaGreat
/- Contract of the model's l3Add: a version comes to a node of a chain that is the caller's own. Condition: at most four nodes, the node valid. -/
namespace Go.Proofs.YtnaggcdhimcilaaGreat
open Go.RowKit Go.Joins
attribute [local go_sem ↓] Go.wp_at_zero Go.wp_at_succ

theorem Turn.mono {P Q : Nat → Prop} {w w' : World} (h : Turn P w w') (hq : ∀ g, P g → Q g) : Turn Q w w' := ⟨h.os, h.tape, h.output, h.size, fun k hk hn => h.block k hk (fun hp => hn (hq k hp))⟩
/-- Blocks that a version that comes may change: of versions or of nodes, from base on. -/
def TouchC (w : World) (base g : Nat) : Prop := base ≤ g ∧ ∃ cs, Blk w g 96 cs ∨ Blk w g 90 cs
/-- What l3Add leaves. -/
def AddedC (w : World) (base G xc : Nat) (us : List Nd) (k : Nat) (v : V) (e : Ending) (w' : World) : Prop :=
  ∃ us' : List Nd, e = .returned (.agg #[.slice (some ⟨G, 0, none⟩) us.length xc]) ∧ NL us' (addN us k v) ∧ GRow base w' (.slice (some ⟨G, 0, none⟩) us.length xc) us' ∧ Turn (TouchC w base) w w'
theorem addN_at {us : List Nd} {k : Nat} {n : Nd} {v : V} (hk : us[k]? = some n) : addN us k v = us.set k (addNd n (decide (k + 1 = us.length)) v) := by unfold addN; rw [hk]
theorem addN_not {us : List Nd} {k : Nat} {n : Nd} {v : V} (hk : us[k]? = some n) (hs : stepL n.ss v = none) : addN us k v = us := by
  rw [addN_at hk]
  unfold addNd
  rw [hs]
  apply List.ext_getElem?
  intro i
  by_cases e : i = k
  · subst e
    rw [List.getElem?_set_self (List.getElem?_eq_some_iff.1 hk).1, hk]
  · rw [List.getElem?_set_ne (fun e' => e e'.symm)]
theorem nl_refl (us : List Nd) : NL us us := ⟨rfl, fun i x y hx hy => by rw [hx] at hy; injection hy with hy; subst hy; exact ⟨rfl, like_refl _, rfl, like_refl _⟩⟩
/-- A version with a key and causes as a valid one has; a node with room for such. -/
def shV (v : V) : Prop := (0 ≤ v.k ∧ v.k ≤ 3) ∧ v.ts.length = 4
def shN (n : Nd) : Prop := n.ss.length = 4 ∧ n.ws.length ≤ 6 ∧ ∀ v ∈ n.ws, shV v
theorem shV_of {v : V} (h : verV v = true) : shV v := ⟨verV_key h, pastB_len4 (verB_parts h).2.2.2⟩
theorem shN_of {n : Nd} (h : nodeB n = true) : shN n := ⟨(node_ts h).1.1, (node_ts h).2.1, fun v hv => shV_of ((nodeB_parts h).2.2 v hv)⟩
end Go.Proofs.YtnaggcdhimcilaaGreat
/- Contract of the program's apply where the version is not later: nothing changes. Condition: at most four nodes, the node valid. -/
namespace Go.Proofs.YtnaggcdhimcilaaGreat
open Go.RowKit Go.Joins
attribute [local go_sem ↓] Go.wp_at_zero Go.wp_at_succ

/-- What apply leaves. -/
def AppliedC (w : World) (base G xc : Nat) (us : List Nd) (k : Nat) (v : V) (e : Ending) (w' : World) : Prop :=
  ∃ us' : List Nd, e = .returned (.tuple #[]) ∧ NL us' (addN us k v) ∧ GRow base w' (.slice (some ⟨G, 0, none⟩) us.length xc) us' ∧ Turn (TouchC w base) w w'
set_option maxRecDepth 100000 in
set_option maxHeartbeats 4000000 in
theorem apply_not (B L base G xc k : Nat) (us : List Nd) (n : Nd) (v : V) (w : World) (hG : GRow base w (.slice (some ⟨G, 0, none⟩) us.length xc) us) (hL : LinkAt w B L (some ⟨G, 0, none⟩) G us.length xc k) (hk : us[k]? = some n) (hnb : nodeB n = true) (hvv : verV v = true) (hno : stepL n.ss v = none) :
    Calls Tryz.prog 106 #[.pointer (some ⟨L, 0, none⟩), .agg (verC v.k v.t v.u v.a v.ts.length v.c v.s v.g)] w (AppliedC w base G xc us k v) := by
  have hkl := (List.getElem?_eq_some_iff.1 hk).1
  obtain ⟨hs4, hw6, _⟩ := node_ts hnb
  obtain ⟨kn, hkn, hkn4⟩ : ∃ kn : Nat, v.k = (kn : Int) ∧ kn < 4 := by
    have := verV_key hvv
    exact ⟨v.k.toNat, by omega, by omega⟩
  have hvl : v.ts.length = 4 := pastB_len4 (verB_parts hvv).2.2.2
  obtain ⟨y, hy⟩ : ∃ y, n.ss[kn]? = some y := ⟨_, List.getElem?_eq_getElem (by omega)⟩
  obtain ⟨Gs, cu, hsa, hO⟩ : ∃ Gs cu, n.sa = some ⟨Gs, 0, none⟩ ∧ ORow w base w.heap.size Gs n.ss cu := by
    rcases hG.store k n hk with h0 | h
    · rw [h0] at hs4; simp at hs4
    · exact h
  have hcg : ∃ cur, Cg w G us cur := by
    obtain ⟨_, hR⟩ := hG.res
    rcases hR with h0 | ⟨G', cur, e, hR⟩
    · rw [h0] at hkl; simp at hkl
    · injection e with e
      injection e with e
      subst e
      exact ⟨cur, hR.cg⟩
  obtain ⟨cur, hcg⟩ := hcg
  obtain ⟨b1, b2, -, -, -, hL1, hL2, hL3⟩ := hL
  have S0 := (Inv.start w).box 96 (verC v.k v.t v.u v.a v.ts.length v.c v.s v.g)
  simp only [World.size_alloc] at S0
  have gs1 := hO.hi
  have gs0 := hO.lo
  have gin := hcg.blk.inside
  have lin := hL1.inside
  have hLs : L ≠ Gs := fun e => by subst e; exact absurd (blk_one hL1 hO.blk) (by decide)
  have h1s : b1 ≠ Gs := fun e => by subst e; exact absurd (blk_one hL2 hO.blk) (by decide)
  have h2s : b2 ≠ Gs := fun e => by subst e; exact absurd (blk_one hL3 hO.blk) (by decide)
  have hLG : L ≠ G := fun e => by subst e; exact absurd (blk_one hL1 hcg.blk) (by decide)
  have hne : G ≠ Gs := fun e => by subst e; exact absurd (blk_one hcg.blk hO.blk) (by decide)
  have HG := hide hG
  have HCG := hide hcg
  have HO := hide hO
  have HK := hide hk
  have HY := hide hy
  have HSA := hide hsa
  have HNO0 := hide hno
  have HVL := hide hvl
  have HS4 := hide hs4.1
  have HL1 := hide hL1
  have HL2 := hide hL2
  have HL3 := hide hL3
  have CELL : Hid (∀ W, Below w.heap.size w W → W.cell? ⟨G, k * 2, none⟩ = some (.slice (some ⟨Gs, 0, none⟩) 4 n.sc)) := fun W hW => by
    have := ((HCG.out.on hW).blk.at (k * 2)).trans (HCG.out.at' k n HK.out).1
    rw [HSA.out, HS4.out] at this
    exact this
  have CELS : Hid (∀ W, Below w.heap.size w W → W.cell? ⟨Gs, kn * 6 + 1, none⟩ = some (.int .i64 y.t) ∧ W.cell? ⟨Gs, kn * 6 + 2, none⟩ = some (.int .i64 y.u)) := fun W hW => by
    have hr := HO.out.on hW
    exact ⟨(hr.blk.at _).trans (hr.at' kn y HY.out).2.1, (hr.blk.at _).trans (hr.at' kn y HY.out).2.2.1⟩
  obtain ⟨vk, vt, vu, va, vc, vts, vs, vg⟩ := v
  simp only at hkn S0 hvl hvv
  subst hkn
  have i1 : (0 : Int) ≤ (k : Int) := by omega
  have i2 : (k : Int) < (us.length : Int) := by omega
  have i3 : (0 : Int) ≤ (kn : Int) := by omega
  have i4 : (kn : Int) < 4 := by omega
  clear hG hk hcg hO hy hsa hno hvl hs4 hnb hL1 hL2 hL3
  go_enter Tryz.func106, Tryz.ntmps106
  go_wp2_with fail
  generalize w.alloc (.cells (verC (kn : Int) vt vu va vts.length vc vs vg) 96) = W0 at S0 ⊢
  have jh : ∀ {W : World}, Inv w (w.heap.size + 1) [(w.heap.size, 96, (verC (kn : Int) vt vu va vts.length vc vs vg))] W → (W.cell? ⟨L, 0, none⟩ = some (.pointer (some ⟨G, k * 2, none⟩)) ∧ W.cell? ⟨G, k * 2, none⟩ = some (.slice (some ⟨Gs, 0, none⟩) 4 n.sc)) ∧ (W.cell? ⟨w.heap.size, 0, none⟩ = some (.int .i64 (kn : Int)) ∧ W.cell? ⟨w.heap.size, 1, none⟩ = some (.int .i64 vt) ∧ W.cell? ⟨w.heap.size, 2, none⟩ = some (.int .i64 vu)) ∧ (W.cell? ⟨Gs, kn * 6 + 1, none⟩ = some (.int .i64 y.t) ∧ W.cell? ⟨Gs, kn * 6 + 2, none⟩ = some (.int .i64 y.u)) ∧ Inv w (w.heap.size + 1) [(w.heap.size, 96, (verC (kn : Int) vt vu va vts.length vc vs vg))] W :=
    fun hI => ⟨⟨(HL1.out.on hI.below).at 0, CELL.out _ hI.below⟩, ⟨(hI.nth 0 rfl).at 0, (hI.nth 0 rfl).at 1, (hI.nth 0 rfl).at 2⟩, CELS.out _ hI.below, hI⟩
  refine wp_region_noPanic ?_
  refine wp_region_held_drew (S := (fun w' => (w'.cell? ⟨L, 0, none⟩ = some (.pointer (some ⟨G, k * 2, none⟩)) ∧ w'.cell? ⟨G, k * 2, none⟩ = some (.slice (some ⟨Gs, 0, none⟩) 4 n.sc)) ∧ (w'.cell? ⟨w.heap.size, 0, none⟩ = some (.int .i64 (kn : Int)) ∧ w'.cell? ⟨w.heap.size, 1, none⟩ = some (.int .i64 vt) ∧ w'.cell? ⟨w.heap.size, 2, none⟩ = some (.int .i64 vu)) ∧ (w'.cell? ⟨Gs, kn * 6 + 1, none⟩ = some (.int .i64 y.t) ∧ w'.cell? ⟨Gs, kn * 6 + 2, none⟩ = some (.int .i64 y.u)) ∧ Inv w (w.heap.size + 1) [(w.heap.size, 96, (verC (kn : Int) vt vu va vts.length vc vs vg))] w')) (by kernel_rfl) (by exact jh S0.drew) (fun hHeld => ?_)
  refine mvR 0 (some 4) hHeld ?_
  refine mvR 1 (some 5) hHeld ?_
  refine mvR 2 (some 6) hHeld ?_
  refine mvR 3 (some 7) hHeld ?_
  refine mvR 4 (some 8) hHeld ?_
  refine mvR 5 (some 9) hHeld ?_
  refine mvR 6 (some 10) hHeld ?_
  refine mvR 7 (some 11) hHeld ?_
  refine mvR 8 (some 12) hHeld ?_
  refine mvR 9 (some 13) hHeld ?_
  refine mvR 10 (some 14) hHeld ?_
  refine mvR 11 (some 15) hHeld ?_
  refine mvR 12 (some 16) hHeld ?_
  refine mvR 13 (some 17) hHeld ?_
  refine mvR 14 (some 18) hHeld ?_
  refine take_one 15 (by kernel_rfl) rfl (fun K hK => ?_)
  go_simp
  ((with_reducible refine (less_any y.t y.u vt vu _).mono ?_); rintro e w1 ⟨rfl, hb1⟩)
  try go_wp2_with fail
  refine hK.out _ _ (by exact jh (hHeld.2.2.2.on hb1)) (fun hHeld => ?_)
  clear hK K
  refine mvR 16 (some 20) hHeld ?_
  refine wpAnyH_done (by kernel_rfl) ?_ _
  refine NoPanic.normal ?_
  have I1 := hHeld.2.2.2
  clear hHeld S0
  have hless : lessB y.t y.u vt vu = false := by
    cases h : lessB y.t y.u vt vu with
    | false => rfl
    | true =>
      have := HNO0.out
      rw [stepL_yes (v := ⟨(kn : Int), vt, vu, va, vc, vts, vs, vg⟩) rfl HY.out h] at this
      cases this
  rw [hless]
  have HNO := hide (addN_not (v := ⟨(kn : Int), vt, vu, va, vc, vts, vs, vg⟩) HK.out HNO0.out)
  clear hless jh
  go_wp2
  refine bodyPost_ret (v := .tuple #[]) (by simp [results, Tryz.results106, go_sem]) rfl ?_
  exact ⟨us, rfl, by rw [HNO.out]; exact nl_refl us, HG.out.on I1.below, Turn.below I1.below⟩
end Go.Proofs.YtnaggcdhimcilaaGreat
/- A copy of a version put into a row: its causes are new. No condition. -/
namespace Go.Proofs.YtnaggcdhimcilaaGreat
open Go.RowKit Go.Joins

theorem put_own {w1 w2 : World} {B G j : Nat} {us : List V} {cur cur0 : Array Value} {v : V} (h : ORow w2 B w2.heap.size G us cur) (hj : j < us.length) (ho : Own1 w2 w1.heap.size w2.heap.size v) (h0 : ORow w1 B w1.heap.size G us cur0) :
    ORow ((((((w2.setCell ⟨G, j * 6, none⟩ (.int .i64 v.k)).setCell ⟨G, j * 6 + 1, none⟩ (.int .i64 v.t)).setCell ⟨G, j * 6 + 2, none⟩ (.int .i64 v.u)).setCell ⟨G, j * 6 + 3, none⟩ (.slice v.a v.ts.length v.c)).setCell ⟨G, j * 6 + 4, none⟩ (.string v.s)).setCell ⟨G, j * 6 + 5, none⟩ (.bool v.g)) B w2.heap.size G (us.set j v) (put6 cur j v) ∧
    Turn (fun g => g = G) w2 ((((((w2.setCell ⟨G, j * 6, none⟩ (.int .i64 v.k)).setCell ⟨G, j * 6 + 1, none⟩ (.int .i64 v.t)).setCell ⟨G, j * 6 + 2, none⟩ (.int .i64 v.u)).setCell ⟨G, j * 6 + 3, none⟩ (.slice v.a v.ts.length v.c)).setCell ⟨G, j * 6 + 4, none⟩ (.string v.s)).setCell ⟨G, j * 6 + 5, none⟩ (.bool v.g)) := by
  have g0 := h0.hi
  have l0 := h0.lo
  refine h.put6 hj (ho.low (by omega)) (fun i x _ hx hne hne' => ?_) (fun hne' => ?_)
  · rcases h0.own i x hx with q | ⟨gg, _, q1, _, q2, _⟩
    · exact absurd q hne
    · rcases ho with q | ⟨gg', _, q3, q4, _⟩
      · exact absurd q hne'
      · rw [q1, q3]
        intro e
        injection e with e
        injection e with e
        omega
  · rcases ho with q | ⟨gg', _, q3, q4, _⟩
    · exact absurd q hne'
    · rw [q3]
      intro e
      injection e with e
      injection e with e
      omega
end Go.Proofs.YtnaggcdhimcilaaGreat
