/- Contracts of ChainStable, of program and model. Condition: sizes that memory holds. -/
import Derived.Test.YtnaggcdhimcilaaGreatJChainSpec3
import Derived.Test.YtnaggcdhimcilaaGreatJLogMark
import Derived.Test.YtnaggcdhimcilaaGreatJNodes
import Derived.Test.YtnaggcdhimcilaaGreatJChainClone2
import Derived.Test.YtnaggcdhimcilaaGreatJPastOk
import Derived.Test.YtnaggcdhimcilaaGreatJVerCopy
import Derived.Test.YtnaggcdhimcilaaGreatJChainPure
namespace Go.Proofs.YtnaggcdhimcilaaGreat
open Go.RowKit Go.Joins
attribute [local go_sem ↓] Go.wp_at_zero Go.wp_at_succ

theorem tot_ll {us vs : List V} (h : LL us vs) : tot us = tot vs := by
  unfold tot
  congr 1
  apply List.ext_getElem?
  intro i
  rw [List.getElem?_map, List.getElem?_map]
  cases hx : us[i]? with
  | none => rw [ll_none h hx]
  | some v =>
    obtain ⟨v', hv', hl⟩ := ll_at h hx
    rw [hv']
    simp [hl.2.2.2.1, hl.2.2.2.2.1]
theorem totN_like {n m : Nd} (h : Nd.like n m) : totN n = totN m := by
  unfold totN
  rw [tot_ll (us := n.ss) (vs := m.ss) ⟨h.1, h.2.1⟩, tot_ll (us := n.ws) (vs := m.ws) ⟨h.2.2.1, h.2.2.2⟩, h.1, h.2.2.1]
theorem totNs_nl {us ns : List Nd} (h : NL us ns) : totNs us = totNs ns := by
  unfold totNs
  congr 1
  apply List.ext_getElem?
  intro i
  rw [List.getElem?_map, List.getElem?_map]
  cases hx : us[i]? with
  | none => rw [nl_none h hx]
  | some v =>
    obtain ⟨v', hv', hl⟩ := nl_at h hx
    rw [hv']
    simp [totN_like hl]
theorem wtNs_tot (ns : List Nd) : wtNs ns ≤ 5 * (totNs ns : Int) := by
  induction ns with
  | nil => simp [wtNs, totNs]
  | cons n r ih =>
    have h1 := wts_tot n.ss
    have h2 := wts_tot n.ws
    unfold wtNs totNs at *
    simp only [List.map_cons, List.sum_cons, wtN, totN] at *
    omega
/-- What ChainStable answers. -/
def stableR (ns : List Nd) : List (Int × Int) := if chainB ns = true then (match ns[ns.length - 1]? with | some n => tagsR n.ss | none => []) else []
theorem stableR_yes {ns : List Nd} {p : Nat} {n : Nd} (h : chainB ns = true) (hp : ns.length = p + 1) (hn : ns[p]? = some n) : stableR ns = tagsR n.ss := by
  unfold stableR
  rw [h, if_pos rfl, hp, Nat.add_sub_cancel, hn]
theorem stableR_len (ns : List Nd) : (stableR ns).length ≤ 4 := by
  unfold stableR
  split
  · split
    · exact tagsR_len _
    · simp
  · simp
theorem stableR_like {ns us : List Nd} (h : NL ns us) : stableR ns = stableR us := by
  unfold stableR
  rw [chainB_like h, h.1]
  split
  · cases hx : ns[us.length - 1]? with
    | none => rw [nl_none h hx]
    | some n =>
      obtain ⟨n', hx', hl⟩ := nl_at h hx
      rw [hx']
      exact tagsR_like hl.1 hl.2.1
  · rfl
set_option maxHeartbeats 1000000 in
theorem tail_any (G c p : Nat) (ns : List Nd) (cur : Array Value) (nd : Nd) (w : World) (hp : p + 1 ≤ 1048576) (hC : Cg w G ns cur) (hx : ns[p]? = some nd) :
    Calls Tryz.prog 72 #[.agg #[.slice (some ⟨G, 0, none⟩) (p + 1) c]] w fun e w' => e = .returned (.agg #[.slice nd.sa nd.ss.length nd.sc, .slice nd.wa nd.ws.length nd.wc]) ∧ Below w.heap.size w w' := by
  have S0 := ((Inv.start w).box 32 #[.slice (some ⟨G, 0, none⟩) (p + 1) c]).box 90 #[.slice none 0 0, .slice none 0 0]
  simp only [World.size_alloc] at S0
  have HC := hC.on S0.below
  have n0 := (HC.blk.at (p * 2)).trans (HC.at' p nd hx).1
  have n1 := (HC.blk.at (p * 2 + 1)).trans (HC.at' p nd hx).2
  have e1 : ((p + 1 : Nat) : Int) - 1 = (p : Int) := by omega
  have i1 : (0 : Int) ≤ (p : Int) := by omega
  have i2 : (p : Int) < ((p + 1 : Nat) : Int) := by omega
  obtain ⟨sa, sc, ss, wa, wc, ws⟩ := nd
  simp only at n0 n1 ⊢
  have c0 := (S0.nth 1 rfl).one.1
  have HS := hide (((Inv.start w).box 32 #[.slice (some ⟨G, 0, none⟩) (p + 1) c]).box 90 #[.slice sa ss.length sc, .slice wa ws.length wc]).below
  clear hC HC hx S0
  go_enter Tryz.func72, Tryz.ntmps72
  go_wp2
  refine bodyPost_ret (v := .agg #[.slice sa ss.length sc, .slice wa ws.length wc]) (by simp [results, Tryz.results72, go_sem]) rfl ?_
  exact ⟨rfl, HS.out⟩
theorem field_store (a b : Value) (W : World) : (Instr.field 90 (.agg #[a, b]) 0).run Tryz.prog W = .ok (.agg #[a]) W := by kernel_rfl
set_option maxRecDepth 100000 in
set_option maxHeartbeats 2000000 in
theorem l3Stable_any (G c p : Nat) (ns : List Nd) (cur : Array Value) (nd : Nd) (w : World) (hp : p + 1 ≤ 1048576) (hC : Cg w G ns cur) (hx : ns[p]? = some nd) (hs : storeB nd.ss = true) :
    Calls Tryz.prog 95 #[.agg #[.slice (some ⟨G, 0, none⟩) (p + 1) c]] w (Answer w (tagsR nd.ss)) := by
  have S0 := ((Inv.start w).box 32 #[.slice (some ⟨G, 0, none⟩) (p + 1) c]).box 94 #[.slice none 0 0]
  simp only [World.size_alloc] at S0
  have HC := hC.on S0.below
  have n0 := (HC.blk.at (p * 2)).trans (HC.at' p nd hx).1
  have e1 : ((p + 1 : Nat) : Int) - 1 = (p : Int) := by omega
  have i1 : (0 : Int) ≤ (p : Int) := by omega
  have i2 : (p : Int) < ((p + 1 : Nat) : Int) := by omega
  have HE : Hid (tagsR nd.ss = tagsL nd.ss) := by unfold Hid tagsR; rw [hs]; rfl
  have H4 := hide (storeB_four hs)
  have CT := hide (l2Tags_any nd.sa nd.sc nd.ss _ H4.out (HC.store p nd hx))
  obtain ⟨sa, sc, ss, wa, wc, ws⟩ := nd
  simp only at n0 HE H4 CT ⊢
  rw [H4.out] at n0
  have c0 := (S0.nth 1 rfl).one.1
  clear hC HC hx hs
  go_enter Tryz.func95, Tryz.ntmps95
  go_wp2_with fail
  with_reducible refine CT.out.mono ?_
  rintro e w2 ⟨g, cap, T, cu, rfl, hg, hB, hsz, hcur, hb2⟩
  have S2 := S0.on hb2
  have q2 := (S2.nth 0 rfl).one
  have hr := S0.room
  have HCU := hide hcur
  clear S0 c0 n0 CT hcur
  go_wp2
  refine bodyPost_ret (v := .agg #[.slice (some ⟨g, 0, none⟩) 4 cap]) (by simp [results, Tryz.results95, go_sem, q2]) rfl ?_
  rw [HE.out]
  have hg' : w.heap.size + 1 + 1 ≤ g := by have h := hg; simp at h; omega
  exact answer_joined (by rw [tagsL_len]; exact H4.out) ⟨g, cap, T, cu, rfl, by omega, hB.aside (by simp; omega) _, hsz, HCU.out, S2.below.setCell (by simp) _⟩
end Go.Proofs.YtnaggcdhimcilaaGreat
/- Contracts of ChainJoin, of program and model. Condition: sizes that memory holds. -/
namespace Go.Proofs.YtnaggcdhimcilaaGreat
open Go.RowKit Go.Joins
attribute [local go_sem ↓] Go.wp_at_zero Go.wp_at_succ

theorem ResS.typed2 {w : World} {B U : Nat} {A : Option Addr} {us : List V} (h : ResS w B U A us) {g : Nat} (hg : FootS A us g) : ∃ T cs, Blk w g T cs ∧ T ≠ 32 := by
  obtain ⟨h0, G, rfl, hf⟩ := hg
  rcases h with h | ⟨G', cur, e, hO⟩
  · exact absurd h h0
  · injection e with e
    injection e with e
    subst e
    rcases hf with rfl | ⟨i, v, hi, hn, ha⟩
    · exact ⟨_, _, hO.blk, by decide⟩
    · rcases hO.own i v hi with q | ⟨g', c', e1, q1, q2, q3, _⟩
      · exact absurd q hn
      · rw [e1] at ha
        injection ha with ha
        injection ha with ha
        subst ha
        exact ⟨_, _, q3, by decide⟩
/-- A store into a variable that is a chain. -/
theorem GRow.asideT {base : Nat} {wr : World} {x : Value} {us : List Nd} (h : GRow base wr x us) {p : Addr} {cs : Array Value} (hb : Blk wr p.block 32 cs) (u : Value) : GRow base (wr.setCell p u) x us := by
  have hz : (wr.setCell p u).heap.size = wr.heap.size := by simp [World.setCell]
  have ht : Turn (fun g => g = p.block) wr (wr.setCell p u) := (Turn.refl (fun g => g = p.block) wr).set (p := p) rfl u
  have hk : ∀ {B U : Nat} {A : Option Addr} {l : List V}, ResS wr B U A l → ResS (wr.setCell p u) B U A l := fun hr => hr.turnF ht (fun y hf e => by
    obtain ⟨T, cs', h3, h4⟩ := hr.typed2 hf
    subst e
    exact h4 (blk_one h3 hb))
  refine ⟨⟨h.row.1, ?_⟩, fun i v hi => ?_, fun i v hi => ?_, h.two, h.apart, by rw [hz]; exact h.lo, fun i v hi => (h.own i v hi).turnedT ht (fun g e => by subst e; exact ⟨_, cs, hb, by decide, by decide⟩)⟩
  · rcases h.row.2 with h' | ⟨g, cap, cr, h1, h2, h3, h4⟩
    · exact .inl h'
    · refine .inr ⟨g, cap, cr, h1, h2, ?_, h4⟩
      exact Blk.aside (show Blk wr g 90 cr from h3) (fun e => by subst e; exact absurd (blk_one (show Blk wr p.block 90 cr from h3) hb) (by decide)) u
  · rw [hz]
    exact hk (h.store i v hi)
  · rw [hz]
    exact hk (h.wait i v hi)
/-- A node that comes: what the last one has, and nothing waits. -/
def bare (n : Nd) : Nd := ⟨n.sa, n.sc, n.ss, none, 0, []⟩
/-- What ChainJoin answers. -/
def joinN (ns : List Nd) : List Nd := if chainB ns = true then (if ns.length = 4 then ns else ns ++ (match ns[ns.length - 1]? with | some n => [bare n] | none => [])) else []
def joinK (ns : List Nd) : Bool := chainB ns && decide (ns.length < 4)
/-- An answer that is a chain, and whether it was done. -/
def AnswerCB (w : World) (rs : List Nd) (b : Bool) (e : Ending) (w' : World) : Prop :=
  ∃ (A : Option Addr) (cap : Nat) (us : List Nd), e = .returned (.tuple #[.agg #[.slice A rs.length cap], .bool b]) ∧ NL us rs ∧ ResN w' w.heap.size w'.heap.size A us ∧ Below w.heap.size w w'
theorem answerCB_none {w w' : World} {rs : List Nd} {b : Bool} (hr : rs = [] ∧ b = false) (hb : Below w.heap.size w w') : AnswerCB w rs b (.returned (.tuple #[.agg #[.slice none 0 0], .bool false])) w' := by
  obtain ⟨rfl, rfl⟩ := hr
  exact ⟨none, 0, [], rfl, ⟨rfl, fun i x y hx => by simp at hx⟩, .inl rfl, hb⟩
theorem answerCB_row {w w' : World} {rs us : List Nd} {b : Bool} {A : Option Addr} {m cap : Nat} (h : GRow w.heap.size w' (.slice A m cap) us) (hl : NL us rs) (hb : Below w.heap.size w w') : AnswerCB w rs b (.returned (.tuple #[.agg #[.slice A m cap], .bool b])) w' := by
  obtain ⟨e, hR⟩ := h.res
  exact ⟨A, cap, us, by rw [e, hl.1], hl, hR, hb⟩
end Go.Proofs.YtnaggcdhimcilaaGreat
/- Contract of the program's ChainJoin. Condition: sizes that memory holds. -/
namespace Go.Proofs.YtnaggcdhimcilaaGreat
open Go.RowKit Go.Joins
attribute [local go_sem ↓] Go.wp_at_zero Go.wp_at_succ

end Go.Proofs.YtnaggcdhimcilaaGreat
/- Contract of the model's ChainJoin. Condition: sizes that memory holds. -/
namespace Go.Proofs.YtnaggcdhimcilaaGreat
open Go.RowKit Go.Joins
attribute [local go_sem ↓] Go.wp_at_zero Go.wp_at_succ

end Go.Proofs.YtnaggcdhimcilaaGreat
/- Chains of valid nodes that a call answers: few marks; compared, marked, and the marks found again. -/
namespace Go.Proofs.YtnaggcdhimcilaaGreat
open Go.RowKit Go.Joins

/-- At most four nodes, each valid by itself. -/
def FineN (rs : List Nd) : Prop := rs.length ≤ 4 ∧ ∀ (i : Nat) n, rs[i]? = some n → nodeB n = true
theorem FineN.like {us rs : List Nd} (h : NL us rs) (hr : FineN rs) : FineN us := ⟨by rw [h.1]; exact hr.1, fun i n hi => by
  obtain ⟨m, hm, hl⟩ := nl_at h hi
  rw [nodeB_like hl]
  exact hr.2 i m hm⟩
theorem node_ts {n : Nd} (h : nodeB n = true) : (n.ss.length = 4 ∧ ∀ v ∈ n.ss, v.ts.length ≤ 4) ∧ n.ws.length ≤ 6 ∧ ∀ v ∈ n.ws, v.ts.length ≤ 4 := by
  obtain ⟨h1, h2, h3⟩ := nodeB_parts h
  exact ⟨⟨storeB_four h1, (few_store h1).2⟩, h2, fun v hv => Nat.le_of_eq (pastB_len4 (verB_parts (h3 v hv)).2.2.2)⟩
theorem FineN.small {rs : List Nd} (h : FineN rs) : SmallN rs := fun n hn => by
  obtain ⟨i, hi⟩ := List.getElem?_of_mem hn
  obtain ⟨⟨h1, h2⟩, h3, h4⟩ := node_ts (h.2 i n hi)
  exact ⟨by omega, by omega, fun v hv => by have := h2 v hv; omega, fun v hv => by have := h4 v hv; omega⟩
theorem wtN_fine {n : Nd} (h : nodeB n = true) : wtN n ≤ 130 := by
  obtain ⟨⟨h1, h2⟩, h3, h4⟩ := node_ts h
  have := few_wts n.ss h2
  have := few_wts n.ws h4
  unfold wtN
  omega
theorem wtNs_fine : ∀ (rs : List Nd), (∀ n ∈ rs, nodeB n = true) → wtNs rs ≤ 130 * (rs.length : Int)
  | [], _ => by simp [wtNs]
  | n :: r, h => by
    have h1 := wtNs_fine r (fun x hx => h x (List.mem_cons_of_mem _ hx))
    have h2 := wtN_fine (h n (List.mem_cons_self ..))
    unfold wtNs at *
    simp at *
    omega
theorem FineN.wt {rs : List Nd} (h : FineN rs) : wtNs rs ≤ 520 := by
  have := wtNs_fine rs (fun n hn => by obtain ⟨i, hi⟩ := List.getElem?_of_mem hn; exact h.2 i n hi)
  have := h.1
  omega
end Go.Proofs.YtnaggcdhimcilaaGreat
/- A version comes to a node: said plainly; and one node of a row of nodes changed in memory. No condition. -/
namespace Go.Proofs.YtnaggcdhimcilaaGreat
open Go.RowKit Go.Joins

/-- A node to which a version comes, if that is later: it waits to be passed on, unless the node is the last one. -/
def addNd (n : Nd) (last : Bool) (v : V) : Nd := match stepL n.ss v with | some ss' => ⟨n.sa, n.sc, ss', n.wa, n.wc, if last = true then n.ws else n.ws ++ [v]⟩ | none => n
def addN (ns : List Nd) (k : Nat) (v : V) : List Nd := match ns[k]? with | some n => ns.set k (addNd n (decide (k + 1 = ns.length)) v) | none => ns
theorem nl_set {us ns : List Nd} {k : Nat} {n m : Nd} (h : NL us ns) (hl : Nd.like n m) : NL (us.set k n) (ns.set k m) := by
  refine ⟨by rw [List.length_set, List.length_set]; exact h.1, fun i x y hx hy => ?_⟩
  by_cases e : i = k
  · subst e
    have h1 : i < us.length := by have := (List.getElem?_eq_some_iff.1 hx).1; rw [List.length_set] at this; exact this
    have h2 : i < ns.length := by have := h.1; omega
    rw [List.getElem?_set_self h1] at hx
    rw [List.getElem?_set_self h2] at hy
    injection hx with hx
    injection hy with hy
    rw [← hx, ← hy]
    exact hl
  · rw [List.getElem?_set_ne (Ne.symm e)] at hx hy
    exact h.2 i x y hx hy
theorem CRow.tagFoot {base : Nat} {w : World} {A : Option Addr} {m c : Nat} {us : List V} (h : CRow base w (.slice A m c) us) {i : Nat} {v : V} (hi : us[i]? = some v) (hne : v.ts ≠ []) {g : Nat} (hg : v.a = some ⟨g, 0, none⟩) : FootS A us g := by
  have h0 : us ≠ [] := fun e => by rw [e] at hi; simp at hi
  rcases h.row.2 with ⟨_, e⟩ | ⟨G, cap, cr, e, _⟩
  · exact absurd (List.length_eq_zero_iff.1 e) h0
  · injection e with e _ _
    exact ⟨h0, G, e, .inr ⟨i, v, hi, hne, hg⟩⟩
/-- One node of a row of nodes is changed; what turns is its own, or the row's. -/
theorem GRow.set {P : Nat → Prop} {base : Nat} {wr w' : World} {x : Value} {us : List Nd} {k : Nat} {n n' : Nd} (h : GRow base wr x us) (hk : us[k]? = some n) (ht : Turn P wr w') (hrow : w'.ownsRow base 90 2 x us.length (flatN (us.set k n')))
    (hs : ResS w' base w'.heap.size n'.sa n'.ss) (hc : CRow base w' (.slice n'.wa n'.ws.length n'.wc) n'.ws) (h2 : ∀ g, FootS n'.sa n'.ss g → ¬ FootW n' g)
    (hP : ∀ g, P g → FootO n g ∨ x.ownBlock = some g) (hf : ∀ g, FootO n' g → FootO n g ∨ wr.heap.size ≤ g) : GRow base w' x (us.set k n') := by
  have hkl := (List.getElem?_eq_some_iff.1 hk).1
  have key : ∀ (i : Nat) y, (us.set k n')[i]? = some y → (i = k ∧ y = n') ∨ (i ≠ k ∧ us[i]? = some y) := by
    intro i y hy
    by_cases e : i = k
    · subst e
      rw [List.getElem?_set_self hkl] at hy
      injection hy with hy
      exact .inl ⟨rfl, hy.symm⟩
    · rw [List.getElem?_set_ne (fun e' => e e'.symm)] at hy
      exact .inr ⟨e, hy⟩
  have hno : ∀ (i : Nat) y, i ≠ k → us[i]? = some y → ∀ g, FootO y g → P g → x.ownBlock = some g := fun i y hne hy g hg hp => by
    rcases hP g hp with q | q
    · exact absurd q (h.apart i k y n hne hy hk g hg)
    · exact q
  have hkR : ∀ {B U : Nat} {A : Option Addr} {l : List V} {g : Nat}, ResS wr B U A l → FootS A l g → ¬ x.ownBlock = some g := fun hr hf e => by
    obtain ⟨cs, h1, _⟩ := h.typed _ e
    obtain ⟨T, cs', h3, h4, _⟩ := hr.typed hf
    exact h4 (blk_one h3 h1)
  refine ⟨by rw [List.length_set]; exact hrow, fun i y hy => ?_, fun i y hy => ?_, fun i y hy => ?_, fun i j y y' hne hy hy' => ?_, Nat.le_trans h.lo ht.size, fun i y hy => ?_⟩
  · rcases key i y hy with ⟨_, rfl⟩ | ⟨e, hq⟩
    · exact hs
    · exact ((h.store i y hq).turnF ht (fun g hg hp => hkR (h.store i y hq) hg (hno i y e hq g (.inl hg) hp))).wide ht.size
  · rcases key i y hy with ⟨_, rfl⟩ | ⟨e, hq⟩
    · obtain ⟨A, cap, e, hR⟩ := hc.resS
      injection e with e _ _
      rw [e]
      exact hR
    · exact ((h.wait i y hq).turnF ht (fun g hg hp => hkR (h.wait i y hq) hg (hno i y e hq g (.inr (.inl hg)) hp))).wide ht.size
  · rcases key i y hy with ⟨_, rfl⟩ | ⟨e, hq⟩
    · exact h2
    · exact h.two i y hq
  · intro g h3 h4
    rcases key i y hy with ⟨e1, rfl⟩ | ⟨e1, hq⟩ <;> rcases key j y' hy' with ⟨e2, rfl⟩ | ⟨e2, hq'⟩
    · omega
    · rcases hf g h3 with q | q
      · exact h.apart k j n y' (fun e => e2 e.symm) hk hq' g q h4
      · have := h.foot hq' h4; omega
    · rcases hf g h4 with q | q
      · exact h.apart k i n y (fun e => e1 e.symm) hk hq g q h3
      · have := h.foot hq h3; omega
    · exact h.apart i j y y' hne hq hq' g h3 h4
  · rcases key i y hy with ⟨_, rfl⟩ | ⟨e, hq⟩
    · exact hc
    · refine (h.own i y hq).turned ht (fun g hg hp => ?_) (fun l v hl g hg _ hne hp => ?_)
      · have e1 := hno i y e hq g (.inr (.inr hg)) hp
        obtain ⟨cs, b1, _⟩ := h.typed g e1
        obtain ⟨cs', b2, _⟩ := (h.own i y hq).typed g hg
        exact node_ne_ver (blk_one b1 b2)
      · have hft := (h.own i y hq).tagFoot hl hne hg
        exact hkR (h.wait i y hq) hft (hno i y e hq g (.inr (.inl hft)) hp)
end Go.Proofs.YtnaggcdhimcilaaGreat
/- What ChainPut answers, said plainly; contracts of whether there is room, in the program and in the model. -/
namespace Go.Proofs.YtnaggcdhimcilaaGreat
open Go.RowKit Go.Joins
attribute [local go_sem ↓] Go.wp_at_zero Go.wp_at_succ

/-- Whether there is room for one more at the head. -/
def roomB (ns : List Nd) : Bool := match ns[0]? with | some n => decide (n.ws.length < 6) | none => false
/-- What ChainPut answers. -/
def putN (ns : List Nd) (v : V) : List Nd := if chainB ns = true ∧ verV v = true then (if roomB ns = true then addN ns 0 v else ns) else []
def putK (ns : List Nd) (v : V) : Bool := chainB ns && verV v && roomB ns
end Go.Proofs.YtnaggcdhimcilaaGreat
/- One node of a row of nodes: a version put into its store, a version more that waits. No condition. -/
namespace Go.Proofs.YtnaggcdhimcilaaGreat
open Go.RowKit Go.Joins

theorem flatN_set2 : ∀ {us : List Nd} {k : Nat} {n n' : Nd} {u : Value}, us[k]? = some n → cellsN n' = (cellsN n).set 1 u → flatN (us.set k n') = (flatN us).set (k * 2 + 1) u
  | [], k, n, n', u, h, _ => by simp at h
  | x :: r, 0, n, n', u, h, hc => by
    simp at h
    subst h
    simp only [flatN, List.set_cons_zero, List.flatMap_cons, hc, Nat.zero_mul, Nat.zero_add]
    rw [List.set_append_left _ _ (by simp [cellsN])]
  | x :: r, k + 1, n, n', u, h, hc => by
    have ih := flatN_set2 (us := r) (k := k) (n := n) (n' := n') (u := u) (by simpa using h) hc
    have e : flatN (x :: r) = cellsN x ++ flatN r := by simp [flatN]
    have e' : flatN ((x :: r).set (k + 1) n') = cellsN x ++ flatN (r.set k n') := by simp [flatN]
    have l2 : (cellsN x).length = 2 := rfl
    rw [e, e', ih, List.set_append_right _ _ (by omega), l2]
    congr 2
    omega
end Go.Proofs.YtnaggcdhimcilaaGreat
/- The model lets a later version into a row: which one stands there then. Condition: a row of four, a key from 0 to 3. -/
namespace Go.Proofs.YtnaggcdhimcilaaGreat
open Go.RowKit Go.Joins
attribute [local go_sem ↓] Go.wp_at_zero Go.wp_at_succ

/-- What letting a later version in leaves: a copy of it in its place, the others as they were. -/
def PutL (w : World) (B G : Nat) (us : List V) (v : V) (kn : Nat) (x : Value) (e : Ending) (w' : World) : Prop :=
  ∃ (v' : V) (cur' : Array Value), e = .returned x ∧ V.like v' v ∧ Own1 w' w.heap.size w'.heap.size v' ∧ ORow w' B w'.heap.size G (us.set kn v') cur' ∧ Turn (fun g => g = G) w w'
end Go.Proofs.YtnaggcdhimcilaaGreat
/- Contract of the model's l3Add: a version comes to a node of a chain that is the caller's own. Condition: at most four nodes, the node valid. -/
namespace Go.Proofs.YtnaggcdhimcilaaGreat
open Go.RowKit Go.Joins
attribute [local go_sem ↓] Go.wp_at_zero Go.wp_at_succ

theorem Turn.mono {P Q : Nat → Prop} {w w' : World} (h : Turn P w w') (hq : ∀ g, P g → Q g) : Turn Q w w' := ⟨h.os, h.tape, h.output, h.size, fun k hk hn => h.block k hk (fun hp => hn (hq k hp))⟩
/-- Blocks that a version that comes may change: of versions or of nodes, from base on. -/
def TouchC (w : World) (base g : Nat) : Prop := base ≤ g ∧ ∃ cs, Blk w g 96 cs ∨ Blk w g 90 cs
/-- What l3Add leaves. -/
def AddedC (w : World) (base G xc : Nat) (us : List Nd) (k : Nat) (v : V) (e : Ending) (w' : World) : Prop :=
  ∃ us' : List Nd, e = .returned (.agg #[.slice (some ⟨G, 0, none⟩) us.length xc]) ∧ NL us' (addN us k v) ∧ GRow base w' (.slice (some ⟨G, 0, none⟩) us.length xc) us' ∧ Turn (TouchC w base) w w'
theorem nl_refl (us : List Nd) : NL us us := ⟨rfl, fun i x y hx hy => by rw [hx] at hy; injection hy with hy; subst hy; exact ⟨rfl, like_refl _, rfl, like_refl _⟩⟩
/-- A version with a key and causes as a valid one has; a node with room for such. -/
def shV (v : V) : Prop := (0 ≤ v.k ∧ v.k ≤ 3) ∧ v.ts.length = 4
def shN (n : Nd) : Prop := n.ss.length = 4 ∧ n.ws.length ≤ 6 ∧ ∀ v ∈ n.ws, shV v
end Go.Proofs.YtnaggcdhimcilaaGreat
/- Contract of the program's apply where the version is not later: nothing changes. Condition: at most four nodes, the node valid. -/
namespace Go.Proofs.YtnaggcdhimcilaaGreat
open Go.RowKit Go.Joins
attribute [local go_sem ↓] Go.wp_at_zero Go.wp_at_succ

/-- What apply leaves. -/
def AppliedC (w : World) (base G xc : Nat) (us : List Nd) (k : Nat) (v : V) (e : Ending) (w' : World) : Prop :=
  ∃ us' : List Nd, e = .returned (.tuple #[]) ∧ NL us' (addN us k v) ∧ GRow base w' (.slice (some ⟨G, 0, none⟩) us.length xc) us' ∧ Turn (TouchC w base) w w'
end Go.Proofs.YtnaggcdhimcilaaGreat
/- A copy of a version put into a row: its causes are new. No condition. -/
namespace Go.Proofs.YtnaggcdhimcilaaGreat
open Go.RowKit Go.Joins

end Go.Proofs.YtnaggcdhimcilaaGreat
/- Contract of the program's apply where the version is later: it comes into the store and, unless the node is the last, waits there. Condition: at most four nodes, the node valid. -/
namespace Go.Proofs.YtnaggcdhimcilaaGreat
open Go.RowKit Go.Joins
attribute [local go_sem ↓] Go.wp_at_zero Go.wp_at_succ

end Go.Proofs.YtnaggcdhimcilaaGreat
/- Contract of the program's ChainPut. Condition: sizes that memory holds. -/
namespace Go.Proofs.YtnaggcdhimcilaaGreat
open Go.RowKit Go.Joins
attribute [local go_sem ↓] Go.wp_at_zero Go.wp_at_succ

end Go.Proofs.YtnaggcdhimcilaaGreat
/- Contract of the model's ChainPut. Condition: sizes that memory holds. -/
namespace Go.Proofs.YtnaggcdhimcilaaGreat
open Go.RowKit Go.Joins
attribute [local go_sem ↓] Go.wp_at_zero Go.wp_at_succ

theorem ResN.set {w : World} {B U : Nat} {A : Option Addr} {us : List Nd} (h : ResN w B U A us) {p : Addr} (hp : p.block < B ∨ U ≤ p.block) (u : Value) : ResN (w.setCell p u) B U A us :=
  h.turn (P := fun g => g = p.block) ((Turn.refl (fun g => g = p.block) w).set (p := p) rfl u) (fun g h1 h2 e => by omega)
theorem ResN.swap {w : World} {B U : Nat} {A : Option Addr} {us : List Nd} {o o' : Obj} (h : ResN (w.alloc o) B U A us) (hU : U ≤ w.heap.size) : ResN (w.alloc o') B U A us := by
  have ht : Turn (fun g => g = w.heap.size) (w.alloc o) (w.alloc o') := ⟨rfl, rfl, rfl, by simp, fun k hk hn => by
    have hk' : k < w.heap.size := by simp at hk; omega
    rw [Below.heap_alloc w o' k hk', Below.heap_alloc w o k hk']⟩
  exact h.turn ht (fun g h1 h2 e => by omega)
theorem NRow.low {w : World} {B B' U G : Nat} {ns : List Nd} {cur : Array Value} (h : NRow w B U G ns cur) (hb : B' ≤ B) : NRow w B' U G ns cur :=
  ⟨h.blk, Nat.le_trans hb h.lo, h.hi, h.size, h.at', fun i n hi => (h.store i n hi).low hb, fun i n hi => (h.wait i n hi).low hb, h.two, h.apart⟩
theorem cloned_at {W w' : World} {ns : List Nd} {e : Ending} (h : ClonedC W ns e w') (hok : chainB ns = true) : ∃ (G xc : Nat) (us : List Nd), e = .returned (.agg #[.slice (some ⟨G, 0, none⟩) us.length xc]) ∧ NL us ns ∧ us.length ≤ 4 ∧ (∀ (i : Nat) n, us[i]? = some n → nodeB n = true) ∧ 1 ≤ us.length ∧ GRow W.heap.size w' (.slice (some ⟨G, 0, none⟩) us.length xc) us ∧ Below W.heap.size W w' := by
  obtain ⟨x, us, rfl, hul, hgr, hb⟩ := h
  obtain ⟨xa, xc, rfl⟩ := hgr.form
  have hcu : chainB us = true := (chainB_like hul).trans hok
  obtain ⟨⟨h1, h4⟩, hB, -⟩ := chainB_parts hcu
  obtain ⟨_, hR⟩ := hgr.res
  rcases hR with h0 | ⟨G, cur, rfl, hR⟩
  · rw [h0] at h1; simp at h1
  exact ⟨G, xc, us, rfl, hul, h4, hB, h1, hgr, hb⟩
end Go.Proofs.YtnaggcdhimcilaaGreat
/- What ChainPass answers, said plainly; what waits at a node replaced, in memory. No condition. -/
namespace Go.Proofs.YtnaggcdhimcilaaGreat
open Go.RowKit Go.Joins

/-- A node without the first that waits there. -/
def tailNd (n : Nd) : Nd := ⟨n.sa, n.sc, n.ss, n.wa, n.wc, n.ws.tail⟩
/-- Whether a node can pass something on. -/
def canB (ns : List Nd) (k : Nat) : Bool := match ns[k]?, ns[k + 1]? with | some n, some m => decide (0 < n.ws.length) && decide (m.ws.length < 6) | _, _ => false
/-- The first that waits at a node comes to the next one. -/
def goN (ns : List Nd) (k : Nat) : List Nd := match ns[k]? with | some n => (match n.ws with | v :: _ => addN (ns.set k (tailNd n)) (k + 1) v | [] => ns) | none => ns
/-- What ChainPass answers. -/
def passN (ns : List Nd) (k : Int) : List Nd := if chainB ns = true then (if 0 ≤ k ∧ canB ns k.toNat = true then goN ns k.toNat else ns) else []
def passK (ns : List Nd) (k : Int) : Bool := chainB ns && (decide (0 ≤ k) && canB ns k.toNat)
theorem Vg.tail {w : World} {B b off : Nat} {v : V} {r : List V} (h : Vg w B (some ⟨b, off, none⟩) (v :: r)) : Vg w B (some ⟨b, off + 6, none⟩) r := by
  rcases h with h | ⟨b', off', e, hb, hx⟩
  · cases h
  · injection e with e
    injection e with e1 e2
    subst e1 e2
    refine .inr ⟨b, off + 6, rfl, hb, fun i x hi => ?_⟩
    have := hx (i + 1) x (by simpa using hi)
    rw [show off + (i + 1) * 6 = off + 6 + i * 6 by omega] at this
    exact this
theorem CRow.footLo {base : Nat} {w : World} {A : Option Addr} {c : Nat} {us : List V} {sa : Option Addr} {sc : Nat} {ss : List V} {g : Nat} (h : CRow base w (.slice A us.length c) us) (hg : FootW ⟨sa, sc, ss, A, c, us⟩ g) : base ≤ g := by
  rcases hg with hf | e
  · obtain ⟨A', cap', e', hR⟩ := h.resS
    injection e' with e'
    subst e'
    obtain ⟨_, _, _, _, q, _⟩ := hR.typed hf
    exact q
  · obtain ⟨_, _, q, _⟩ := h.typed g e
    exact q
/-- What waits at a node is another row now: one of new blocks, or of what was the node's own. -/
theorem GRow.newWait {base : Nat} {wr w1 : World} {G xc k cap : Nat} {A : Option Addr} {us : List Nd} {n : Nd} {ws : List V} (h : GRow base wr (.slice (some ⟨G, 0, none⟩) us.length xc) us) (hk : us[k]? = some n) (hb : Below wr.heap.size wr w1)
    (hc : CRow base w1 (.slice A ws.length cap) ws) (hf : ∀ y, FootW ⟨n.sa, n.sc, n.ss, A, cap, ws⟩ y → FootW n y ∨ wr.heap.size ≤ y) :
    GRow base (w1.setCell ⟨G, k * 2 + 1, none⟩ (.slice A ws.length cap)) (.slice (some ⟨G, 0, none⟩) us.length xc) (us.set k ⟨n.sa, n.sc, n.ss, A, cap, ws⟩) := by
  have hT := (Turn.below (P := fun y => y = G) hb).set (p := ⟨G, k * 2 + 1, none⟩) rfl (.slice A ws.length cap)
  refine h.set hk hT ?_ ?_ ?_ (fun y h1 h2 => ?_) (fun y e => .inr (by rw [e]; rfl)) (fun y hy => ?_)
  · rw [flatN_set2 hk (u := .slice A ws.length cap) (by simp [cellsN])]
    refine ⟨by rw [List.length_set]; exact h.row.1, ?_⟩
    rcases h.row.2 with ⟨q, _⟩ | ⟨G', cap', cr, h1, h2, h3, h4, h5, h6, h7⟩
    · cases q
    · injection h1 with h1 _ h1'
      injection h1 with h1
      injection h1 with h1
      subst h1 h1'
      have B2 : Blk w1 G 90 cr := (show Blk wr G 90 cr from h3).on hb
      refine .inr ⟨G, xc, _, rfl, h2, B2.put (k * 2 + 1) _, h4, h5, by simpa using h6, ?_⟩
      rw [Array.toList_setIfInBounds, List.take_set, h7]
  · exact ((h.store k n hk).turnF hT (fun y hf hp => by
      obtain ⟨T, cs, b1, b2, _⟩ := (h.store k n hk).typed hf
      obtain ⟨cs', b3, _⟩ := h.typed G rfl
      subst hp
      exact b2 (blk_one b1 b3))).wide hT.size
  · exact hc.turnedT (P := fun y => y = G) ((Turn.refl (fun y => y = G) w1).set (p := ⟨G, k * 2 + 1, none⟩) rfl _) (fun y e => by
      obtain ⟨cs', b3, _⟩ := h.typed G rfl
      subst e
      exact ⟨_, cs', b3.on hb, node_ne_ver, node_ne_tag⟩)
  · rcases hf y h2 with q | q
    · exact h.two k n hk y h1 q
    · have := h.foot hk (g := y) (.inl h1)
      omega
  · rcases hy with hy | hy
    · exact .inl (.inl hy)
    · rcases hf y hy with q | q
      · exact .inl (.inr q)
      · exact .inr q
/-- A row without its first, laid anew: the causes stay where they are. -/
theorem CRow.tail {base : Nat} {wr w1 : World} {A : Option Addr} {m c : Nat} {x : Value} {v : V} {r : List V} (h : CRow base wr (.slice A m c) (v :: r)) (hb : Below wr.heap.size wr w1) (hrow : w1.ownsRow base 96 6 x r.length (flat6 r)) : CRow base w1 x r :=
  ⟨hrow, fun i y hi => ((h.own (i + 1) y (by simpa using hi)).on hb).wide hb.size, fun i j y y' hne hi hj => h.apart (i + 1) (j + 1) y y' (by omega) (by simpa using hi) (by simpa using hj), Nat.le_trans h.lo hb.size⟩
end Go.Proofs.YtnaggcdhimcilaaGreat
/- Contracts of the functions that compare vectors of tags, in the program and in the model. Condition: at most 1048576 tags. -/
namespace Go.Proofs.YtnaggcdhimcilaaGreat
open Go.RowKit Go.Joins
attribute [local go_sem ↓] Go.wp_at_zero Go.wp_at_succ

/-- Whether no tag of the first list is later than the other's at its place. -/
def withinB (ts us : List (Int × Int)) : Bool := (ts.zip us).all fun p => !lessB p.2.1 p.2.2 p.1.1 p.1.2
/-- Up to place k none is later. -/
def NoLater (ts us : List (Int × Int)) (k : Nat) : Prop := ∀ (j : Nat) (x y : Int × Int), j < k → ts[j]? = some x → us[j]? = some y → lessB y.1 y.2 x.1 x.2 = false
theorem noLater_zero (ts us : List (Int × Int)) : NoLater ts us 0 := fun j _ _ hj => absurd hj (by omega)
theorem noLater_step {ts us : List (Int × Int)} {k : Nat} {x y : Int × Int} (h : NoLater ts us k) (hx : ts[k]? = some x) (hy : us[k]? = some y) (hl : lessB y.1 y.2 x.1 x.2 = false) : NoLater ts us (k + 1) := by
  intro j x' y' hj hx' hy'
  by_cases e : j = k
  · subst e
    rw [hx] at hx'
    rw [hy] at hy'
    injection hx' with hx'
    injection hy' with hy'
    subst hx' hy'
    exact hl
  · exact h j x' y' (by omega) hx' hy'
theorem within_t {ts us : List (Int × Int)} (hl : ts.length = 4) (h : NoLater ts us 4) : withinB ts us = true := by
  unfold withinB
  rw [List.all_eq_true]
  intro p hp
  obtain ⟨j, hj⟩ := List.getElem?_of_mem hp
  rw [List.getElem?_zip_eq_some] at hj
  have hlt := (List.getElem?_eq_some_iff.1 hj.1).1
  have := h j p.1 p.2 (by omega) hj.1 hj.2
  simp [this]
theorem within_f {ts us : List (Int × Int)} {k : Nat} {x y : Int × Int} (hx : ts[k]? = some x) (hy : us[k]? = some y) (hl : lessB y.1 y.2 x.1 x.2 = true) : withinB ts us = false := by
  unfold withinB
  rw [List.all_eq_false]
  refine ⟨(x, y), List.mem_of_getElem? (i := k) ?_, by simp [hl]⟩
  rw [List.getElem?_zip_eq_some]
  exact ⟨hx, hy⟩

set_option maxRecDepth 100000 in
set_option maxHeartbeats 1000000 in
theorem l1Within_any (a a' : Option Addr) (c c' : Nat) (ts us : List (Int × Int)) (w : World) (h4 : ts.length = 4) (h4' : us.length = 4) (ht : Tg w w.heap.size a ts) (hu : Tg w w.heap.size a' us) :
    Calls Tryz.prog 96 #[.agg #[.slice a 4 c], .agg #[.slice a' 4 c']] w fun e w' => e = .returned (.bool (withinB ts us)) ∧ Below w.heap.size w w' := by
  have S0 := ((Inv.start w).box 94 #[.slice a 4 c]).box 94 #[.slice a' 4 c']
  simp only [World.size_alloc] at S0
  have H4 := hide h4
  have H4' := hide h4'
  clear h4 h4'
  go_enter Tryz.func96, Tryz.ntmps96
  go_wp2
  go_loopw [5] (fun i wr => ∃ k : Nat, k ≤ 4 ∧ i = .int .i64 (k : Int) ∧ NoLater ts us k ∧ Inv w (w.heap.size + 1 + 1) [(w.heap.size + 1, 94, #[.slice a' 4 c']), (w.heap.size, 94, #[.slice a 4 c])] wr) (fun i _ => 4 - (intOf i).toNat)
  case atStart => exact ⟨0, Nat.zero_le _, rfl, noLater_zero _ _, S0⟩
  case round =>
    obtain ⟨k, hk, rfl, hno, hI⟩ := hrel
    clear S0
    by_cases hlt : k < 4
    · rcases ht with h0 | ⟨b, off, rfl, hb, hx⟩
      · have := H4.out; subst h0; simp at this
      · rcases hu with h0 | ⟨b', off', rfl, hb', hx'⟩
        · have := H4'.out; subst h0; simp at this
        · have hkl : k < ts.length := by have := H4.out; omega
          have hkl' : k < us.length := by have := H4'.out; omega
          obtain ⟨hc0, hc1⟩ := hx k _ (List.getElem?_eq_getElem hkl)
          obtain ⟨hd0, hd1⟩ := hx' k _ (List.getElem?_eq_getElem hkl')
          have HX := hide (List.getElem?_eq_getElem hkl)
          have HY := hide (List.getElem?_eq_getElem hkl')
          generalize ts[k] = x at hc0 hc1 HX
          generalize us[k] = y at hd0 hd1 HY
          obtain ⟨x1, x2⟩ := x
          obtain ⟨y1, y2⟩ := y
          simp only at hc0 hc1 hd0 hd1
          have C0 := hide hc0
          have C1 := hide hc1
          have D0 := hide hd0
          have D1 := hide hd1
          clear hx hx' hc0 hc1 hd0 hd1
          have i1 : (0 : Int) ≤ (k : Int) := by omega
          have i2 : (k : Int) < 4 := by omega
          go_wp2_with fail
          refine wp_region_noPanic ?_
          refine wp_region_held_drew (S := (fun w' => w'.cell? ⟨b, off + k * 2, none⟩ = some (.int .i64 x1) ∧ w'.cell? ⟨b, off + k * 2 + 1, none⟩ = some (.int .i64 x2) ∧ w'.cell? ⟨b', off' + k * 2, none⟩ = some (.int .i64 y1) ∧ w'.cell? ⟨b', off' + k * 2 + 1, none⟩ = some (.int .i64 y2) ∧ w'.cell? ⟨w.heap.size, 0, none⟩ = some (.slice (some ⟨b, off, none⟩) 4 c) ∧ w'.cell? ⟨w.heap.size + 1, 0, none⟩ = some (.slice (some ⟨b', off', none⟩) 4 c') ∧ Inv w (w.heap.size + 1 + 1) [(w.heap.size + 1, 94, #[.slice (some ⟨b', off', none⟩) 4 c']), (w.heap.size, 94, #[.slice (some ⟨b, off, none⟩) 4 c])] w')) (by kernel_rfl) (by exact ⟨(hI.below.cell (p := ⟨b, off + k * 2, none⟩) hb).trans C0.out, (hI.below.cell (p := ⟨b, off + k * 2 + 1, none⟩) hb).trans C1.out, (hI.below.cell (p := ⟨b', off' + k * 2, none⟩) hb').trans D0.out, (hI.below.cell (p := ⟨b', off' + k * 2 + 1, none⟩) hb').trans D1.out, (hI.nth 1 rfl).at 0, (hI.nth 0 rfl).at 0, hI.drew⟩) (fun hHeld => ?_)
          refine mvR 0 (some 10) hHeld ?_
          refine mvR 1 (some 11) hHeld ?_
          refine mvR 2 (some 12) hHeld ?_
          refine mvR 3 (some 13) hHeld ?_
          refine mvR 4 (some 14) hHeld ?_
          refine mvR 5 (some 15) hHeld ?_
          refine mvR 6 (some 16) hHeld ?_
          refine mvR 7 (some 17) hHeld ?_
          refine mvR 8 (some 18) hHeld ?_
          refine mvR 9 (some 19) hHeld ?_
          refine take_one 10 (by kernel_rfl) rfl (fun K hK => ?_)
          go_simp
          (refine (l1Less_any _ _ _ _ _).mono ?_; rintro e w1 ⟨rfl, hb1⟩)
          try go_wp2_with fail
          refine hK.out _ _ (by exact ⟨((hHeld.2.2.2.2.2.2.on hb1).below.cell (p := ⟨b, off + k * 2, none⟩) hb).trans C0.out, ((hHeld.2.2.2.2.2.2.on hb1).below.cell (p := ⟨b, off + k * 2 + 1, none⟩) hb).trans C1.out, ((hHeld.2.2.2.2.2.2.on hb1).below.cell (p := ⟨b', off' + k * 2, none⟩) hb').trans D0.out, ((hHeld.2.2.2.2.2.2.on hb1).below.cell (p := ⟨b', off' + k * 2 + 1, none⟩) hb').trans D1.out, ((hHeld.2.2.2.2.2.2.on hb1).nth 1 rfl).at 0, ((hHeld.2.2.2.2.2.2.on hb1).nth 0 rfl).at 0, hHeld.2.2.2.2.2.2.on hb1⟩) (fun hHeld => ?_)
          clear hK K
          refine wpAnyH_done (by kernel_rfl) ?_ _
          refine NoPanic.normal ?_
          have hI2 := hHeld.2.2.2.2.2.2
          clear hHeld hI
          cases hl : lessB y1 y2 x1 x2
          · have HN := noLater_step hno HX.out HY.out hl
            clear hno hl
            go_wp2
            exact ⟨⟨k + 1, by omega, by go_num, HN, hI2⟩, by simp [intOf]; omega⟩
          · have hf := hide (within_f HX.out HY.out hl)
            clear hl hno
            go_wp2
            go_ret
            exact ⟨ret_bool hf.out.symm, hI2.below⟩
    · have hk4 : k = 4 := by omega
      subst hk4
      clear hlt
      have hf := hide (within_t H4.out hno)
      clear hno
      go_wp2
      go_ret
      exact ⟨ret_bool hf.out.symm, hI.below⟩

set_option maxRecDepth 100000 in
set_option maxHeartbeats 2000000 in
theorem within_any (x0 x1 x2 x3 y0 y1 y2 y3 : Int × Int) (w : World) :
    Calls Tryz.prog 158 #[.agg #[.int .i64 x0.1, .int .i64 x0.2, .int .i64 x1.1, .int .i64 x1.2, .int .i64 x2.1, .int .i64 x2.2, .int .i64 x3.1, .int .i64 x3.2], .agg #[.int .i64 y0.1, .int .i64 y0.2, .int .i64 y1.1, .int .i64 y1.2, .int .i64 y2.1, .int .i64 y2.2, .int .i64 y3.1, .int .i64 y3.2]] w fun e w' => e = .returned (.bool (withinB [x0, x1, x2, x3] [y0, y1, y2, y3])) ∧ Below w.heap.size w w' := by
  have S0 := ((Inv.start w).box 176 #[.int .i64 x0.1, .int .i64 x0.2, .int .i64 x1.1, .int .i64 x1.2, .int .i64 x2.1, .int .i64 x2.2, .int .i64 x3.1, .int .i64 x3.2]).box 176 #[.int .i64 y0.1, .int .i64 y0.2, .int .i64 y1.1, .int .i64 y1.2, .int .i64 y2.1, .int .i64 y2.2, .int .i64 y3.1, .int .i64 y3.2]
  simp only [World.size_alloc] at S0
  have S1 : Inv w ((w.alloc (.cells #[.int .i64 x0.1, .int .i64 x0.2, .int .i64 x1.1, .int .i64 x1.2, .int .i64 x2.1, .int .i64 x2.2, .int .i64 x3.1, .int .i64 x3.2] 176)).alloc (.cells #[.int .i64 y0.1, .int .i64 y0.2, .int .i64 y1.1, .int .i64 y1.2, .int .i64 y2.1, .int .i64 y2.2, .int .i64 y3.1, .int .i64 y3.2] 176)).heap.size [(w.heap.size + 1, 176, #[.int .i64 y0.1, .int .i64 y0.2, .int .i64 y1.1, .int .i64 y1.2, .int .i64 y2.1, .int .i64 y2.2, .int .i64 y3.1, .int .i64 y3.2])] ((w.alloc (.cells #[.int .i64 x0.1, .int .i64 x0.2, .int .i64 x1.1, .int .i64 x1.2, .int .i64 x2.1, .int .i64 x2.2, .int .i64 x3.1, .int .i64 x3.2] 176)).alloc (.cells #[.int .i64 y0.1, .int .i64 y0.2, .int .i64 y1.1, .int .i64 y1.2, .int .i64 y2.1, .int .i64 y2.2, .int .i64 y3.1, .int .i64 y3.2] 176)) := (S0.top).sub (by simp)
  clear S0
  have i0 : ∀ W : World, (Instr.index 174 (.agg #[.int .i64 x0.1, .int .i64 x0.2, .int .i64 x1.1, .int .i64 x1.2, .int .i64 x2.1, .int .i64 x2.2, .int .i64 x3.1, .int .i64 x3.2]) (.int .i64 0)).run Tryz.prog W = .ok (.agg #[.int .i64 x0.1, .int .i64 x0.2]) W := fun _ => by kernel_rfl
  have i1 : ∀ W : World, (Instr.index 174 (.agg #[.int .i64 x0.1, .int .i64 x0.2, .int .i64 x1.1, .int .i64 x1.2, .int .i64 x2.1, .int .i64 x2.2, .int .i64 x3.1, .int .i64 x3.2]) (.int .i64 1)).run Tryz.prog W = .ok (.agg #[.int .i64 x1.1, .int .i64 x1.2]) W := fun _ => by kernel_rfl
  have i2 : ∀ W : World, (Instr.index 174 (.agg #[.int .i64 x0.1, .int .i64 x0.2, .int .i64 x1.1, .int .i64 x1.2, .int .i64 x2.1, .int .i64 x2.2, .int .i64 x3.1, .int .i64 x3.2]) (.int .i64 2)).run Tryz.prog W = .ok (.agg #[.int .i64 x2.1, .int .i64 x2.2]) W := fun _ => by kernel_rfl
  have i3 : ∀ W : World, (Instr.index 174 (.agg #[.int .i64 x0.1, .int .i64 x0.2, .int .i64 x1.1, .int .i64 x1.2, .int .i64 x2.1, .int .i64 x2.2, .int .i64 x3.1, .int .i64 x3.2]) (.int .i64 3)).run Tryz.prog W = .ok (.agg #[.int .i64 x3.1, .int .i64 x3.2]) W := fun _ => by kernel_rfl
  go_enter Tryz.func158, Tryz.ntmps158
  go_wp2
  go_loopw [9] (fun i wr => ∃ k : Int, 0 ≤ k ∧ k ≤ 4 ∧ i = .int .i64 k ∧ Hid (NoLater [x0, x1, x2, x3] [y0, y1, y2, y3] k.toNat) ∧ Inv w wr.heap.size [(w.heap.size + 1, 176, #[.int .i64 y0.1, .int .i64 y0.2, .int .i64 y1.1, .int .i64 y1.2, .int .i64 y2.1, .int .i64 y2.2, .int .i64 y3.1, .int .i64 y3.2])] wr) (fun i _ => 4 - (intOf i).toNat)
  case atStart => exact ⟨0, by omega, by omega, rfl, noLater_zero _ _, S1⟩
  case round =>
    obtain ⟨k, hk0, hk, rfl, hno, hI⟩ := hrel
    clear S1
    have hcase : k = 0 ∨ k = 1 ∨ k = 2 ∨ k = 3 ∨ k = 4 := by omega
    rcases hcase with rfl | rfl | rfl | rfl | rfl
    · have V0 := (hI.top).box 91 #[.int .i64 x0.1, .int .i64 x0.2]
      simp only [World.size_alloc] at V0
      go_wp2_with fail
      generalize wr.alloc (.cells #[.int .i64 x0.1, .int .i64 x0.2] 91) = W at V0 ⊢
      refine wp_region_noPanic ?_
      refine wp_region_held_drew (S := (fun w' => w'.cell? ⟨wr.heap.size, 0, none⟩ = some (.int .i64 x0.1) ∧ w'.cell? ⟨wr.heap.size, 1, none⟩ = some (.int .i64 x0.2) ∧ w'.cell? ⟨w.heap.size + 1, 0, none⟩ = some (.int .i64 y0.1) ∧ w'.cell? ⟨w.heap.size + 1, 1, none⟩ = some (.int .i64 y0.2) ∧ Inv w (wr.heap.size + 1) [(wr.heap.size, 91, #[.int .i64 x0.1, .int .i64 x0.2]), (w.heap.size + 1, 176, #[.int .i64 y0.1, .int .i64 y0.2, .int .i64 y1.1, .int .i64 y1.2, .int .i64 y2.1, .int .i64 y2.2, .int .i64 y3.1, .int .i64 y3.2])] w')) (by kernel_rfl) (by exact ⟨(V0.nth 0 rfl).at 0, (V0.nth 0 rfl).at 1, (V0.nth 1 rfl).at 0, (V0.nth 1 rfl).at 1, V0.drew⟩) (fun hHeld => ?_)
      refine mvR 0 (some 13) hHeld ?_
      refine mvR 1 (some 14) hHeld ?_
      refine mvR 2 (some 15) hHeld ?_
      refine mvR 3 (some 16) hHeld ?_
      refine mvR 4 (some 17) hHeld ?_
      refine take_one 5 (by kernel_rfl) rfl (fun K hK => ?_)
      go_simp
      (refine (less_any _ _ _ _ _).mono ?_; rintro e w1 ⟨rfl, hb1⟩)
      try go_wp2_with fail
      refine hK.out _ _ (by exact ⟨((hHeld.2.2.2.2.on hb1).nth 0 rfl).at 0, ((hHeld.2.2.2.2.on hb1).nth 0 rfl).at 1, ((hHeld.2.2.2.2.on hb1).nth 1 rfl).at 0, ((hHeld.2.2.2.2.on hb1).nth 1 rfl).at 1, hHeld.2.2.2.2.on hb1⟩) (fun hHeld => ?_)
      clear hK K
      refine wpAnyH_done (by kernel_rfl) ?_ _
      refine NoPanic.normal ?_
      have hI2 : Inv w (wr.heap.size + 1) [(w.heap.size + 1, 176, #[.int .i64 y0.1, .int .i64 y0.2, .int .i64 y1.1, .int .i64 y1.2, .int .i64 y2.1, .int .i64 y2.2, .int .i64 y3.1, .int .i64 y3.2])] w1 := hHeld.2.2.2.2.sub (by simp)
      clear hHeld V0
      have hz := hI.base
      cases hl : lessB y0.1 y0.2 x0.1 x0.2
      · have HN : Hid (NoLater [x0, x1, x2, x3] [y0, y1, y2, y3] (1 : Int).toNat) := noLater_step (ts := [x0, x1, x2, x3]) (us := [y0, y1, y2, y3]) (k := 0) hno.out rfl rfl hl
        clear hno hl
        go_wp2
        exact ⟨⟨1, by omega, by omega, by go_num, HN, hI2.top⟩, by simp [intOf]⟩
      · have hf := hide (within_f (ts := [x0, x1, x2, x3]) (us := [y0, y1, y2, y3]) (k := 0) rfl rfl hl)
        clear hl hno
        go_wp2
        go_ret
        exact ⟨ret_bool hf.out.symm, hI2.below⟩
    · have V0 := (hI.top).box 91 #[.int .i64 x1.1, .int .i64 x1.2]
      simp only [World.size_alloc] at V0
      go_wp2_with fail
      generalize wr.alloc (.cells #[.int .i64 x1.1, .int .i64 x1.2] 91) = W at V0 ⊢
      refine wp_region_noPanic ?_
      refine wp_region_held_drew (S := (fun w' => w'.cell? ⟨wr.heap.size, 0, none⟩ = some (.int .i64 x1.1) ∧ w'.cell? ⟨wr.heap.size, 1, none⟩ = some (.int .i64 x1.2) ∧ w'.cell? ⟨w.heap.size + 1, 2, none⟩ = some (.int .i64 y1.1) ∧ w'.cell? ⟨w.heap.size + 1, 3, none⟩ = some (.int .i64 y1.2) ∧ Inv w (wr.heap.size + 1) [(wr.heap.size, 91, #[.int .i64 x1.1, .int .i64 x1.2]), (w.heap.size + 1, 176, #[.int .i64 y0.1, .int .i64 y0.2, .int .i64 y1.1, .int .i64 y1.2, .int .i64 y2.1, .int .i64 y2.2, .int .i64 y3.1, .int .i64 y3.2])] w')) (by kernel_rfl) (by exact ⟨(V0.nth 0 rfl).at 0, (V0.nth 0 rfl).at 1, (V0.nth 1 rfl).at 2, (V0.nth 1 rfl).at 3, V0.drew⟩) (fun hHeld => ?_)
      refine mvR 0 (some 13) hHeld ?_
      refine mvR 1 (some 14) hHeld ?_
      refine mvR 2 (some 15) hHeld ?_
      refine mvR 3 (some 16) hHeld ?_
      refine mvR 4 (some 17) hHeld ?_
      refine take_one 5 (by kernel_rfl) rfl (fun K hK => ?_)
      go_simp
      (refine (less_any _ _ _ _ _).mono ?_; rintro e w1 ⟨rfl, hb1⟩)
      try go_wp2_with fail
      refine hK.out _ _ (by exact ⟨((hHeld.2.2.2.2.on hb1).nth 0 rfl).at 0, ((hHeld.2.2.2.2.on hb1).nth 0 rfl).at 1, ((hHeld.2.2.2.2.on hb1).nth 1 rfl).at 2, ((hHeld.2.2.2.2.on hb1).nth 1 rfl).at 3, hHeld.2.2.2.2.on hb1⟩) (fun hHeld => ?_)
      clear hK K
      refine wpAnyH_done (by kernel_rfl) ?_ _
      refine NoPanic.normal ?_
      have hI2 : Inv w (wr.heap.size + 1) [(w.heap.size + 1, 176, #[.int .i64 y0.1, .int .i64 y0.2, .int .i64 y1.1, .int .i64 y1.2, .int .i64 y2.1, .int .i64 y2.2, .int .i64 y3.1, .int .i64 y3.2])] w1 := hHeld.2.2.2.2.sub (by simp)
      clear hHeld V0
      have hz := hI.base
      cases hl : lessB y1.1 y1.2 x1.1 x1.2
      · have HN : Hid (NoLater [x0, x1, x2, x3] [y0, y1, y2, y3] (2 : Int).toNat) := noLater_step (ts := [x0, x1, x2, x3]) (us := [y0, y1, y2, y3]) (k := 1) hno.out rfl rfl hl
        clear hno hl
        go_wp2
        exact ⟨⟨2, by omega, by omega, by go_num, HN, hI2.top⟩, by simp [intOf]⟩
      · have hf := hide (within_f (ts := [x0, x1, x2, x3]) (us := [y0, y1, y2, y3]) (k := 1) rfl rfl hl)
        clear hl hno
        go_wp2
        go_ret
        exact ⟨ret_bool hf.out.symm, hI2.below⟩
    · have V0 := (hI.top).box 91 #[.int .i64 x2.1, .int .i64 x2.2]
      simp only [World.size_alloc] at V0
      go_wp2_with fail
      generalize wr.alloc (.cells #[.int .i64 x2.1, .int .i64 x2.2] 91) = W at V0 ⊢
      refine wp_region_noPanic ?_
      refine wp_region_held_drew (S := (fun w' => w'.cell? ⟨wr.heap.size, 0, none⟩ = some (.int .i64 x2.1) ∧ w'.cell? ⟨wr.heap.size, 1, none⟩ = some (.int .i64 x2.2) ∧ w'.cell? ⟨w.heap.size + 1, 4, none⟩ = some (.int .i64 y2.1) ∧ w'.cell? ⟨w.heap.size + 1, 5, none⟩ = some (.int .i64 y2.2) ∧ Inv w (wr.heap.size + 1) [(wr.heap.size, 91, #[.int .i64 x2.1, .int .i64 x2.2]), (w.heap.size + 1, 176, #[.int .i64 y0.1, .int .i64 y0.2, .int .i64 y1.1, .int .i64 y1.2, .int .i64 y2.1, .int .i64 y2.2, .int .i64 y3.1, .int .i64 y3.2])] w')) (by kernel_rfl) (by exact ⟨(V0.nth 0 rfl).at 0, (V0.nth 0 rfl).at 1, (V0.nth 1 rfl).at 4, (V0.nth 1 rfl).at 5, V0.drew⟩) (fun hHeld => ?_)
      refine mvR 0 (some 13) hHeld ?_
      refine mvR 1 (some 14) hHeld ?_
      refine mvR 2 (some 15) hHeld ?_
      refine mvR 3 (some 16) hHeld ?_
      refine mvR 4 (some 17) hHeld ?_
      refine take_one 5 (by kernel_rfl) rfl (fun K hK => ?_)
      go_simp
      (refine (less_any _ _ _ _ _).mono ?_; rintro e w1 ⟨rfl, hb1⟩)
      try go_wp2_with fail
      refine hK.out _ _ (by exact ⟨((hHeld.2.2.2.2.on hb1).nth 0 rfl).at 0, ((hHeld.2.2.2.2.on hb1).nth 0 rfl).at 1, ((hHeld.2.2.2.2.on hb1).nth 1 rfl).at 4, ((hHeld.2.2.2.2.on hb1).nth 1 rfl).at 5, hHeld.2.2.2.2.on hb1⟩) (fun hHeld => ?_)
      clear hK K
      refine wpAnyH_done (by kernel_rfl) ?_ _
      refine NoPanic.normal ?_
      have hI2 : Inv w (wr.heap.size + 1) [(w.heap.size + 1, 176, #[.int .i64 y0.1, .int .i64 y0.2, .int .i64 y1.1, .int .i64 y1.2, .int .i64 y2.1, .int .i64 y2.2, .int .i64 y3.1, .int .i64 y3.2])] w1 := hHeld.2.2.2.2.sub (by simp)
      clear hHeld V0
      have hz := hI.base
      cases hl : lessB y2.1 y2.2 x2.1 x2.2
      · have HN : Hid (NoLater [x0, x1, x2, x3] [y0, y1, y2, y3] (3 : Int).toNat) := noLater_step (ts := [x0, x1, x2, x3]) (us := [y0, y1, y2, y3]) (k := 2) hno.out rfl rfl hl
        clear hno hl
        go_wp2
        exact ⟨⟨3, by omega, by omega, by go_num, HN, hI2.top⟩, by simp [intOf]⟩
      · have hf := hide (within_f (ts := [x0, x1, x2, x3]) (us := [y0, y1, y2, y3]) (k := 2) rfl rfl hl)
        clear hl hno
        go_wp2
        go_ret
        exact ⟨ret_bool hf.out.symm, hI2.below⟩
    · have V0 := (hI.top).box 91 #[.int .i64 x3.1, .int .i64 x3.2]
      simp only [World.size_alloc] at V0
      go_wp2_with fail
      generalize wr.alloc (.cells #[.int .i64 x3.1, .int .i64 x3.2] 91) = W at V0 ⊢
      refine wp_region_noPanic ?_
      refine wp_region_held_drew (S := (fun w' => w'.cell? ⟨wr.heap.size, 0, none⟩ = some (.int .i64 x3.1) ∧ w'.cell? ⟨wr.heap.size, 1, none⟩ = some (.int .i64 x3.2) ∧ w'.cell? ⟨w.heap.size + 1, 6, none⟩ = some (.int .i64 y3.1) ∧ w'.cell? ⟨w.heap.size + 1, 7, none⟩ = some (.int .i64 y3.2) ∧ Inv w (wr.heap.size + 1) [(wr.heap.size, 91, #[.int .i64 x3.1, .int .i64 x3.2]), (w.heap.size + 1, 176, #[.int .i64 y0.1, .int .i64 y0.2, .int .i64 y1.1, .int .i64 y1.2, .int .i64 y2.1, .int .i64 y2.2, .int .i64 y3.1, .int .i64 y3.2])] w')) (by kernel_rfl) (by exact ⟨(V0.nth 0 rfl).at 0, (V0.nth 0 rfl).at 1, (V0.nth 1 rfl).at 6, (V0.nth 1 rfl).at 7, V0.drew⟩) (fun hHeld => ?_)
      refine mvR 0 (some 13) hHeld ?_
      refine mvR 1 (some 14) hHeld ?_
      refine mvR 2 (some 15) hHeld ?_
      refine mvR 3 (some 16) hHeld ?_
      refine mvR 4 (some 17) hHeld ?_
      refine take_one 5 (by kernel_rfl) rfl (fun K hK => ?_)
      go_simp
      (refine (less_any _ _ _ _ _).mono ?_; rintro e w1 ⟨rfl, hb1⟩)
      try go_wp2_with fail
      refine hK.out _ _ (by exact ⟨((hHeld.2.2.2.2.on hb1).nth 0 rfl).at 0, ((hHeld.2.2.2.2.on hb1).nth 0 rfl).at 1, ((hHeld.2.2.2.2.on hb1).nth 1 rfl).at 6, ((hHeld.2.2.2.2.on hb1).nth 1 rfl).at 7, hHeld.2.2.2.2.on hb1⟩) (fun hHeld => ?_)
      clear hK K
      refine wpAnyH_done (by kernel_rfl) ?_ _
      refine NoPanic.normal ?_
      have hI2 : Inv w (wr.heap.size + 1) [(w.heap.size + 1, 176, #[.int .i64 y0.1, .int .i64 y0.2, .int .i64 y1.1, .int .i64 y1.2, .int .i64 y2.1, .int .i64 y2.2, .int .i64 y3.1, .int .i64 y3.2])] w1 := hHeld.2.2.2.2.sub (by simp)
      clear hHeld V0
      have hz := hI.base
      cases hl : lessB y3.1 y3.2 x3.1 x3.2
      · have HN : Hid (NoLater [x0, x1, x2, x3] [y0, y1, y2, y3] (4 : Int).toNat) := noLater_step (ts := [x0, x1, x2, x3]) (us := [y0, y1, y2, y3]) (k := 3) hno.out rfl rfl hl
        clear hno hl
        go_wp2
        exact ⟨⟨4, by omega, by omega, by go_num, HN, hI2.top⟩, by simp [intOf]⟩
      · have hf := hide (within_f (ts := [x0, x1, x2, x3]) (us := [y0, y1, y2, y3]) (k := 3) rfl rfl hl)
        clear hl hno
        go_wp2
        go_ret
        exact ⟨ret_bool hf.out.symm, hI2.below⟩
    · have hf := hide (within_t (ts := [x0, x1, x2, x3]) (us := [y0, y1, y2, y3]) rfl hno.out)
      clear hno
      go_wp2
      go_ret
      exact ⟨ret_bool hf.out.symm, hI.below⟩

/-- What PastWithin answers. -/
def pwB (ts us : List (Int × Int)) : Bool := pastB ts && pastB us && withinB ts us
theorem pwB_1 {ts us : List (Int × Int)} (h : pastB ts = false) : pwB ts us = false := by unfold pwB; simp [h]
theorem pwB_2 {ts us : List (Int × Int)} (h : pastB us = false) : pwB ts us = false := by unfold pwB; simp [h]
theorem pwB_3 {ts us : List (Int × Int)} (h : pastB ts = true) (h' : pastB us = true) : pwB ts us = withinB ts us := by unfold pwB; simp [h, h']

set_option maxHeartbeats 1000000 in
theorem implPastWithin_any (a a' : Option Addr) (c c' : Nat) (ts us : List (Int × Int)) (w : World) (hn : ts.length ≤ 1048576) (hn' : us.length ≤ 1048576) (ht : Tg w w.heap.size a ts) (hu : Tg w w.heap.size a' us) :
    Calls Tryz.prog 139 #[.agg #[.slice a ts.length c], .agg #[.slice a' us.length c']] w fun e w' => e = .returned (.bool (pwB ts us)) ∧ Below w.heap.size w w' := by
  have S0 := ((Inv.start w).box 94 #[.slice a ts.length c]).box 94 #[.slice a' us.length c']
  simp only [World.size_alloc] at S0
  go_enter Tryz.func139, Tryz.ntmps139
  go_wp2_with fail
  generalize (w.alloc (.cells #[.slice a ts.length c] 94)).alloc (.cells #[.slice a' us.length c'] 94) = W at S0 ⊢
  refine (vectorOf_any a c ts W hn ((ht.on S0.below).up S0.base)).mono ?_
  rintro e w1 ⟨h1, h2, hb1⟩
  cases hp : pastB ts
  · have he := h2 hp
    have hf := hide (pwB_1 (us := us) hp)
    subst he
    have S1 := ((S0.on hb1).top).box 176 zero8
    have k1 := (S1.nth 1 rfl).one.1
    clear h1 h2 hp S0
    go_wp2_with fail
    generalize w1.alloc (.cells zero8 176) = W1 at S1 k1 ⊢
    refine (vectorOf_any a' c' us W1 hn' ((hu.on S1.below).up S1.base)).mono ?_
    rintro e w2 ⟨h1, h2, hb2⟩
    have S2 := S1.on hb2
    clear k1 S1
    cases hq : pastB us
    · have he := h2 hq
      subst he
      clear h1 h2 hq
      go_wp2
      go_ret
      exact ⟨ret_bool hf.out.symm, (S2.alloc _).below⟩
    · have he := h1 hq
      obtain ⟨y0, y1, y2, y3, rfl⟩ := four_of hq
      rw [cells4_eq] at he
      subst he
      clear h1 h2 hq
      go_wp2
      go_ret
      exact ⟨ret_bool hf.out.symm, (S2.alloc _).below⟩
  · have he := h1 hp
    obtain ⟨x0, x1, x2, x3, rfl⟩ := four_of hp
    rw [cells4_eq] at he
    subst he
    have S1 := ((S0.on hb1).top).box 176 #[.int .i64 x0.1, .int .i64 x0.2, .int .i64 x1.1, .int .i64 x1.2, .int .i64 x2.1, .int .i64 x2.2, .int .i64 x3.1, .int .i64 x3.2]
    have k1 := (S1.nth 1 rfl).one.1
    clear h1 h2 S0
    go_wp2_with fail
    generalize w1.alloc (.cells #[.int .i64 x0.1, .int .i64 x0.2, .int .i64 x1.1, .int .i64 x1.2, .int .i64 x2.1, .int .i64 x2.2, .int .i64 x3.1, .int .i64 x3.2] 176) = W1 at S1 k1 ⊢
    refine (vectorOf_any a' c' us W1 hn' ((hu.on S1.below).up S1.base)).mono ?_
    rintro e w2 ⟨h1, h2, hb2⟩
    have S2 := S1.on hb2
    clear k1 S1
    cases hq : pastB us
    · have he := h2 hq
      have hf := hide (pwB_2 (ts := [x0, x1, x2, x3]) hq)
      subst he
      clear h1 h2 hq hp
      go_wp2
      go_ret
      exact ⟨ret_bool hf.out.symm, (S2.alloc _).below⟩
    · have he := h1 hq
      have hf := hide (pwB_3 hp hq)
      obtain ⟨y0, y1, y2, y3, rfl⟩ := four_of hq
      rw [cells4_eq] at he
      subst he
      have S3 := (S2.top).box 176 #[.int .i64 y0.1, .int .i64 y0.2, .int .i64 y1.1, .int .i64 y1.2, .int .i64 y2.1, .int .i64 y2.2, .int .i64 y3.1, .int .i64 y3.2]
      have E1 := (S3.nth 1 rfl).eight.1
      clear h1 h2 hq hp S2
      go_wp2_with fail
      generalize w2.alloc (.cells #[.int .i64 y0.1, .int .i64 y0.2, .int .i64 y1.1, .int .i64 y1.2, .int .i64 y2.1, .int .i64 y2.2, .int .i64 y3.1, .int .i64 y3.2] 176) = W2 at S3 E1 ⊢
      refine (within_any x0 x1 x2 x3 y0 y1 y2 y3 W2).mono ?_
      rintro e w3 ⟨rfl, hb3⟩
      have S4 := S3.on hb3
      clear S3 E1
      go_wp2
      go_ret
      exact ⟨ret_bool hf.out.symm, S4.below⟩
end Go.Proofs.YtnaggcdhimcilaaGreat
/- Plain facts on vectors: within, joined, the same. -/
namespace Go.Proofs.YtnaggcdhimcilaaGreat

end Go.Proofs.YtnaggcdhimcilaaGreat
/- Plain facts on vectors that are joined. -/
namespace Go.Proofs.YtnaggcdhimcilaaGreat

end Go.Proofs.YtnaggcdhimcilaaGreat
/- Plain facts on stores that are added to and joined. -/
namespace Go.Proofs.YtnaggcdhimcilaaGreat

/-- The later one of two versions. -/
def later (x y : V) : V := if lessB x.t x.u y.t y.u = true then y else x
theorem slot_tag {i : Nat} {v : V} (h : slotB i v = true) : okB v.t v.u = true := by
  cases hn : noneC v.k v.t v.u v.ts.length v.s v.g with
  | true =>
    unfold noneC at hn
    simp at hn
    rw [hn.1.1.1.2.1, hn.1.1.1.2.2]
    decide
  | false =>
    cases ho : okB v.t v.u with
    | true => rfl
    | false =>
      rw [slotB_bad hn (verB_f (.inr (.inr (.inl ho))))] at h
      cases h
theorem slot_own {i : Nat} {v : V} (h : slotB i v = true) (ht : 0 < v.t) : v.k = i := by
  have hn : noneC v.k v.t v.u v.ts.length v.s v.g = false := noneC_f (.inr (.inl (by omega)))
  apply Classical.byContradiction
  intro hk
  rw [slotB_key hn hk] at h
  cases h
theorem ver_key {v : V} (h : verV v = true) : 0 ≤ v.k ∧ v.k ≤ 3 := by
  apply Classical.byContradiction
  intro hn
  unfold verV at h
  rw [verB_f (.inl hn)] at h
  cases h
theorem past_tags {vs : List V} (hv : storeB vs = true) : pastB (tagsL vs) = true := by
  unfold pastB
  rw [decide_eq_true (by rw [tagsL_len]; exact storeB_four hv), Bool.true_and, List.all_eq_true]
  intro x hx
  unfold tagsL at hx
  rw [List.mem_map] at hx
  obtain ⟨v, hv', rfl⟩ := hx
  obtain ⟨i, hi⟩ := List.getElem?_of_mem hv'
  exact slot_tag (store_slot hv hi)
end Go.Proofs.YtnaggcdhimcilaaGreat
