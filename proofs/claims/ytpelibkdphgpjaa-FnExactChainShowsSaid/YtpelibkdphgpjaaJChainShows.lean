/- Contracts of ChainStable, of program and model. Condition: sizes that memory holds. -/
import Derived.Test.YtpelibkdphgpjaaJChainSpec3
import Derived.Test.YtpelibkdphgpjaaJChainCopy
import Derived.Test.YtpelibkdphgpjaaJStoreRes
namespace Go.Proofs.Ytpelibkdphgpjaa
open Go.RowKit Go.Joins
attribute [local go_sem ↓] Go.wp_at_zero Go.wp_at_succ

theorem tot_ll {us vs : List V} (h : LL us vs) : tot us = tot vs := by
  unfold tot
  congr 1
  apply List.ext_getElem?
  intro i
  rw [List.getElem?_map, List.getElem?_map]
  cases hx : us[i]? with
  | none => rw [ll_none h hx]
  | some v =>
    obtain ⟨v', hv', hl⟩ := ll_at h hx
    rw [hv']
    simp [hl.2.2.2.1, hl.2.2.2.2.1]
theorem totN_like {n m : Nd} (h : Nd.like n m) : totN n = totN m := by
  unfold totN
  rw [tot_ll (us := n.ss) (vs := m.ss) ⟨h.1, h.2.1⟩, tot_ll (us := n.ws) (vs := m.ws) ⟨h.2.2.1, h.2.2.2⟩, h.1, h.2.2.1]
theorem totNs_nl {us ns : List Nd} (h : NL us ns) : totNs us = totNs ns := by
  unfold totNs
  congr 1
  apply List.ext_getElem?
  intro i
  rw [List.getElem?_map, List.getElem?_map]
  cases hx : us[i]? with
  | none => rw [nl_none h hx]
  | some v =>
    obtain ⟨v', hv', hl⟩ := nl_at h hx
    rw [hv']
    simp [totN_like hl]
theorem wtNs_tot (ns : List Nd) : wtNs ns ≤ 5 * (totNs ns : Int) := by
  induction ns with
  | nil => simp [wtNs, totNs]
  | cons n r ih =>
    have h1 := wts_tot n.ss
    have h2 := wts_tot n.ws
    unfold wtNs totNs at *
    simp only [List.map_cons, List.sum_cons, wtN, totN] at *
    omega
/-- Marks of a copy are few. -/
theorem wtNs_few {us ns : List Nd} (h : NL us ns) (hs : ns.length + totNs ns ≤ 1048576) : (1 : Int) + wtNs us ≤ 8388000 ∧ 0 ≤ wtNs us := by
  have h1 := wtNs_tot us
  rw [totNs_nl h] at h1
  exact ⟨by omega, wtNs_pos us⟩
/-- A copy of a chain is marked. -/
theorem markChain_copy (B U g c : Nat) (us ns : List Nd) (cur : Array Value) (w : World) (hR : NRow w B U g us cur) (h : NL us ns) (hm : SmN ns) (hs : ns.length + totNs ns ≤ 1048576) :
    Calls Try.prog 27 #[.agg #[.slice (some ⟨g, 0, none⟩) ns.length c], .int .i64 1] w fun e w' => e = .returned (.int .i64 (1 + wtNs us)) ∧ Turn (fun g => B ≤ g ∧ g < U) w w' :=
  (markChain_any B U _ c ns.length us 1 w (.inr ⟨g, cur, rfl, hR⟩) h.1 (smN_small (smN_like h hm)) (by omega) (by omega) (wtNs_few h hs).1).mono fun e w' ⟨h1, _, h3⟩ => ⟨h1, h3⟩
/-- What ChainStable answers. -/
def stableR (ns : List Nd) : List (Int × Int) := if chainB ns = true then (match ns[ns.length - 1]? with | some n => tagsR n.ss | none => []) else []
theorem stableR_no {ns : List Nd} (h : chainB ns = false) : stableR ns = [] := by unfold stableR; rw [h]; rfl
theorem stableR_yes {ns : List Nd} {p : Nat} {n : Nd} (h : chainB ns = true) (hp : ns.length = p + 1) (hn : ns[p]? = some n) : stableR ns = tagsR n.ss := by
  unfold stableR
  rw [h, if_pos rfl, hp, Nat.add_sub_cancel, hn]
theorem stableR_len (ns : List Nd) : (stableR ns).length ≤ 4 := by
  unfold stableR
  split
  · split
    · exact tagsR_len _
    · simp
  · simp
theorem stableR_like {ns us : List Nd} (h : NL ns us) : stableR ns = stableR us := by
  unfold stableR
  rw [chainB_like h, h.1]
  split
  · cases hx : ns[us.length - 1]? with
    | none => rw [nl_none h hx]
    | some n =>
      obtain ⟨n', hx', hl⟩ := nl_at h hx
      rw [hx']
      exact tagsR_like hl.1 hl.2.1
  · rfl
set_option maxHeartbeats 1000000 in
theorem tail_any (G c p : Nat) (ns : List Nd) (cur : Array Value) (nd : Nd) (w : World) (hp : p + 1 ≤ 1048576) (hC : Cg w G ns cur) (hx : ns[p]? = some nd) :
    Calls Try.prog 52 #[.agg #[.slice (some ⟨G, 0, none⟩) (p + 1) c]] w fun e w' => e = .returned (.agg #[.slice nd.sa nd.ss.length nd.sc, .slice nd.wa nd.ws.length nd.wc]) ∧ Below w.heap.size w w' := by
  have S0 := ((Inv.start w).box 26 #[.slice (some ⟨G, 0, none⟩) (p + 1) c]).box 77 #[.slice none 0 0, .slice none 0 0]
  simp only [World.size_alloc] at S0
  have HC := hC.on S0.below
  have n0 := (HC.blk.at (p * 2)).trans (HC.at' p nd hx).1
  have n1 := (HC.blk.at (p * 2 + 1)).trans (HC.at' p nd hx).2
  have e1 : ((p + 1 : Nat) : Int) - 1 = (p : Int) := by omega
  have i1 : (0 : Int) ≤ (p : Int) := by omega
  have i2 : (p : Int) < ((p + 1 : Nat) : Int) := by omega
  obtain ⟨sa, sc, ss, wa, wc, ws⟩ := nd
  simp only at n0 n1 ⊢
  have c0 := (S0.nth 1 rfl).one.1
  have HS := hide (((Inv.start w).box 26 #[.slice (some ⟨G, 0, none⟩) (p + 1) c]).box 77 #[.slice sa ss.length sc, .slice wa ws.length wc]).below
  clear hC HC hx S0
  go_enter Try.func52, Try.ntmps52
  go_wp2
  refine bodyPost_ret (v := .agg #[.slice sa ss.length sc, .slice wa ws.length wc]) (by simp [results, Try.results52, go_sem]) rfl ?_
  exact ⟨rfl, HS.out⟩
theorem field_store (a b : Value) (W : World) : (Instr.field 77 (.agg #[a, b]) 0).run Try.prog W = .ok (.agg #[a]) W := by kernel_rfl
set_option maxRecDepth 100000 in
set_option maxHeartbeats 2000000 in
theorem implChainStable_any (A : Option Addr) (c : Nat) (ns : List Nd) (w : World) (hn : ns.length ≤ 1048576) (hm : SmN ns) (hC : CgA w A ns) :
    Calls Try.prog 16 #[.agg #[.slice A ns.length c]] w (Answer w (stableR ns)) := by
  have S0 := ((Inv.start w).box 26 #[.slice A ns.length c]).box 33 #[.slice none 0 0]
  simp only [World.size_alloc] at S0
  have C0 := hide (implChainOk_any A c ns ((w.alloc (.cells #[.slice A ns.length c] 26)).alloc (.cells #[.slice none 0 0] 33)) hn hm (hC.on S0.below))
  have k0 := (S0.nth 1 rfl).one.1
  have HM := hide hm
  have HC := hide hC
  clear hm hC
  cases ho : chainB ns
  · have HE := hide (stableR_no ho)
    rw [ho] at C0
    clear ho
    go_enter Try.func16, Try.ntmps16
    go_wp2_with fail
    with_reducible refine C0.out.mono ?_
    rintro e w1 ⟨rfl, hb1⟩
    have S1 := S0.on hb1
    have q1 := (S1.nth 0 rfl).one
    clear S0 C0 k0
    go_wp2
    refine bodyPost_ret (v := .agg #[.slice none 0 0]) (by simp [results, Try.results16, go_sem, q1]) rfl ?_
    exact answer_empty HE.out (S1.below.setCell (by simp) _)
  · obtain ⟨⟨h1, h4⟩, hB, _⟩ := chainB_parts ho
    obtain ⟨p, hp⟩ : ∃ p, ns.length = p + 1 := ⟨ns.length - 1, by omega⟩
    obtain ⟨nd, hnd⟩ : ∃ nd, ns[p]? = some nd := ⟨_, List.getElem?_eq_getElem (by omega)⟩
    have HE := hide (stableR_yes ho hp hnd)
    have HND := hide hnd
    rcases HC.out with h0 | ⟨G, cur, rfl, hG⟩
    · rw [h0] at h1; simp at h1
    have HG := hide hG
    have hp4 : p + 1 ≤ 4 := by omega
    rw [ho] at C0
    rw [hp] at C0 S0 k0 ⊢
    have HMN := hide (HM.out p nd hnd)
    clear ho h1 h4 hB hp hnd hG hn HM HC
    go_enter Try.func16, Try.ntmps16
    go_wp2_with fail
    with_reducible refine C0.out.mono ?_
    rintro e w1 ⟨rfl, hb1⟩
    have S1 := S0.on hb1
    have k1 := (S1.nth 1 rfl).one.1
    clear S0 C0 k0
    go_wp2_with fail
    refine (tail_any G c p ns cur nd w1 (by omega) (HG.out.on S1.below) HND.out).mono ?_
    rintro e w2 ⟨rfl, hb2⟩
    have S2 := S1.on hb2
    have HV2 := hide (HG.out.on S2.below |>.store p nd HND.out)
    have zr := S2.room
    clear S1 k1
    obtain ⟨sa, sc, ss, wa, wc, ws⟩ := nd
    simp only at HV2 HE HMN
    have hfd := field_store (.slice sa ss.length sc) (.slice wa ws.length wc)
    go_wp2_with fail
    refine (implStoreTags_any sa sc ss w2 HMN.out.1.1 HMN.out.2.1 HV2.out).mono ?_
    rintro e w3 ⟨A3, cap3, rfl, R3, hb3⟩
    have S3 := S2.on hb3
    have q3 := (S3.nth 0 rfl).one
    have HR3 := hide R3
    clear S2 R3
    generalize tagsR ss = rs at HR3 HE ⊢
    go_wp2
    refine bodyPost_ret (v := .agg #[.slice A3 rs.length cap3]) (by simp [results, Try.results16, go_sem, q3]) rfl ?_
    rw [HE.out]
    refine ⟨A3, cap3, rfl, ?_, S3.below.setCell (by simp) _⟩
    have Z : (w3.setCell ⟨w.heap.size + 1, 0, none⟩ (.slice A3 rs.length cap3)).heap.size = w3.heap.size := by simp [World.setCell]
    rw [Z]
    rcases HR3.out with h | ⟨g, T, cu, rfl, hB, hU, hb, hs, hc⟩
    · exact .inl h
    · exact .inr ⟨g, T, cu, rfl, by omega, hU, hb.aside (by simp; omega) _, hs, hc⟩
set_option maxRecDepth 100000 in
set_option maxHeartbeats 2000000 in
theorem l3Stable_any (G c p : Nat) (ns : List Nd) (cur : Array Value) (nd : Nd) (w : World) (hp : p + 1 ≤ 1048576) (hC : Cg w G ns cur) (hx : ns[p]? = some nd) (hs : storeB nd.ss = true) :
    Calls Try.prog 75 #[.agg #[.slice (some ⟨G, 0, none⟩) (p + 1) c]] w (Answer w (tagsR nd.ss)) := by
  have S0 := ((Inv.start w).box 26 #[.slice (some ⟨G, 0, none⟩) (p + 1) c]).box 33 #[.slice none 0 0]
  simp only [World.size_alloc] at S0
  have HC := hC.on S0.below
  have n0 := (HC.blk.at (p * 2)).trans (HC.at' p nd hx).1
  have e1 : ((p + 1 : Nat) : Int) - 1 = (p : Int) := by omega
  have i1 : (0 : Int) ≤ (p : Int) := by omega
  have i2 : (p : Int) < ((p + 1 : Nat) : Int) := by omega
  have HE : Hid (tagsR nd.ss = tagsL nd.ss) := by unfold Hid tagsR; rw [hs]; rfl
  have H4 := hide (storeB_four hs)
  have CT := hide (l2Tags_any nd.sa nd.sc nd.ss _ H4.out (HC.store p nd hx))
  obtain ⟨sa, sc, ss, wa, wc, ws⟩ := nd
  simp only at n0 HE H4 CT ⊢
  rw [H4.out] at n0
  have c0 := (S0.nth 1 rfl).one.1
  clear hC HC hx hs
  go_enter Try.func75, Try.ntmps75
  go_wp2_with fail
  with_reducible refine CT.out.mono ?_
  rintro e w2 ⟨g, cap, T, cu, rfl, hg, hB, hsz, hcur, hb2⟩
  have S2 := S0.on hb2
  have q2 := (S2.nth 0 rfl).one
  have hr := S0.room
  have HCU := hide hcur
  clear S0 c0 n0 CT hcur
  go_wp2
  refine bodyPost_ret (v := .agg #[.slice (some ⟨g, 0, none⟩) 4 cap]) (by simp [results, Try.results75, go_sem, q2]) rfl ?_
  rw [HE.out]
  have hg' : w.heap.size + 1 + 1 ≤ g := by have h := hg; simp at h; omega
  exact answer_joined (by rw [tagsL_len]; exact H4.out) ⟨g, cap, T, cu, rfl, by omega, hB.aside (by simp; omega) _, hsz, HCU.out, S2.below.setCell (by simp) _⟩
set_option maxRecDepth 100000 in
set_option maxHeartbeats 2000000 in
theorem specChainStable_any (A : Option Addr) (c : Nat) (ns : List Nd) (w : World) (hn : ns.length ≤ 1048576) (hm : SmN ns) (hC : CgA w A ns) :
    Calls Try.prog 32 #[.agg #[.slice A ns.length c]] w (Answer w (stableR ns)) := by
  have S0 := ((Inv.start w).box 26 #[.slice A ns.length c]).box 33 #[.slice none 0 0]
  simp only [World.size_alloc] at S0
  have C0 := hide (l3Ok_any A c ns ((w.alloc (.cells #[.slice A ns.length c] 26)).alloc (.cells #[.slice none 0 0] 33)) hn hm (hC.on S0.below))
  have k0 := (S0.nth 1 rfl).one.1
  have HC := hide hC
  clear hm hC
  cases ho : chainB ns
  · have HE := hide (stableR_no ho)
    rw [ho] at C0
    clear ho
    go_enter Try.func32, Try.ntmps32
    go_wp2_with fail
    with_reducible refine C0.out.mono ?_
    rintro e w1 ⟨rfl, hb1⟩
    have S1 := S0.on hb1
    have q1 := (S1.nth 0 rfl).one
    clear S0 C0 k0
    go_wp2
    refine bodyPost_ret (v := .agg #[.slice none 0 0]) (by simp [results, Try.results32, go_sem, q1]) rfl ?_
    exact answer_empty HE.out (S1.below.setCell (by simp) _)
  · obtain ⟨⟨h1, h4⟩, hB, _⟩ := chainB_parts ho
    obtain ⟨p, hp⟩ : ∃ p, ns.length = p + 1 := ⟨ns.length - 1, by omega⟩
    obtain ⟨nd, hnd⟩ : ∃ nd, ns[p]? = some nd := ⟨_, List.getElem?_eq_getElem (by omega)⟩
    have HE := hide (stableR_yes ho hp hnd)
    have HND := hide hnd
    have HSB := hide (nodeB_parts (hB p nd hnd)).1
    rcases HC.out with h0 | ⟨G, cur, rfl, hG⟩
    · rw [h0] at h1; simp at h1
    have HG := hide hG
    have hp4 : p + 1 ≤ 4 := by omega
    rw [ho] at C0
    rw [hp] at C0 S0 k0 ⊢
    clear ho h1 h4 hB hp hnd hG hn HC
    go_enter Try.func32, Try.ntmps32
    go_wp2_with fail
    with_reducible refine C0.out.mono ?_
    rintro e w1 ⟨rfl, hb1⟩
    have S1 := S0.on hb1
    have k1 := (S1.nth 1 rfl).one.1
    have zr := S1.room
    clear S0 C0 k0
    go_wp2_with fail
    refine (l3Stable_any G c p ns cur nd w1 (by omega) (HG.out.on S1.below) HND.out HSB.out).mono ?_
    rintro e w3 ⟨A3, cap3, rfl, R3, hb3⟩
    have S3 := S1.on hb3
    have q3 := (S3.nth 0 rfl).one
    have HR3 := hide R3
    clear S1 k1 R3
    generalize tagsR nd.ss = rs at HR3 HE ⊢
    go_wp2
    refine bodyPost_ret (v := .agg #[.slice A3 rs.length cap3]) (by simp [results, Try.results32, go_sem, q3]) rfl ?_
    rw [HE.out]
    refine ⟨A3, cap3, rfl, ?_, S3.below.setCell (by simp) _⟩
    have Z : (w3.setCell ⟨w.heap.size + 1, 0, none⟩ (.slice A3 rs.length cap3)).heap.size = w3.heap.size := by simp [World.setCell]
    rw [Z]
    rcases HR3.out with h | ⟨g, T, cu, rfl, hB, hU, hb, hs, hc⟩
    · exact .inl h
    · exact .inr ⟨g, T, cu, rfl, by omega, hU, hb.aside (by simp; omega) _, hs, hc⟩
end Go.Proofs.Ytpelibkdphgpjaa
/- Contracts of ChainShows, of program and model. Condition: sizes that memory holds. -/
namespace Go.Proofs.Ytpelibkdphgpjaa
open Go.RowKit Go.Joins
attribute [local go_sem ↓] Go.wp_at_zero Go.wp_at_succ

/-- What ChainShows answers. -/
def showsR (ns : List Nd) (k y : Int) : Option V :=
  if chainB ns = true ∧ (0 ≤ k ∧ k < ns.length) ∧ 0 ≤ y ∧ y < 4 then (match ns[(if k = 0 ∧ 1 < ns.length then 1 else k.toNat)]? with | some n => n.ss[y.toNat]? | none => none) else none
theorem showsR_no {ns : List Nd} {k y : Int} (h : ¬ (chainB ns = true ∧ (0 ≤ k ∧ k < ns.length) ∧ 0 ≤ y ∧ y < 4)) : showsR ns k y = none := by unfold showsR; rw [if_neg h]
theorem showsR_yes {ns : List Nd} {k : Int} {m yn : Nat} {n : Nd} {v : V} (hc : chainB ns = true) (hk : 0 ≤ k ∧ k < ns.length) (hy : yn < 4) (hm : (if k = 0 ∧ 1 < ns.length then 1 else k.toNat) = m) (hn : ns[m]? = some n) (hv : n.ss[yn]? = some v) : showsR ns k (yn : Int) = some v := by
  unfold showsR
  rw [if_pos ⟨hc, hk, by omega, by omega⟩, hm, hn]
  simpa using hv
theorem opt_like {ns us : List Nd} (h : NL ns us) (k y : Int) : (showsR ns k y = none ∧ showsR us k y = none) ∨ ∃ v v', showsR ns k y = some v ∧ showsR us k y = some v' ∧ V.like v v' := by
  unfold showsR
  rw [chainB_like h, h.1]
  split
  · generalize (if k = 0 ∧ 1 < us.length then 1 else k.toNat) = m
    cases hx : ns[m]? with
    | none => rw [nl_none h hx]; exact .inl ⟨rfl, rfl⟩
    | some n =>
      obtain ⟨n', hn', hl⟩ := nl_at h hx
      rw [hn']
      have hll : LL n.ss n'.ss := ⟨hl.1, hl.2.1⟩
      simp only
      cases hy : n.ss[y.toNat]? with
      | none => rw [ll_none hll hy]; exact .inl ⟨rfl, rfl⟩
      | some v =>
        obtain ⟨v', hv', hlv⟩ := ll_at hll hy
        rw [hv']
        exact .inr ⟨v, v', rfl, rfl, hlv⟩
  · exact .inl ⟨rfl, rfl⟩
/-- An answer that is a version, and whether there is one. -/
def AnswerV (w : World) (o : Option V) (e : Ending) (w' : World) : Prop :=
  ∃ v' : V, e = .returned (.tuple #[.agg (verC v'.k v'.t v'.u v'.a v'.ts.length v'.c v'.s v'.g), .bool o.isSome]) ∧ V.like v' (o.getD v0) ∧ Own1 w' w.heap.size w'.heap.size v' ∧ Below w.heap.size w w'
theorem answerV_like {w w' : World} {o o' : Option V} {e : Ending} (h : AnswerV w o e w') (hl : (o = none ∧ o' = none) ∨ ∃ v v', o = some v ∧ o' = some v' ∧ V.like v v') : AnswerV w o' e w' := by
  rcases hl with ⟨rfl, rfl⟩ | ⟨v, v', rfl, rfl, hl⟩
  · exact h
  · obtain ⟨x, he, h1, h2, h3⟩ := h
    exact ⟨x, he, vlike_trans h1 hl, h2, h3⟩
theorem answerV_none {w w' : World} {o : Option V} (ho : o = none) (hb : Below w.heap.size w w') : AnswerV w o (.returned (.tuple #[.agg (verC 0 0 0 none 0 0 ⟨#[]⟩ false), .bool false])) w' := by
  subst ho
  exact ⟨v0, rfl, vlike_refl _, .inl rfl, hb⟩
theorem own_set6 {w : World} {B g : Nat} {v : V} {T : TypeId} {cs : Array Value} {a b c d e f : Value} (h : Own1 w B w.heap.size v) (hb : Blk w g T cs) (hT : T ≠ 53 := by decide) :
    Own1 ((((((w.setCell ⟨g, 0, none⟩ a).setCell ⟨g, 1, none⟩ b).setCell ⟨g, 2, none⟩ c).setCell ⟨g, 3, none⟩ d).setCell ⟨g, 4, none⟩ e).setCell ⟨g, 5, none⟩ f) B ((((((w.setCell ⟨g, 0, none⟩ a).setCell ⟨g, 1, none⟩ b).setCell ⟨g, 2, none⟩ c).setCell ⟨g, 3, none⟩ d).setCell ⟨g, 4, none⟩ e).setCell ⟨g, 5, none⟩ f).heap.size v := by
  have ht : Turn (fun i => i = g) w ((((((w.setCell ⟨g, 0, none⟩ a).setCell ⟨g, 1, none⟩ b).setCell ⟨g, 2, none⟩ c).setCell ⟨g, 3, none⟩ d).setCell ⟨g, 4, none⟩ e).setCell ⟨g, 5, none⟩ f) :=
    ((((((Turn.refl (fun i => i = g) w).set (p := ⟨g, 0, none⟩) rfl _).set (p := ⟨g, 1, none⟩) rfl _).set (p := ⟨g, 2, none⟩) rfl _).set (p := ⟨g, 3, none⟩) rfl _).set (p := ⟨g, 4, none⟩) rfl _).set (p := ⟨g, 5, none⟩) rfl _
  rcases h with h | ⟨g', cur, h1, h2, h3, h4, h5, h6⟩
  · exact .inl h
  · exact .inr ⟨g', cur, h1, h2, Nat.lt_of_lt_of_le h3 ht.size, h4.turned ht (fun e => by subst e; exact hT (blk_one hb h4)), h5, h6⟩
set_option maxRecDepth 100000 in
set_option maxHeartbeats 400000 in
theorem implChainShows_any (A : Option Addr) (c : Nat) (ns : List Nd) (k y : Int) (w : World) (hn : ns.length ≤ 1048576) (hm : SmN ns) (hC : CgA w A ns) :
    Calls Try.prog 39 #[.agg #[.slice A ns.length c], .int .i64 k, .int .i64 y] w (AnswerV w (showsR ns k y)) := by
  have S0 := ((Inv.start w).box 26 #[.slice A ns.length c]).box 55 (verC 0 0 0 none 0 0 ⟨#[]⟩ false)
  simp only [World.size_alloc] at S0
  have C0 := hide (implChainOk_any A c ns ((w.alloc (.cells #[.slice A ns.length c] 26)).alloc (.cells (verC 0 0 0 none 0 0 ⟨#[]⟩ false) 55)) hn hm (hC.on S0.below))
  have k0 := (S0.nth 1 rfl).one.1
  have HM := hide hm
  have HC := hide hC
  clear hm hC
  cases ho : chainB ns
  · have HE := hide (showsR_no (ns := ns) (k := k) (y := y) (fun h => by rw [ho] at h; exact absurd h.1 (by decide)))
    rw [ho] at C0
    clear ho
    go_enter Try.func39, Try.ntmps39
    go_wp2_with fail
    with_reducible refine C0.out.mono ?_
    rintro e w1 ⟨rfl, hb1⟩
    have S1 := S0.on hb1
    have q1 := (S1.nth 0 rfl).six
    clear S0 C0 k0
    go_wp2
    refine bodyPost_ret (v := .tuple #[.agg (verC 0 0 0 none 0 0 ⟨#[]⟩ false), .bool false]) (by simp [results, Try.results39, go_sem, q1]) rfl ?_
    exact answerV_none HE.out (below_set6 S1.below (by omega) _ _ _ _ _ _)
  · have HOK := hide ho
    rw [ho] at C0
    obtain ⟨⟨h1, h4⟩, hB, _⟩ := chainB_parts ho
    have HB := hide hB
    clear ho hB
    by_cases hr : (0 ≤ k ∧ k < (ns.length : Int)) ∧ 0 ≤ y ∧ y < 4
    · obtain ⟨⟨r1, r2⟩, r3, r4⟩ := hr
      rcases HC.out with h0 | ⟨G, cur, rfl, hG⟩
      · rw [h0] at h1; simp at h1
      have HG := hide hG
      obtain ⟨m, hm⟩ : ∃ m : Nat, (if k = 0 ∧ 1 < ns.length then 1 else k.toNat) = m := ⟨_, rfl⟩
      have hml : m < ns.length := by
        rw [← hm]
        split <;> omega
      obtain ⟨nd, hnd⟩ : ∃ nd, ns[m]? = some nd := ⟨_, List.getElem?_eq_getElem hml⟩
      obtain ⟨yn, rfl⟩ := Int.eq_ofNat_of_zero_le r3
      have hs4 := storeB_four (nodeB_parts (HB.out m nd hnd)).1
      obtain ⟨v, hv⟩ : ∃ v, nd.ss[yn]? = some v := ⟨_, List.getElem?_eq_getElem (by omega)⟩
      have HE := hide (showsR_yes HOK.out ⟨r1, r2⟩ (by omega) hm hnd hv)
      have HN : Hid (∀ W, Below w.heap.size w W → W.cell? ⟨G, m * 2, none⟩ = some (.slice nd.sa 4 nd.sc)) := fun W hW => by
        have := ((HG.out.on hW).blk.at (m * 2)).trans (HG.out.at' m nd hnd).1
        rw [hs4] at this
        exact this
      have HVG := hide (HG.out.store m nd hnd)
      have HVL := hide ((HM.out m nd hnd).2.1 v (List.mem_of_getElem? hv)).1
      have HV := hide hv
      have S4 := hide hs4
      obtain ⟨sa, sc, ss, wa, wc, ws⟩ := nd
      simp only at HV S4 HN HVG
      rcases HVG.out with h0 | ⟨b, off, rfl, hb, hx⟩
      · have := S4.out; rw [h0] at this; simp at this
      obtain ⟨hS, hT⟩ := hx yn v HV.out
      have HS := hide hS
      have HT := hide hT
      clear hS hT hx hv hs4 hnd hG HVG HC HM HB
      obtain ⟨kn, rfl⟩ := Int.eq_ofNat_of_zero_le r1
      have hkl : kn < ns.length := by omega
      have j1 : ¬ ((kn : Int) < 0) := by omega
      have j2 : ¬ ((kn : Int) ≥ (ns.length : Int)) := by omega
      have j3 : ¬ ((yn : Int) < 0) := by omega
      have j4 : ¬ ((yn : Int) ≥ 4) := by omega
      have j5 : (yn : Int) < 4 := by omega
      have j6 : (0 : Int) ≤ (yn : Int) := by omega
      go_enter Try.func39, Try.ntmps39
      go_wp2_with fail
      with_reducible refine C0.out.mono ?_
      rintro e w1 ⟨rfl, hb1⟩
      have S1 := S0.on hb1
      have k1 := (S1.nth 1 rfl).one.1
      have n1 := HN.out _ S1.below
      have s1 := HS.out.keep hb fun _ hp => S1.below.cell hp
      have zr := S1.room
      clear S0 C0 k0
      by_cases hz : kn = 0
      · have l0 : ((kn : Int) == 0) = true := by rw [hz]; rfl
        by_cases hl : 1 < ns.length
        · obtain rfl : m = 1 := by rw [if_pos ⟨by omega, hl⟩] at hm; exact hm.symm
          have l1 : (ns.length : Int) > 1 := by omega
          have l2 : (1 : Int) < (ns.length : Int) := by omega
          clear hm hl hz
          go_wp2_with fail
          refine (clone_any v w1 HVL.out ((HT.out.on S1.below).up S1.base)).mono ?_
          rintro e w2 ⟨v', rfl, hlike, hown, hb2⟩
          have S2 := S1.on hb2
          have q2 := (S2.nth 0 rfl).six
          have HLI := hide hlike
          have HOW := hide hown
          clear S1 k1 n1 s1 hlike hown
          go_wp2
          refine bodyPost_ret (v := .tuple #[.agg (verC v'.k v'.t v'.u v'.a v'.ts.length v'.c v'.s v'.g), .bool true]) (by simp [results, Try.results39, go_sem, q2]) rfl ?_
          rw [HE.out]
          exact ⟨v', rfl, HLI.out, own_set6 (HOW.out.low (by omega)) (S2.nth 0 rfl), below_set6 S2.below (by omega) _ _ _ _ _ _⟩
        · obtain rfl : m = kn := by rw [if_neg (fun h => hl h.2)] at hm; omega
          have l1 : ¬ ((ns.length : Int) > 1) := by omega
          have l2 : (m : Int) < (ns.length : Int) := by omega
          have l3 : (0 : Int) ≤ (m : Int) := by omega
          clear hm hl hz
          go_wp2_with fail
          refine (clone_any v w1 HVL.out ((HT.out.on S1.below).up S1.base)).mono ?_
          rintro e w2 ⟨v', rfl, hlike, hown, hb2⟩
          have S2 := S1.on hb2
          have q2 := (S2.nth 0 rfl).six
          have HLI := hide hlike
          have HOW := hide hown
          clear S1 k1 n1 s1 hlike hown
          go_wp2
          refine bodyPost_ret (v := .tuple #[.agg (verC v'.k v'.t v'.u v'.a v'.ts.length v'.c v'.s v'.g), .bool true]) (by simp [results, Try.results39, go_sem, q2]) rfl ?_
          rw [HE.out]
          exact ⟨v', rfl, HLI.out, own_set6 (HOW.out.low (by omega)) (S2.nth 0 rfl), below_set6 S2.below (by omega) _ _ _ _ _ _⟩
      · obtain rfl : m = kn := by rw [if_neg (fun h => hz (by omega))] at hm; omega
        have l1 : ((m : Int) == 0) = false := by rw [beq_eq_false_iff_ne]; omega
        have l2 : (m : Int) < (ns.length : Int) := by omega
        have l3 : (0 : Int) ≤ (m : Int) := by omega
        clear hm hz
        go_wp2_with fail
        refine (clone_any v w1 HVL.out ((HT.out.on S1.below).up S1.base)).mono ?_
        rintro e w2 ⟨v', rfl, hlike, hown, hb2⟩
        have S2 := S1.on hb2
        have q2 := (S2.nth 0 rfl).six
        have HLI := hide hlike
        have HOW := hide hown
        clear S1 k1 n1 s1 hlike hown
        go_wp2
        refine bodyPost_ret (v := .tuple #[.agg (verC v'.k v'.t v'.u v'.a v'.ts.length v'.c v'.s v'.g), .bool true]) (by simp [results, Try.results39, go_sem, q2]) rfl ?_
        rw [HE.out]
        exact ⟨v', rfl, HLI.out, own_set6 (HOW.out.low (by omega)) (S2.nth 0 rfl), below_set6 S2.below (by omega) _ _ _ _ _ _⟩
    · have HE := hide (showsR_no (ns := ns) (k := k) (y := y) (fun h => hr h.2))
      have BADK : Hid (k < 0 ∨ k ≥ (ns.length : Int) ∨ y < 0 ∨ y ≥ 4) := by unfold Hid; omega
      go_enter Try.func39, Try.ntmps39
      go_wp2_with fail
      with_reducible refine C0.out.mono ?_
      rintro e w1 ⟨rfl, hb1⟩
      have S1 := S0.on hb1
      have q1 := (S1.nth 0 rfl).six
      have k1 := (S1.nth 1 rfl).one.1
      clear S0 C0 k0 hr
      by_cases c1 : k < 0
      · go_wp2
        refine bodyPost_ret (v := .tuple #[.agg (verC 0 0 0 none 0 0 ⟨#[]⟩ false), .bool false]) (by simp [results, Try.results39, go_sem, q1]) rfl ?_
        exact answerV_none HE.out (below_set6 S1.below (by omega) _ _ _ _ _ _)
      by_cases c2 : k ≥ (ns.length : Int)
      · go_wp2
        refine bodyPost_ret (v := .tuple #[.agg (verC 0 0 0 none 0 0 ⟨#[]⟩ false), .bool false]) (by simp [results, Try.results39, go_sem, q1]) rfl ?_
        exact answerV_none HE.out (below_set6 S1.below (by omega) _ _ _ _ _ _)
      by_cases c3 : y < 0
      · go_wp2
        refine bodyPost_ret (v := .tuple #[.agg (verC 0 0 0 none 0 0 ⟨#[]⟩ false), .bool false]) (by simp [results, Try.results39, go_sem, q1]) rfl ?_
        exact answerV_none HE.out (below_set6 S1.below (by omega) _ _ _ _ _ _)
      have c4 : y ≥ 4 := by have := BADK.out; omega
      · go_wp2
        refine bodyPost_ret (v := .tuple #[.agg (verC 0 0 0 none 0 0 ⟨#[]⟩ false), .bool false]) (by simp [results, Try.results39, go_sem, q1]) rfl ?_
        exact answerV_none HE.out (below_set6 S1.below (by omega) _ _ _ _ _ _)
set_option maxRecDepth 100000 in
set_option maxHeartbeats 400000 in
theorem l3Shows_any (G c m yn b off sc : Nat) (k : Int) (nl : Nat) (v : V) (w : World) (hnl : nl ≤ 4) (hk : 0 ≤ k ∧ k < (nl : Int)) (hm : (if k = 0 ∧ 1 < nl then 1 else k.toNat) = m) (hy : yn < 4) (hN : Hid (∀ W, Below w.heap.size w W → W.cell? ⟨G, m * 2, none⟩ = some (.slice (some ⟨b, off, none⟩) 4 sc))) (hb : b < w.heap.size) (HS : Hid (Six w b (off + yn * 6) v)) (hv : v.ts.length ≤ 1048576) (hT : Tg w w.heap.size v.a v.ts) :
    Calls Try.prog 81 #[.agg #[.slice (some ⟨G, 0, none⟩) nl c], .int .i64 k, .int .i64 (yn : Int)] w (Cloned w v) := by
  have S1 := ((Inv.start w).box 26 #[.slice (some ⟨G, 0, none⟩) nl c]).box 55 (verC 0 0 0 none 0 0 ⟨#[]⟩ false)
  simp only [World.size_alloc] at S1
  have HT := hide hT
  clear hT
  have j5 : (yn : Int) < 4 := by omega
  have j6 : (0 : Int) ≤ (yn : Int) := by omega
  obtain ⟨r1, r2⟩ := hk
  obtain ⟨kn, rfl⟩ := Int.eq_ofNat_of_zero_le r1
  have k1 := (S1.nth 1 rfl).one.1
  have n1 := hN.out _ S1.below
  have s1 := HS.out.keep hb fun _ hp => S1.below.cell hp
  have zr := S1.room
  have CL := hide (l2Copy_any v _ hv ((HT.out.on S1.below).up S1.base))
  by_cases hz : kn = 0
  · have l0 : ((kn : Int) == 0) = true := by rw [hz]; rfl
    by_cases hl : 1 < nl
    · obtain rfl : m = 1 := by rw [if_pos ⟨by omega, hl⟩] at hm; exact hm.symm
      have l1 : (nl : Int) > 1 := by omega
      have l2 : (1 : Int) < (nl : Int) := by omega
      clear hm hl hz
      go_enter Try.func81, Try.ntmps81
      go_wp2_with fail
      with_reducible refine CL.out.mono ?_
      rintro e w2 ⟨v', rfl, hlike, hown, hb2⟩
      have S2 := S1.on hb2
      have q2 := (S2.nth 0 rfl).six
      have HLI := hide hlike
      have HOW := hide hown
      clear S1 k1 n1 s1 hlike hown CL
      go_wp2
      refine bodyPost_ret (v := .agg (verC v'.k v'.t v'.u v'.a v'.ts.length v'.c v'.s v'.g)) (by simp [results, Try.results81, go_sem, q2]) rfl ?_
      exact ⟨v', rfl, HLI.out, own_set6 (HOW.out.low (by simp; omega)) (S2.nth 0 rfl), below_set6 S2.below (by omega) _ _ _ _ _ _⟩
    · obtain rfl : m = kn := by rw [if_neg (fun h => hl h.2)] at hm; omega
      have l1 : ¬ ((nl : Int) > 1) := by omega
      have l2 : (m : Int) < (nl : Int) := by omega
      have l3 : (0 : Int) ≤ (m : Int) := by omega
      clear hm hl hz
      go_enter Try.func81, Try.ntmps81
      go_wp2_with fail
      with_reducible refine CL.out.mono ?_
      rintro e w2 ⟨v', rfl, hlike, hown, hb2⟩
      have S2 := S1.on hb2
      have q2 := (S2.nth 0 rfl).six
      have HLI := hide hlike
      have HOW := hide hown
      clear S1 k1 n1 s1 hlike hown CL
      go_wp2
      refine bodyPost_ret (v := .agg (verC v'.k v'.t v'.u v'.a v'.ts.length v'.c v'.s v'.g)) (by simp [results, Try.results81, go_sem, q2]) rfl ?_
      exact ⟨v', rfl, HLI.out, own_set6 (HOW.out.low (by simp; omega)) (S2.nth 0 rfl), below_set6 S2.below (by omega) _ _ _ _ _ _⟩
  · obtain rfl : m = kn := by rw [if_neg (fun h => hz (by omega))] at hm; omega
    have l1 : ((m : Int) == 0) = false := by rw [beq_eq_false_iff_ne]; omega
    have l2 : (m : Int) < (nl : Int) := by omega
    have l3 : (0 : Int) ≤ (m : Int) := by omega
    clear hm hz
    go_enter Try.func81, Try.ntmps81
    go_wp2_with fail
    with_reducible refine CL.out.mono ?_
    rintro e w2 ⟨v', rfl, hlike, hown, hb2⟩
    have S2 := S1.on hb2
    have q2 := (S2.nth 0 rfl).six
    have HLI := hide hlike
    have HOW := hide hown
    clear S1 k1 n1 s1 hlike hown CL
    go_wp2
    refine bodyPost_ret (v := .agg (verC v'.k v'.t v'.u v'.a v'.ts.length v'.c v'.s v'.g)) (by simp [results, Try.results81, go_sem, q2]) rfl ?_
    exact ⟨v', rfl, HLI.out, own_set6 (HOW.out.low (by simp; omega)) (S2.nth 0 rfl), below_set6 S2.below (by omega) _ _ _ _ _ _⟩
set_option maxRecDepth 100000 in
set_option maxHeartbeats 400000 in
theorem specChainShows_any (A : Option Addr) (c : Nat) (ns : List Nd) (k y : Int) (w : World) (hn : ns.length ≤ 1048576) (hm : SmN ns) (hC : CgA w A ns) :
    Calls Try.prog 38 #[.agg #[.slice A ns.length c], .int .i64 k, .int .i64 y] w (AnswerV w (showsR ns k y)) := by
  have S0 := ((Inv.start w).box 26 #[.slice A ns.length c]).box 55 (verC 0 0 0 none 0 0 ⟨#[]⟩ false)
  simp only [World.size_alloc] at S0
  have C0 := hide (l3Ok_any A c ns ((w.alloc (.cells #[.slice A ns.length c] 26)).alloc (.cells (verC 0 0 0 none 0 0 ⟨#[]⟩ false) 55)) hn hm (hC.on S0.below))
  have k0 := (S0.nth 1 rfl).one.1
  have HM := hide hm
  have HC := hide hC
  clear hm hC
  cases ho : chainB ns
  · have HE := hide (showsR_no (ns := ns) (k := k) (y := y) (fun h => by rw [ho] at h; exact absurd h.1 (by decide)))
    rw [ho] at C0
    clear ho
    go_enter Try.func38, Try.ntmps38
    go_wp2_with fail
    with_reducible refine C0.out.mono ?_
    rintro e w1 ⟨rfl, hb1⟩
    have S1 := S0.on hb1
    have q1 := (S1.nth 0 rfl).six
    clear S0 C0 k0
    go_wp2
    refine bodyPost_ret (v := .tuple #[.agg (verC 0 0 0 none 0 0 ⟨#[]⟩ false), .bool false]) (by simp [results, Try.results38, go_sem, q1]) rfl ?_
    exact answerV_none HE.out (below_set6 S1.below (by omega) _ _ _ _ _ _)
  · have HOK := hide ho
    rw [ho] at C0
    obtain ⟨⟨h1, h4⟩, hB, _⟩ := chainB_parts ho
    have HB := hide hB
    clear ho hB
    by_cases hr : (0 ≤ k ∧ k < (ns.length : Int)) ∧ 0 ≤ y ∧ y < 4
    · obtain ⟨⟨r1, r2⟩, r3, r4⟩ := hr
      rcases HC.out with h0 | ⟨G, cur, rfl, hG⟩
      · rw [h0] at h1; simp at h1
      have HG := hide hG
      obtain ⟨m, hm⟩ : ∃ m : Nat, (if k = 0 ∧ 1 < ns.length then 1 else k.toNat) = m := ⟨_, rfl⟩
      have hml : m < ns.length := by
        rw [← hm]
        split <;> omega
      obtain ⟨nd, hnd⟩ : ∃ nd, ns[m]? = some nd := ⟨_, List.getElem?_eq_getElem hml⟩
      obtain ⟨yn, rfl⟩ := Int.eq_ofNat_of_zero_le r3
      have hs4 := storeB_four (nodeB_parts (HB.out m nd hnd)).1
      obtain ⟨v, hv⟩ : ∃ v, nd.ss[yn]? = some v := ⟨_, List.getElem?_eq_getElem (by omega)⟩
      have HE := hide (showsR_yes HOK.out ⟨r1, r2⟩ (by omega) hm hnd hv)
      have HN : Hid (∀ W, Below w.heap.size w W → W.cell? ⟨G, m * 2, none⟩ = some (.slice nd.sa 4 nd.sc)) := fun W hW => by
        have := ((HG.out.on hW).blk.at (m * 2)).trans (HG.out.at' m nd hnd).1
        rw [hs4] at this
        exact this
      have HVG := hide (HG.out.store m nd hnd)
      have HVL := hide ((HM.out m nd hnd).2.1 v (List.mem_of_getElem? hv)).1
      have HV := hide hv
      have S4 := hide hs4
      obtain ⟨sa, sc, ss, wa, wc, ws⟩ := nd
      simp only at HV S4 HN HVG
      rcases HVG.out with h0 | ⟨b, off, rfl, hb, hx⟩
      · have := S4.out; rw [h0] at this; simp at this
      obtain ⟨hS, hT⟩ := hx yn v HV.out
      have HS := hide hS
      have HT := hide hT
      clear hS hT hx hv hs4 hnd hG HVG HC HM HB
      obtain ⟨kn, rfl⟩ := Int.eq_ofNat_of_zero_le r1
      have hkl : kn < ns.length := by omega
      have j1 : ¬ ((kn : Int) < 0) := by omega
      have j2 : ¬ ((kn : Int) ≥ (ns.length : Int)) := by omega
      have j3 : ¬ ((yn : Int) < 0) := by omega
      have j4 : ¬ ((yn : Int) ≥ 4) := by omega
      have j5 : (yn : Int) < 4 := by omega
      have j6 : (0 : Int) ≤ (yn : Int) := by omega
      have d1 : decide ((0 : Int) ≤ (kn : Int) ∧ (kn : Int) ≤ (ns.length : Int) - 1) = true := decide_eq_true (by omega)
      have d2 : decide ((0 : Int) ≤ (yn : Int) ∧ (yn : Int) ≤ 3) = true := decide_eq_true (by omega)
      go_enter Try.func38, Try.ntmps38
      go_wp2_with fail
      with_reducible refine C0.out.mono ?_
      rintro e w1 ⟨rfl, hb1⟩
      have S1 := S0.on hb1
      have k1 := (S1.nth 1 rfl).one.1
      have zr := S1.room
      clear S0 C0 k0
      go_wp2_with fail
      refine (l1In_any (kn : Int) 0 ((ns.length : Int) - 1) w1).mono ?_
      rintro e w1' ⟨rfl, rfl⟩
      rw [d1]
      go_wp2_with fail
      refine (l1In_any (yn : Int) 0 3 w1).mono ?_
      rintro e w1' ⟨rfl, rfl⟩
      rw [d2]
      have CS := hide (l3Shows_any G c m yn b off sc (kn : Int) ns.length v w1 h4 ⟨r1, r2⟩ hm (by omega) (fun W hW => HN.out W (S1.below.trans (hW.mono S1.base))) (by have := S1.base; omega) (HS.out.keep hb fun _ hp => S1.below.cell hp) HVL.out ((HT.out.on S1.below).up S1.base))
      go_wp2_with fail
      with_reducible refine CS.out.mono ?_
      rintro e w2 ⟨v', rfl, hlike, hown, hb2⟩
      have S2 := S1.on hb2
      have q2 := (S2.nth 0 rfl).six
      have HLI := hide hlike
      have HOW := hide hown
      clear S1 k1 hlike hown CS
      go_wp2
      refine bodyPost_ret (v := .tuple #[.agg (verC v'.k v'.t v'.u v'.a v'.ts.length v'.c v'.s v'.g), .bool true]) (by simp [results, Try.results38, go_sem, q2]) rfl ?_
      rw [HE.out]
      exact ⟨v', rfl, HLI.out, own_set6 (HOW.out.low (by omega)) (S2.nth 0 rfl), below_set6 S2.below (by omega) _ _ _ _ _ _⟩
    · have HE := hide (showsR_no (ns := ns) (k := k) (y := y) (fun h => hr h.2))
      go_enter Try.func38, Try.ntmps38
      go_wp2_with fail
      with_reducible refine C0.out.mono ?_
      rintro e w1 ⟨rfl, hb1⟩
      have S1 := S0.on hb1
      have q1 := (S1.nth 0 rfl).six
      have k1 := (S1.nth 1 rfl).one.1
      clear S0 C0 k0
      go_wp2_with fail
      refine (l1In_any k 0 ((ns.length : Int) - 1) w1).mono ?_
      rintro e w1' ⟨rfl, rfl⟩
      by_cases c1 : (0 : Int) ≤ k ∧ k ≤ (ns.length : Int) - 1
      · rw [decide_eq_true c1]
        have d2 : decide ((0 : Int) ≤ y ∧ y ≤ 3) = false := decide_eq_false (by omega)
        clear hr c1
        go_wp2_with fail
        refine (l1In_any y 0 3 w1).mono ?_
        rintro e w1' ⟨rfl, rfl⟩
        rw [d2]
        go_wp2
        refine bodyPost_ret (v := .tuple #[.agg (verC 0 0 0 none 0 0 ⟨#[]⟩ false), .bool false]) (by simp [results, Try.results38, go_sem, q1]) rfl ?_
        exact answerV_none HE.out (below_set6 S1.below (by omega) _ _ _ _ _ _)
      · rw [decide_eq_false c1]
        clear hr c1
        go_wp2
        refine bodyPost_ret (v := .tuple #[.agg (verC 0 0 0 none 0 0 ⟨#[]⟩ false), .bool false]) (by simp [results, Try.results38, go_sem, q1]) rfl ?_
        exact answerV_none HE.out (below_set6 S1.below (by omega) _ _ _ _ _ _)
set_option maxHeartbeats 1000000 in
/-- A version that a call has made is marked: only its own block turns. -/
theorem markVer_own (v : V) (B U : Nat) (k : Int) (w : World) (hO : Own1 w B U v) (hn : v.ts.length ≤ 1048576) (hk0 : 0 ≤ k) (hk : k ≤ 1000000000) :
    Calls Try.prog 28 #[.agg (verC v.k v.t v.u v.a v.ts.length v.c v.s v.g), .int .i64 k] w fun e w' => e = .returned (.int .i64 (k + 2 * (v.ts.length : Int))) ∧ Own1 w' B U ⟨v.k, v.t, v.u, v.a, v.c, marksL k v.ts.length, v.s, v.g⟩ ∧ Turn (fun g => B ≤ g ∧ g < U) w w' := by
  have L0 := below_alloc1 w (.cells (verC v.k v.t v.u v.a v.ts.length v.c v.s v.g) 55)
  obtain ⟨vk, vt, vu, va, vc, vts, vs, vg⟩ := v
  simp only at hn L0 ⊢
  by_cases h0 : vts = []
  · subst h0
    go_enter Try.func28, Try.ntmps28
    go_wp2_with fail
    refine (markPast_nil va vc k _).mono ?_
    rintro e w1 ⟨rfl, hb1⟩
    have HL := hide (L0.trans (hb1.mono L0.size))
    go_wp2
    go_ret
    exact ⟨ret_int (by simp), .inl rfl, .below HL.out⟩
  · rcases hO with h | ⟨g, cur, h1, h2, h3, h4, h5, _⟩
    · exact absurd h h0
    simp only at h1 h5
    subst h1
    go_enter Try.func28, Try.ntmps28
    go_wp2_with fail
    refine (markPast_any g vc vts.length 53 cur k _ (h4.on L0) h5 hn hk0 hk).mono ?_
    rintro e w1 ⟨rfl, hM, hG⟩
    have HT := hide ((Turn.below (P := fun i => i = g) L0).trans (.of hG (fun i e => by injection e with e; exact e.symm)))
    have HM := hide hM
    clear hG hM
    go_wp2
    go_ret
    obtain ⟨cur', hb', hs', hc'⟩ := HM.out
    exact ⟨rfl, .inr ⟨g, cur', rfl, h2, h3, hb', by simp only; rw [marksL_len, hs']; exact h5, hc'⟩, ⟨HT.out.os, HT.out.tape, HT.out.output, HT.out.size, fun i hi hn => HT.out.block i hi (fun e => hn (by subst e; exact ⟨h2, h3⟩))⟩⟩
set_option maxHeartbeats 1000000 in
theorem heldVer_own (v : V) (n : Nat) (k : Int) (w : World) (hv : v.ts = marksL k n) (hn : n ≤ 1048576) (hk0 : 0 ≤ k) (hk : k ≤ 1000000000) (hT : Tg w w.heap.size v.a v.ts) :
    Calls Try.prog 40 #[.agg (verC v.k v.t v.u v.a n v.c v.s v.g), .int .i64 k] w fun e w' => e = .returned (.int .i64 (k + 2 * (n : Int))) ∧ Below w.heap.size w w' := by
  have L0 := below_alloc1 w (.cells (verC v.k v.t v.u v.a n v.c v.s v.g) 55)
  have hp : ¬ (k + 2 * (n : Int) < 0) := by omega
  rw [hv] at hT
  have HT := hide ((hT.on L0).up L0.size)
  clear hT hv
  go_enter Try.func40, Try.ntmps40
  go_wp2_with fail
  refine (heldPast_any v.a v.c n k _ hn hk0 hk HT.out).mono ?_
  rintro e w1 ⟨rfl, hb1⟩
  have HL := hide (L0.trans (hb1.mono L0.size))
  go_wp2
  go_ret
  exact ⟨rfl, HL.out⟩
end Go.Proofs.Ytpelibkdphgpjaa
