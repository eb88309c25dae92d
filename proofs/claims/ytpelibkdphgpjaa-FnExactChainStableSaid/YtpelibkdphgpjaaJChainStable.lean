/- Contracts of ChainStable, of program and model. Condition: sizes that memory holds. -/
import Derived.Test.YtpelibkdphgpjaaJChainSpec3
import Derived.Test.YtpelibkdphgpjaaJChainCopy
import Derived.Test.YtpelibkdphgpjaaJStoreRes
namespace Go.Proofs.Ytpelibkdphgpjaa
open Go.RowKit Go.Joins
attribute [local go_sem ↓] Go.wp_at_zero Go.wp_at_succ

theorem tot_ll {us vs : List V} (h : LL us vs) : tot us = tot vs := by
  unfold tot
  congr 1
  apply List.ext_getElem?
  intro i
  rw [List.getElem?_map, List.getElem?_map]
  cases hx : us[i]? with
  | none => rw [ll_none h hx]
  | some v =>
    obtain ⟨v', hv', hl⟩ := ll_at h hx
    rw [hv']
    simp [hl.2.2.2.1, hl.2.2.2.2.1]
theorem totN_like {n m : Nd} (h : Nd.like n m) : totN n = totN m := by
  unfold totN
  rw [tot_ll (us := n.ss) (vs := m.ss) ⟨h.1, h.2.1⟩, tot_ll (us := n.ws) (vs := m.ws) ⟨h.2.2.1, h.2.2.2⟩, h.1, h.2.2.1]
theorem totNs_nl {us ns : List Nd} (h : NL us ns) : totNs us = totNs ns := by
  unfold totNs
  congr 1
  apply List.ext_getElem?
  intro i
  rw [List.getElem?_map, List.getElem?_map]
  cases hx : us[i]? with
  | none => rw [nl_none h hx]
  | some v =>
    obtain ⟨v', hv', hl⟩ := nl_at h hx
    rw [hv']
    simp [totN_like hl]
theorem wtNs_tot (ns : List Nd) : wtNs ns ≤ 5 * (totNs ns : Int) := by
  induction ns with
  | nil => simp [wtNs, totNs]
  | cons n r ih =>
    have h1 := wts_tot n.ss
    have h2 := wts_tot n.ws
    unfold wtNs totNs at *
    simp only [List.map_cons, List.sum_cons, wtN, totN] at *
    omega
/-- Marks of a copy are few. -/
theorem wtNs_few {us ns : List Nd} (h : NL us ns) (hs : ns.length + totNs ns ≤ 1048576) : (1 : Int) + wtNs us ≤ 8388000 ∧ 0 ≤ wtNs us := by
  have h1 := wtNs_tot us
  rw [totNs_nl h] at h1
  exact ⟨by omega, wtNs_pos us⟩
/-- A copy of a chain is marked. -/
theorem markChain_copy (B U g c : Nat) (us ns : List Nd) (cur : Array Value) (w : World) (hR : NRow w B U g us cur) (h : NL us ns) (hm : SmN ns) (hs : ns.length + totNs ns ≤ 1048576) :
    Calls Try.prog 27 #[.agg #[.slice (some ⟨g, 0, none⟩) ns.length c], .int .i64 1] w fun e w' => e = .returned (.int .i64 (1 + wtNs us)) ∧ Turn (fun g => B ≤ g ∧ g < U) w w' :=
  (markChain_any B U _ c ns.length us 1 w (.inr ⟨g, cur, rfl, hR⟩) h.1 (smN_small (smN_like h hm)) (by omega) (by omega) (wtNs_few h hs).1).mono fun e w' ⟨h1, _, h3⟩ => ⟨h1, h3⟩
/-- What ChainStable answers. -/
def stableR (ns : List Nd) : List (Int × Int) := if chainB ns = true then (match ns[ns.length - 1]? with | some n => tagsR n.ss | none => []) else []
theorem stableR_no {ns : List Nd} (h : chainB ns = false) : stableR ns = [] := by unfold stableR; rw [h]; rfl
theorem stableR_yes {ns : List Nd} {p : Nat} {n : Nd} (h : chainB ns = true) (hp : ns.length = p + 1) (hn : ns[p]? = some n) : stableR ns = tagsR n.ss := by
  unfold stableR
  rw [h, if_pos rfl, hp, Nat.add_sub_cancel, hn]
theorem stableR_len (ns : List Nd) : (stableR ns).length ≤ 4 := by
  unfold stableR
  split
  · split
    · exact tagsR_len _
    · simp
  · simp
theorem stableR_like {ns us : List Nd} (h : NL ns us) : stableR ns = stableR us := by
  unfold stableR
  rw [chainB_like h, h.1]
  split
  · cases hx : ns[us.length - 1]? with
    | none => rw [nl_none h hx]
    | some n =>
      obtain ⟨n', hx', hl⟩ := nl_at h hx
      rw [hx']
      exact tagsR_like hl.1 hl.2.1
  · rfl
set_option maxHeartbeats 1000000 in
theorem tail_any (G c p : Nat) (ns : List Nd) (cur : Array Value) (nd : Nd) (w : World) (hp : p + 1 ≤ 1048576) (hC : Cg w G ns cur) (hx : ns[p]? = some nd) :
    Calls Try.prog 52 #[.agg #[.slice (some ⟨G, 0, none⟩) (p + 1) c]] w fun e w' => e = .returned (.agg #[.slice nd.sa nd.ss.length nd.sc, .slice nd.wa nd.ws.length nd.wc]) ∧ Below w.heap.size w w' := by
  have S0 := ((Inv.start w).box 26 #[.slice (some ⟨G, 0, none⟩) (p + 1) c]).box 77 #[.slice none 0 0, .slice none 0 0]
  simp only [World.size_alloc] at S0
  have HC := hC.on S0.below
  have n0 := (HC.blk.at (p * 2)).trans (HC.at' p nd hx).1
  have n1 := (HC.blk.at (p * 2 + 1)).trans (HC.at' p nd hx).2
  have e1 : ((p + 1 : Nat) : Int) - 1 = (p : Int) := by omega
  have i1 : (0 : Int) ≤ (p : Int) := by omega
  have i2 : (p : Int) < ((p + 1 : Nat) : Int) := by omega
  obtain ⟨sa, sc, ss, wa, wc, ws⟩ := nd
  simp only at n0 n1 ⊢
  have c0 := (S0.nth 1 rfl).one.1
  have HS := hide (((Inv.start w).box 26 #[.slice (some ⟨G, 0, none⟩) (p + 1) c]).box 77 #[.slice sa ss.length sc, .slice wa ws.length wc]).below
  clear hC HC hx S0
  go_enter Try.func52, Try.ntmps52
  go_wp2
  refine bodyPost_ret (v := .agg #[.slice sa ss.length sc, .slice wa ws.length wc]) (by simp [results, Try.results52, go_sem]) rfl ?_
  exact ⟨rfl, HS.out⟩
theorem field_store (a b : Value) (W : World) : (Instr.field 77 (.agg #[a, b]) 0).run Try.prog W = .ok (.agg #[a]) W := by kernel_rfl
set_option maxRecDepth 100000 in
set_option maxHeartbeats 2000000 in
theorem implChainStable_any (A : Option Addr) (c : Nat) (ns : List Nd) (w : World) (hn : ns.length ≤ 1048576) (hm : SmN ns) (hC : CgA w A ns) :
    Calls Try.prog 16 #[.agg #[.slice A ns.length c]] w (Answer w (stableR ns)) := by
  have S0 := ((Inv.start w).box 26 #[.slice A ns.length c]).box 33 #[.slice none 0 0]
  simp only [World.size_alloc] at S0
  have C0 := hide (implChainOk_any A c ns ((w.alloc (.cells #[.slice A ns.length c] 26)).alloc (.cells #[.slice none 0 0] 33)) hn hm (hC.on S0.below))
  have k0 := (S0.nth 1 rfl).one.1
  have HM := hide hm
  have HC := hide hC
  clear hm hC
  cases ho : chainB ns
  · have HE := hide (stableR_no ho)
    rw [ho] at C0
    clear ho
    go_enter Try.func16, Try.ntmps16
    go_wp2_with fail
    with_reducible refine C0.out.mono ?_
    rintro e w1 ⟨rfl, hb1⟩
    have S1 := S0.on hb1
    have q1 := (S1.nth 0 rfl).one
    clear S0 C0 k0
    go_wp2
    refine bodyPost_ret (v := .agg #[.slice none 0 0]) (by simp [results, Try.results16, go_sem, q1]) rfl ?_
    exact answer_empty HE.out (S1.below.setCell (by simp) _)
  · obtain ⟨⟨h1, h4⟩, hB, _⟩ := chainB_parts ho
    obtain ⟨p, hp⟩ : ∃ p, ns.length = p + 1 := ⟨ns.length - 1, by omega⟩
    obtain ⟨nd, hnd⟩ : ∃ nd, ns[p]? = some nd := ⟨_, List.getElem?_eq_getElem (by omega)⟩
    have HE := hide (stableR_yes ho hp hnd)
    have HND := hide hnd
    rcases HC.out with h0 | ⟨G, cur, rfl, hG⟩
    · rw [h0] at h1; simp at h1
    have HG := hide hG
    have hp4 : p + 1 ≤ 4 := by omega
    rw [ho] at C0
    rw [hp] at C0 S0 k0 ⊢
    have HMN := hide (HM.out p nd hnd)
    clear ho h1 h4 hB hp hnd hG hn HM HC
    go_enter Try.func16, Try.ntmps16
    go_wp2_with fail
    with_reducible refine C0.out.mono ?_
    rintro e w1 ⟨rfl, hb1⟩
    have S1 := S0.on hb1
    have k1 := (S1.nth 1 rfl).one.1
    clear S0 C0 k0
    go_wp2_with fail
    refine (tail_any G c p ns cur nd w1 (by omega) (HG.out.on S1.below) HND.out).mono ?_
    rintro e w2 ⟨rfl, hb2⟩
    have S2 := S1.on hb2
    have HV2 := hide (HG.out.on S2.below |>.store p nd HND.out)
    have zr := S2.room
    clear S1 k1
    obtain ⟨sa, sc, ss, wa, wc, ws⟩ := nd
    simp only at HV2 HE HMN
    have hfd := field_store (.slice sa ss.length sc) (.slice wa ws.length wc)
    go_wp2_with fail
    refine (implStoreTags_any sa sc ss w2 HMN.out.1.1 HMN.out.2.1 HV2.out).mono ?_
    rintro e w3 ⟨A3, cap3, rfl, R3, hb3⟩
    have S3 := S2.on hb3
    have q3 := (S3.nth 0 rfl).one
    have HR3 := hide R3
    clear S2 R3
    generalize tagsR ss = rs at HR3 HE ⊢
    go_wp2
    refine bodyPost_ret (v := .agg #[.slice A3 rs.length cap3]) (by simp [results, Try.results16, go_sem, q3]) rfl ?_
    rw [HE.out]
    refine ⟨A3, cap3, rfl, ?_, S3.below.setCell (by simp) _⟩
    have Z : (w3.setCell ⟨w.heap.size + 1, 0, none⟩ (.slice A3 rs.length cap3)).heap.size = w3.heap.size := by simp [World.setCell]
    rw [Z]
    rcases HR3.out with h | ⟨g, T, cu, rfl, hB, hU, hb, hs, hc⟩
    · exact .inl h
    · exact .inr ⟨g, T, cu, rfl, by omega, hU, hb.aside (by simp; omega) _, hs, hc⟩
set_option maxRecDepth 100000 in
set_option maxHeartbeats 2000000 in
theorem l3Stable_any (G c p : Nat) (ns : List Nd) (cur : Array Value) (nd : Nd) (w : World) (hp : p + 1 ≤ 1048576) (hC : Cg w G ns cur) (hx : ns[p]? = some nd) (hs : storeB nd.ss = true) :
    Calls Try.prog 75 #[.agg #[.slice (some ⟨G, 0, none⟩) (p + 1) c]] w (Answer w (tagsR nd.ss)) := by
  have S0 := ((Inv.start w).box 26 #[.slice (some ⟨G, 0, none⟩) (p + 1) c]).box 33 #[.slice none 0 0]
  simp only [World.size_alloc] at S0
  have HC := hC.on S0.below
  have n0 := (HC.blk.at (p * 2)).trans (HC.at' p nd hx).1
  have e1 : ((p + 1 : Nat) : Int) - 1 = (p : Int) := by omega
  have i1 : (0 : Int) ≤ (p : Int) := by omega
  have i2 : (p : Int) < ((p + 1 : Nat) : Int) := by omega
  have HE : Hid (tagsR nd.ss = tagsL nd.ss) := by unfold Hid tagsR; rw [hs]; rfl
  have H4 := hide (storeB_four hs)
  have CT := hide (l2Tags_any nd.sa nd.sc nd.ss _ H4.out (HC.store p nd hx))
  obtain ⟨sa, sc, ss, wa, wc, ws⟩ := nd
  simp only at n0 HE H4 CT ⊢
  rw [H4.out] at n0
  have c0 := (S0.nth 1 rfl).one.1
  clear hC HC hx hs
  go_enter Try.func75, Try.ntmps75
  go_wp2_with fail
  with_reducible refine CT.out.mono ?_
  rintro e w2 ⟨g, cap, T, cu, rfl, hg, hB, hsz, hcur, hb2⟩
  have S2 := S0.on hb2
  have q2 := (S2.nth 0 rfl).one
  have hr := S0.room
  have HCU := hide hcur
  clear S0 c0 n0 CT hcur
  go_wp2
  refine bodyPost_ret (v := .agg #[.slice (some ⟨g, 0, none⟩) 4 cap]) (by simp [results, Try.results75, go_sem, q2]) rfl ?_
  rw [HE.out]
  have hg' : w.heap.size + 1 + 1 ≤ g := by have h := hg; simp at h; omega
  exact answer_joined (by rw [tagsL_len]; exact H4.out) ⟨g, cap, T, cu, rfl, by omega, hB.aside (by simp; omega) _, hsz, HCU.out, S2.below.setCell (by simp) _⟩
set_option maxRecDepth 100000 in
set_option maxHeartbeats 2000000 in
theorem specChainStable_any (A : Option Addr) (c : Nat) (ns : List Nd) (w : World) (hn : ns.length ≤ 1048576) (hm : SmN ns) (hC : CgA w A ns) :
    Calls Try.prog 32 #[.agg #[.slice A ns.length c]] w (Answer w (stableR ns)) := by
  have S0 := ((Inv.start w).box 26 #[.slice A ns.length c]).box 33 #[.slice none 0 0]
  simp only [World.size_alloc] at S0
  have C0 := hide (l3Ok_any A c ns ((w.alloc (.cells #[.slice A ns.length c] 26)).alloc (.cells #[.slice none 0 0] 33)) hn hm (hC.on S0.below))
  have k0 := (S0.nth 1 rfl).one.1
  have HC := hide hC
  clear hm hC
  cases ho : chainB ns
  · have HE := hide (stableR_no ho)
    rw [ho] at C0
    clear ho
    go_enter Try.func32, Try.ntmps32
    go_wp2_with fail
    with_reducible refine C0.out.mono ?_
    rintro e w1 ⟨rfl, hb1⟩
    have S1 := S0.on hb1
    have q1 := (S1.nth 0 rfl).one
    clear S0 C0 k0
    go_wp2
    refine bodyPost_ret (v := .agg #[.slice none 0 0]) (by simp [results, Try.results32, go_sem, q1]) rfl ?_
    exact answer_empty HE.out (S1.below.setCell (by simp) _)
  · obtain ⟨⟨h1, h4⟩, hB, _⟩ := chainB_parts ho
    obtain ⟨p, hp⟩ : ∃ p, ns.length = p + 1 := ⟨ns.length - 1, by omega⟩
    obtain ⟨nd, hnd⟩ : ∃ nd, ns[p]? = some nd := ⟨_, List.getElem?_eq_getElem (by omega)⟩
    have HE := hide (stableR_yes ho hp hnd)
    have HND := hide hnd
    have HSB := hide (nodeB_parts (hB p nd hnd)).1
    rcases HC.out with h0 | ⟨G, cur, rfl, hG⟩
    · rw [h0] at h1; simp at h1
    have HG := hide hG
    have hp4 : p + 1 ≤ 4 := by omega
    rw [ho] at C0
    rw [hp] at C0 S0 k0 ⊢
    clear ho h1 h4 hB hp hnd hG hn HC
    go_enter Try.func32, Try.ntmps32
    go_wp2_with fail
    with_reducible refine C0.out.mono ?_
    rintro e w1 ⟨rfl, hb1⟩
    have S1 := S0.on hb1
    have k1 := (S1.nth 1 rfl).one.1
    have zr := S1.room
    clear S0 C0 k0
    go_wp2_with fail
    refine (l3Stable_any G c p ns cur nd w1 (by omega) (HG.out.on S1.below) HND.out HSB.out).mono ?_
    rintro e w3 ⟨A3, cap3, rfl, R3, hb3⟩
    have S3 := S1.on hb3
    have q3 := (S3.nth 0 rfl).one
    have HR3 := hide R3
    clear S1 k1 R3
    generalize tagsR nd.ss = rs at HR3 HE ⊢
    go_wp2
    refine bodyPost_ret (v := .agg #[.slice A3 rs.length cap3]) (by simp [results, Try.results32, go_sem, q3]) rfl ?_
    rw [HE.out]
    refine ⟨A3, cap3, rfl, ?_, S3.below.setCell (by simp) _⟩
    have Z : (w3.setCell ⟨w.heap.size + 1, 0, none⟩ (.slice A3 rs.length cap3)).heap.size = w3.heap.size := by simp [World.setCell]
    rw [Z]
    rcases HR3.out with h | ⟨g, T, cu, rfl, hB, hU, hb, hs, hc⟩
    · exact .inl h
    · exact .inr ⟨g, T, cu, rfl, by omega, hU, hb.aside (by simp; omega) _, hs, hc⟩
end Go.Proofs.Ytpelibkdphgpjaa
