/- Contracts of ChainStable, of program and model. Condition: sizes that memory holds. -/
import Derived.Test.YtjnloillcgeodaaJChainSpec3
import Derived.Test.YtjnloillcgeodaaJChainRow
import Derived.Test.YtjnloillcgeodaaJStoreNew0
import Derived.Test.YtjnloillcgeodaaJChainClone2
namespace Go.Proofs.Ytjnloillcgeodaa
open Go.RowKit Go.Joins
attribute [local go_sem ↓] Go.wp_at_zero Go.wp_at_succ

theorem tot_ll {us vs : List V} (h : LL us vs) : tot us = tot vs := by
  unfold tot
  congr 1
  apply List.ext_getElem?
  intro i
  rw [List.getElem?_map, List.getElem?_map]
  cases hx : us[i]? with
  | none => rw [ll_none h hx]
  | some v =>
    obtain ⟨v', hv', hl⟩ := ll_at h hx
    rw [hv']
    simp [hl.2.2.2.1, hl.2.2.2.2.1]
theorem totN_like {n m : Nd} (h : Nd.like n m) : totN n = totN m := by
  unfold totN
  rw [tot_ll (us := n.ss) (vs := m.ss) ⟨h.1, h.2.1⟩, tot_ll (us := n.ws) (vs := m.ws) ⟨h.2.2.1, h.2.2.2⟩, h.1, h.2.2.1]
theorem totNs_nl {us ns : List Nd} (h : NL us ns) : totNs us = totNs ns := by
  unfold totNs
  congr 1
  apply List.ext_getElem?
  intro i
  rw [List.getElem?_map, List.getElem?_map]
  cases hx : us[i]? with
  | none => rw [nl_none h hx]
  | some v =>
    obtain ⟨v', hv', hl⟩ := nl_at h hx
    rw [hv']
    simp [totN_like hl]
theorem wtNs_tot (ns : List Nd) : wtNs ns ≤ 5 * (totNs ns : Int) := by
  induction ns with
  | nil => simp [wtNs, totNs]
  | cons n r ih =>
    have h1 := wts_tot n.ss
    have h2 := wts_tot n.ws
    unfold wtNs totNs at *
    simp only [List.map_cons, List.sum_cons, wtN, totN] at *
    omega
/-- Marks of a copy are few. -/
theorem wtNs_few {us ns : List Nd} (h : NL us ns) (hs : ns.length + totNs ns ≤ 1048576) : (1 : Int) + wtNs us ≤ 8388000 ∧ 0 ≤ wtNs us := by
  have h1 := wtNs_tot us
  rw [totNs_nl h] at h1
  exact ⟨by omega, wtNs_pos us⟩
/-- A copy of a chain is marked. -/
theorem markChain_copy (B U g c : Nat) (us ns : List Nd) (cur : Array Value) (w : World) (hR : NRow w B U g us cur) (h : NL us ns) (hm : SmN ns) (hs : ns.length + totNs ns ≤ 1048576) :
    Calls Try.prog 24 #[.agg #[.slice (some ⟨g, 0, none⟩) ns.length c], .int .i64 1] w fun e w' => e = .returned (.int .i64 (1 + wtNs us)) ∧ Turn (fun g => B ≤ g ∧ g < U) w w' :=
  (markChain_any B U _ c ns.length us 1 w (.inr ⟨g, cur, rfl, hR⟩) h.1 (smN_small (smN_like h hm)) (by omega) (by omega) (wtNs_few h hs).1).mono fun e w' ⟨h1, _, h3⟩ => ⟨h1, h3⟩
/-- What ChainStable answers. -/
def stableR (ns : List Nd) : List (Int × Int) := if chainB ns = true then (match ns[ns.length - 1]? with | some n => tagsR n.ss | none => []) else []
theorem stableR_no {ns : List Nd} (h : chainB ns = false) : stableR ns = [] := by unfold stableR; rw [h]; rfl
theorem stableR_yes {ns : List Nd} {p : Nat} {n : Nd} (h : chainB ns = true) (hp : ns.length = p + 1) (hn : ns[p]? = some n) : stableR ns = tagsR n.ss := by
  unfold stableR
  rw [h, if_pos rfl, hp, Nat.add_sub_cancel, hn]
theorem stableR_len (ns : List Nd) : (stableR ns).length ≤ 4 := by
  unfold stableR
  split
  · split
    · exact tagsR_len _
    · simp
  · simp
theorem stableR_like {ns us : List Nd} (h : NL ns us) : stableR ns = stableR us := by
  unfold stableR
  rw [chainB_like h, h.1]
  split
  · cases hx : ns[us.length - 1]? with
    | none => rw [nl_none h hx]
    | some n =>
      obtain ⟨n', hx', hl⟩ := nl_at h hx
      rw [hx']
      exact tagsR_like hl.1 hl.2.1
  · rfl
set_option maxHeartbeats 1000000 in
theorem tail_any (G c p : Nat) (ns : List Nd) (cur : Array Value) (nd : Nd) (w : World) (hp : p + 1 ≤ 1048576) (hC : Cg w G ns cur) (hx : ns[p]? = some nd) :
    Calls Try.prog 57 #[.agg #[.slice (some ⟨G, 0, none⟩) (p + 1) c]] w fun e w' => e = .returned (.agg #[.slice nd.sa nd.ss.length nd.sc, .slice nd.wa nd.ws.length nd.wc]) ∧ Below w.heap.size w w' := by
  have S0 := ((Inv.start w).box 25 #[.slice (some ⟨G, 0, none⟩) (p + 1) c]).box 45 #[.slice none 0 0, .slice none 0 0]
  simp only [World.size_alloc] at S0
  have HC := hC.on S0.below
  have n0 := (HC.blk.at (p * 2)).trans (HC.at' p nd hx).1
  have n1 := (HC.blk.at (p * 2 + 1)).trans (HC.at' p nd hx).2
  have e1 : ((p + 1 : Nat) : Int) - 1 = (p : Int) := by omega
  have i1 : (0 : Int) ≤ (p : Int) := by omega
  have i2 : (p : Int) < ((p + 1 : Nat) : Int) := by omega
  obtain ⟨sa, sc, ss, wa, wc, ws⟩ := nd
  simp only at n0 n1 ⊢
  have c0 := (S0.nth 1 rfl).one.1
  have HS := hide (((Inv.start w).box 25 #[.slice (some ⟨G, 0, none⟩) (p + 1) c]).box 45 #[.slice sa ss.length sc, .slice wa ws.length wc]).below
  clear hC HC hx S0
  go_enter Try.func57, Try.ntmps57
  go_wp2
  refine bodyPost_ret (v := .agg #[.slice sa ss.length sc, .slice wa ws.length wc]) (by simp [results, Try.results57, go_sem]) rfl ?_
  exact ⟨rfl, HS.out⟩
theorem field_store (a b : Value) (W : World) : (Instr.field 45 (.agg #[a, b]) 0).run Try.prog W = .ok (.agg #[a]) W := by kernel_rfl
set_option maxRecDepth 100000 in
set_option maxHeartbeats 2000000 in
theorem implChainStable_any (A : Option Addr) (c : Nat) (ns : List Nd) (w : World) (hn : ns.length ≤ 1048576) (hm : SmN ns) (hC : CgA w A ns) :
    Calls Try.prog 20 #[.agg #[.slice A ns.length c]] w (Answer w (stableR ns)) := by
  have S0 := ((Inv.start w).box 25 #[.slice A ns.length c]).box 30 #[.slice none 0 0]
  simp only [World.size_alloc] at S0
  have C0 := hide (implChainOk_any A c ns ((w.alloc (.cells #[.slice A ns.length c] 25)).alloc (.cells #[.slice none 0 0] 30)) hn hm (hC.on S0.below))
  have k0 := (S0.nth 1 rfl).one.1
  have HM := hide hm
  have HC := hide hC
  clear hm hC
  cases ho : chainB ns
  · have HE := hide (stableR_no ho)
    rw [ho] at C0
    clear ho
    go_enter Try.func20, Try.ntmps20
    go_wp2_with fail
    with_reducible refine C0.out.mono ?_
    rintro e w1 ⟨rfl, hb1⟩
    have S1 := S0.on hb1
    have q1 := (S1.nth 0 rfl).one
    clear S0 C0 k0
    go_wp2
    refine bodyPost_ret (v := .agg #[.slice none 0 0]) (by simp [results, Try.results20, go_sem, q1]) rfl ?_
    exact answer_empty HE.out (S1.below.setCell (by simp) _)
  · obtain ⟨⟨h1, h4⟩, hB, _⟩ := chainB_parts ho
    obtain ⟨p, hp⟩ : ∃ p, ns.length = p + 1 := ⟨ns.length - 1, by omega⟩
    obtain ⟨nd, hnd⟩ : ∃ nd, ns[p]? = some nd := ⟨_, List.getElem?_eq_getElem (by omega)⟩
    have HE := hide (stableR_yes ho hp hnd)
    have HND := hide hnd
    rcases HC.out with h0 | ⟨G, cur, rfl, hG⟩
    · rw [h0] at h1; simp at h1
    have HG := hide hG
    have hp4 : p + 1 ≤ 4 := by omega
    rw [ho] at C0
    rw [hp] at C0 S0 k0 ⊢
    have HMN := hide (HM.out p nd hnd)
    clear ho h1 h4 hB hp hnd hG hn HM HC
    go_enter Try.func20, Try.ntmps20
    go_wp2_with fail
    with_reducible refine C0.out.mono ?_
    rintro e w1 ⟨rfl, hb1⟩
    have S1 := S0.on hb1
    have k1 := (S1.nth 1 rfl).one.1
    clear S0 C0 k0
    go_wp2_with fail
    refine (tail_any G c p ns cur nd w1 (by omega) (HG.out.on S1.below) HND.out).mono ?_
    rintro e w2 ⟨rfl, hb2⟩
    have S2 := S1.on hb2
    have HV2 := hide (HG.out.on S2.below |>.store p nd HND.out)
    have zr := S2.room
    clear S1 k1
    obtain ⟨sa, sc, ss, wa, wc, ws⟩ := nd
    simp only at HV2 HE HMN
    have hfd := field_store (.slice sa ss.length sc) (.slice wa ws.length wc)
    go_wp2_with fail
    refine (implStoreTags_any sa sc ss w2 HMN.out.1.1 HMN.out.2.1 HV2.out).mono ?_
    rintro e w3 ⟨A3, cap3, rfl, R3, hb3⟩
    have S3 := S2.on hb3
    have q3 := (S3.nth 0 rfl).one
    have HR3 := hide R3
    clear S2 R3
    generalize tagsR ss = rs at HR3 HE ⊢
    go_wp2
    refine bodyPost_ret (v := .agg #[.slice A3 rs.length cap3]) (by simp [results, Try.results20, go_sem, q3]) rfl ?_
    rw [HE.out]
    refine ⟨A3, cap3, rfl, ?_, S3.below.setCell (by simp) _⟩
    have Z : (w3.setCell ⟨w.heap.size + 1, 0, none⟩ (.slice A3 rs.length cap3)).heap.size = w3.heap.size := by simp [World.setCell]
    rw [Z]
    rcases HR3.out with h | ⟨g, T, cu, rfl, hB, hU, hb, hs, hc⟩
    · exact .inl h
    · exact .inr ⟨g, T, cu, rfl, by omega, hU, hb.aside (by simp; omega) _, hs, hc⟩
end Go.Proofs.Ytjnloillcgeodaa
/- Contracts of ChainJoin, of program and model. Condition: sizes that memory holds. -/
namespace Go.Proofs.Ytjnloillcgeodaa
open Go.RowKit Go.Joins
attribute [local go_sem ↓] Go.wp_at_zero Go.wp_at_succ

theorem ResS.typed2 {w : World} {B U : Nat} {A : Option Addr} {us : List V} (h : ResS w B U A us) {g : Nat} (hg : FootS A us g) : ∃ T cs, Blk w g T cs ∧ T ≠ 25 := by
  obtain ⟨h0, G, rfl, hf⟩ := hg
  rcases h with h | ⟨G', cur, e, hO⟩
  · exact absurd h h0
  · injection e with e
    injection e with e
    subst e
    rcases hf with rfl | ⟨i, v, hi, hn, ha⟩
    · exact ⟨_, _, hO.blk, by decide⟩
    · rcases hO.own i v hi with q | ⟨g', c', e1, q1, q2, q3, _⟩
      · exact absurd q hn
      · rw [e1] at ha
        injection ha with ha
        injection ha with ha
        subst ha
        exact ⟨_, _, q3, by decide⟩
/-- A store into a variable that is a chain. -/
theorem GRow.asideT {base : Nat} {wr : World} {x : Value} {us : List Nd} (h : GRow base wr x us) {p : Addr} {cs : Array Value} (hb : Blk wr p.block 25 cs) (u : Value) : GRow base (wr.setCell p u) x us := by
  have hz : (wr.setCell p u).heap.size = wr.heap.size := by simp [World.setCell]
  have ht : Turn (fun g => g = p.block) wr (wr.setCell p u) := (Turn.refl (fun g => g = p.block) wr).set (p := p) rfl u
  have hk : ∀ {B U : Nat} {A : Option Addr} {l : List V}, ResS wr B U A l → ResS (wr.setCell p u) B U A l := fun hr => hr.turnF ht (fun y hf e => by
    obtain ⟨T, cs', h3, h4⟩ := hr.typed2 hf
    subst e
    exact h4 (blk_one h3 hb))
  refine ⟨⟨h.row.1, ?_⟩, fun i v hi => ?_, fun i v hi => ?_, h.two, h.apart, by rw [hz]; exact h.lo, fun i v hi => (h.own i v hi).turnedT ht (fun g e => by subst e; exact ⟨_, cs, hb, by decide, by decide⟩)⟩
  · rcases h.row.2 with h' | ⟨g, cap, cr, h1, h2, h3, h4⟩
    · exact .inl h'
    · refine .inr ⟨g, cap, cr, h1, h2, ?_, h4⟩
      exact Blk.aside (show Blk wr g 45 cr from h3) (fun e => by subst e; exact absurd (blk_one (show Blk wr p.block 45 cr from h3) hb) (by decide)) u
  · rw [hz]
    exact hk (h.store i v hi)
  · rw [hz]
    exact hk (h.wait i v hi)
/-- A node that comes: what the last one has, and nothing waits. -/
def bare (n : Nd) : Nd := ⟨n.sa, n.sc, n.ss, none, 0, []⟩
/-- What ChainJoin answers. -/
def joinN (ns : List Nd) : List Nd := if chainB ns = true then (if ns.length = 4 then ns else ns ++ (match ns[ns.length - 1]? with | some n => [bare n] | none => [])) else []
def joinK (ns : List Nd) : Bool := chainB ns && decide (ns.length < 4)
theorem joinN_no {ns : List Nd} (h : chainB ns = false) : joinN ns = [] ∧ joinK ns = false := by unfold joinN joinK; rw [h]; exact ⟨rfl, rfl⟩
theorem joinN_full {ns : List Nd} (h : chainB ns = true) (h4 : ns.length = 4) : joinN ns = ns ∧ joinK ns = false := by unfold joinN joinK; rw [h, h4]; exact ⟨rfl, rfl⟩
theorem joinN_yes {ns : List Nd} {p : Nat} {n : Nd} (h : chainB ns = true) (hp : ns.length = p + 1) (h4 : p + 1 < 4) (hn : ns[p]? = some n) : joinN ns = ns ++ [bare n] ∧ joinK ns = true := by
  unfold joinN joinK
  rw [h, if_pos rfl, if_neg (by omega), hp, Nat.add_sub_cancel, hn, decide_eq_true h4]
  exact ⟨rfl, rfl⟩
theorem nl_append {us ns : List Nd} {v n : Nd} (h : NL us ns) (hl : Nd.like v n) : NL (us ++ [v]) (ns ++ [n]) := by
  refine ⟨by simp [h.1], fun i x y hx hy => ?_⟩
  rcases snoc_get rfl i x hx with ⟨e1, rfl⟩ | ⟨e1, hq⟩ <;> rcases snoc_get rfl i y hy with ⟨e2, rfl⟩ | ⟨e2, hq'⟩
  · exact hl
  · have := h.1; omega
  · have := h.1; omega
  · exact h.2 i x y hq hq'
theorem bare_like {n m : Nd} (h : Nd.like n m) : Nd.like (bare n) (bare m) := ⟨h.1, h.2.1, rfl, like_refl _⟩
theorem joinN_like {us ns : List Nd} (h : NL us ns) : NL (joinN us) (joinN ns) ∧ joinK us = joinK ns := by
  refine ⟨?_, by unfold joinK; rw [chainB_like h, h.1]⟩
  cases hc : chainB ns with
  | false => rw [(joinN_no hc).1, (joinN_no ((chainB_like h).trans hc)).1]; exact ⟨rfl, fun i x y hx => by simp at hx⟩
  | true =>
    have hc' := (chainB_like h).trans hc
    by_cases h4 : ns.length = 4
    · rw [(joinN_full hc h4).1, (joinN_full hc' (h.1.trans h4)).1]
      exact h
    · obtain ⟨⟨h1, h5⟩, _⟩ := chainB_parts hc
      obtain ⟨p, hp⟩ : ∃ p, ns.length = p + 1 := ⟨ns.length - 1, by omega⟩
      obtain ⟨n, hn⟩ : ∃ n, us[p]? = some n := ⟨_, List.getElem?_eq_getElem (by have := h.1; omega)⟩
      obtain ⟨m, hm, hl⟩ := nl_at h hn
      rw [(joinN_yes hc hp (by omega) hm).1, (joinN_yes hc' (h.1.trans hp) (by omega) hn).1]
      exact nl_append h (bare_like hl)
/-- An answer that is a chain, and whether it was done. -/
def AnswerCB (w : World) (rs : List Nd) (b : Bool) (e : Ending) (w' : World) : Prop :=
  ∃ (A : Option Addr) (cap : Nat) (us : List Nd), e = .returned (.tuple #[.agg #[.slice A rs.length cap], .bool b]) ∧ NL us rs ∧ ResN w' w.heap.size w'.heap.size A us ∧ Below w.heap.size w w'
theorem answerCB_none {w w' : World} {rs : List Nd} {b : Bool} (hr : rs = [] ∧ b = false) (hb : Below w.heap.size w w') : AnswerCB w rs b (.returned (.tuple #[.agg #[.slice none 0 0], .bool false])) w' := by
  obtain ⟨rfl, rfl⟩ := hr
  exact ⟨none, 0, [], rfl, ⟨rfl, fun i x y hx => by simp at hx⟩, .inl rfl, hb⟩
theorem answerCB_row {w w' : World} {rs us : List Nd} {b : Bool} {A : Option Addr} {m cap : Nat} (h : GRow w.heap.size w' (.slice A m cap) us) (hl : NL us rs) (hb : Below w.heap.size w w') : AnswerCB w rs b (.returned (.tuple #[.agg #[.slice A m cap], .bool b])) w' := by
  obtain ⟨e, hR⟩ := h.res
  exact ⟨A, cap, us, by rw [e, hl.1], hl, hR, hb⟩
end Go.Proofs.Ytjnloillcgeodaa
/- Contract of the program's ChainJoin. Condition: sizes that memory holds. -/
namespace Go.Proofs.Ytjnloillcgeodaa
open Go.RowKit Go.Joins
attribute [local go_sem ↓] Go.wp_at_zero Go.wp_at_succ

end Go.Proofs.Ytjnloillcgeodaa
/- Contract of the model's ChainJoin. Condition: sizes that memory holds. -/
namespace Go.Proofs.Ytjnloillcgeodaa
open Go.RowKit Go.Joins
attribute [local go_sem ↓] Go.wp_at_zero Go.wp_at_succ

set_option maxRecDepth 100000 in
set_option maxHeartbeats 4000000 in
theorem l3JoinT_any (base p : Nat) (xa : Option Addr) (xc : Nat) (us : List Nd) (nd : Nd) (w : World) (hG : GRow base w (.slice xa us.length xc) us) (hp : us.length = p + 1) (hp4 : p + 1 ≤ 4) (hnd : us[p]? = some nd) (hm : nd.ss.length ≤ 1048576 ∧ Small nd.ss) :
    Calls Try.prog 97 #[.agg #[.slice xa us.length xc]] w fun e w' => ∃ (g cap : Nat) (v' : Nd), e = .returned (.agg #[.slice (some ⟨g, 0, none⟩) (us.length + 1) cap]) ∧ Nd.like v' (bare nd) ∧ GRow base w' (.slice (some ⟨g, 0, none⟩) (us.length + 1) cap) (us ++ [v']) ∧ Turn (fun g => xa = some ⟨g, 0, none⟩) w w' := by
  obtain ⟨i0, hi0, hz0, hz1, hz2⟩ := info_parts node_info
  have I0 := hide hi0
  have I1 := hide hz0
  have I2 := hide hz1
  have I3 := hide hz2
  clear hi0 hz0 hz1 hz2
  obtain ⟨_, hR⟩ := hG.res
  rcases hR with h0 | ⟨G, cur, rfl, hR⟩
  · rw [h0] at hp; simp at hp
  have S0 := (Inv.start w).box 25 #[.slice (some ⟨G, 0, none⟩) us.length xc]
  have V00 := S0.nth 0 rfl
  have V0 := V00.on (below_alloc1 _ (.cells #[.slice none 0 0] 25))
  have B0 := Blk.made (w.alloc (.cells #[.slice (some ⟨G, 0, none⟩) us.length xc] 25)) 25 #[.slice none 0 0]
  have BA := hide ((below_alloc1 w (.cells #[.slice (some ⟨G, 0, none⟩) us.length xc] 25)).trans ((below_alloc1 (w.alloc (.cells #[.slice (some ⟨G, 0, none⟩) us.length xc] 25)) (.cells #[.slice none 0 0] 25)).mono (by simp)))
  simp only [World.size_alloc] at B0
  have HC := hide hR.cg
  have HCR := HC.out.on BA.out
  have n0 : ((w.alloc (.cells #[.slice (some ⟨G, 0, none⟩) us.length xc] 25)).alloc (.cells #[.slice none 0 0] 25)).drew.cell? ⟨G, p * 2, none⟩ = some (.slice nd.sa nd.ss.length nd.sc) := (HCR.blk.at _).trans (HCR.at' p nd hnd).1
  have CS : Hid (∀ W, Below w.heap.size w W → Calls Try.prog 79 #[.agg #[.slice nd.sa nd.ss.length nd.sc]] W (CopiedStR W nd.ss)) := fun W hW => l2CopyStore_any nd.sa nd.sc nd.ss W hm.1 (fun v hv => (hm.2 v hv).1) ((HC.out.on hW).store p nd hnd)
  have zA : w.heap.size + 2 = ((w.alloc (.cells #[.slice (some ⟨G, 0, none⟩) us.length xc] 25)).alloc (.cells #[.slice none 0 0] 25)).heap.size := by simp
  have HZA := hide zA
  have HTY := hide hG.typed
  have C1 := hide ((hG.on BA.out).on (Below.refl _ _).drew)
  have V1 := V0.drew
  have q1 := V1.one.1
  have v0 := V0.one.1
  have hlo := hG.lo
  have hu4 : us.length ≤ 4 := by omega
  have e1 : (us.length : Int) - 1 = (p : Int) := by omega
  have j1 : (0 : Int) ≤ (p : Int) := by omega
  have kw : IntKind.i64.wrap (p : Int) = (p : Int) := by rw [IntKind.wrap_i64]; omega
  have j2 : (p : Int) < (us.length : Int) := by omega
  have T0 := hide (Turn.below (P := fun g => (some ⟨G, 0, none⟩ : Option Addr) = some ⟨g, 0, none⟩) BA.out)
  obtain ⟨sa, sc, ss, wa, wc, ws⟩ := nd
  simp only at n0 CS hm
  clear hG HCR hR hp zA V0 V00 S0 hnd
  go_enter Try.func97, Try.ntmps97
  go_wp2_with fail
  generalize (w.alloc (.cells #[.slice (some ⟨G, 0, none⟩) us.length xc] 25)).alloc (.cells #[.slice none 0 0] 25) = W0 at V1 q1 v0 C1 BA HZA B0 n0 T0 ⊢
  have zW : w.heap.size + 2 = W0.heap.size := HZA.out
  refine wp_region_noPanic ?_
  refine wp_region_held_drew (S := (fun w' => Blk w' (w.heap.size + 1) 25 #[.slice none 0 0] ∧ Hid (Turn (fun g => (some ⟨G, 0, none⟩ : Option Addr) = some ⟨g, 0, none⟩) w w'))) (by kernel_rfl) (by exact ⟨B0.drew, T0.out.trans (.below (Below.refl _ _).drew)⟩) (fun hHeld => ?_)
  refine take_run 0 (some 7) (v := ?_) rfl rfl (by kernel_rfl) (by kernel_rfl) (by kernel_rfl) (fun _ _ _ h => h) (by rfl) ?_ hHeld ?_
  rotate_left
  · ((intro w hSw); (try dsimp only at hSw); go_simp <;> with_reducible rfl)
  simp only [Act.put, List.setIfInBounds_toArray, List.set_cons_zero, List.set_cons_succ]
  refine take_run 2 (some 9) (v := ?_) rfl rfl (by kernel_rfl) (by kernel_rfl) (by kernel_rfl) (fun _ _ _ h => h) (by rfl) ?_ hHeld ?_
  rotate_left
  · ((intro w hSw); (try dsimp only at hSw); go_simp <;> with_reducible rfl)
  simp only [Act.put, List.setIfInBounds_toArray, List.set_cons_zero, List.set_cons_succ]
  refine take_run 4 (some 11) (v := ?_) rfl rfl (by kernel_rfl) (by kernel_rfl) (by kernel_rfl) (fun _ _ _ h => h) (by rfl) ?_ hHeld ?_
  rotate_left
  · ((intro w hSw); (try dsimp only at hSw); go_simp <;> with_reducible rfl)
  simp only [Act.put, List.setIfInBounds_toArray, List.set_cons_zero, List.set_cons_succ]
  refine take_run 5 (some 12) (v := ?_) rfl rfl (by kernel_rfl) (by kernel_rfl) (by kernel_rfl) (fun _ _ _ h => h) (by rfl) ?_ hHeld ?_
  rotate_left
  · ((intro w hSw); (try dsimp only at hSw); go_simp <;> with_reducible rfl)
  simp only [Act.put, List.setIfInBounds_toArray, List.set_cons_zero, List.set_cons_succ]
  refine wpAnyH_ready (rs := [1, 3]) (by kernel_rfl) (by simp) ?_
  refine AllReadyH.cons rfl (fun K hK => ?_) (AllReadyH.cons rfl (fun K hK => ?_) AllReadyH.nil)
  · skip
    go_simp
    refine hK.out _ _ (by exact hHeld) (fun hHeld => ?_)
    clear hK K
    refine take_one 3 (by kernel_rfl) rfl (fun K hK => ?_)
    go_simp
    refine hK.out _ _ (by exact hHeld) (fun hHeld => ?_)
    clear hK K
    refine take_run 6 (some 13) (v := ?_) rfl rfl (by kernel_rfl) (by kernel_rfl) (by kernel_rfl) (fun _ _ _ h => h) (by rfl) ?_ hHeld ?_
    rotate_left
    · ((intro w hSw); (try dsimp only at hSw); go_simp <;> with_reducible rfl)
    simp only [Act.put, List.setIfInBounds_toArray, List.set_cons_zero, List.set_cons_succ]
    refine take_run 7 (some 14) (v := ?_) rfl rfl (by kernel_rfl) (by kernel_rfl) (by kernel_rfl) (fun _ _ _ h => h) (by rfl) ?_ hHeld ?_
    rotate_left
    · ((intro w hSw); (try dsimp only at hSw); go_simp <;> with_reducible rfl)
    simp only [Act.put, List.setIfInBounds_toArray, List.set_cons_zero, List.set_cons_succ]
    refine take_one 8 (by kernel_rfl) rfl (fun K hK => ?_)
    go_simp
    refine hK.out _ _ (by exact hHeld) (fun hHeld => ?_)
    clear hK K
    refine take_one 9 (by kernel_rfl) rfl (fun K hK => ?_)
    go_simp
    ((with_reducible refine (CS.out _ (BA.out.trans ((Below.refl _ _).drew.mono BA.out.size))).mono ?_); rintro e w3 ⟨x1, us1, rfl, hul, hli, hcr, hb3⟩; obtain ⟨A1, cap1, rfl, hR1⟩ := hcr.resS; have HL1 : Hid (LL us1 ss) := ⟨hul, hli⟩; have HR1 := hide hR1; have C2 := hide (C1.out.on hb3); have V2 := V1.on hb3; have z3 : W0.heap.size ≤ w3.heap.size := (by have := hb3.size; simpa using this); have HB3 := hide hb3; have q2 := V2.one.1; have HR := hide C2.out.row; have q4 := (V2.more (.cells #[.slice A1 us1.length cap1, .slice none 0 0] 45)).one.1; clear hR1 hcr hul hli)
    try go_wp2_with fail
    refine hK.out _ _ (by exact ⟨hHeld.1.on HB3.out, hHeld.2.out.trans (.below HB3.out)⟩) (fun hHeld => ?_)
    clear hK K
    refine take_run 10 (some 17) (v := ?_) rfl rfl (by kernel_rfl) (by kernel_rfl) (by kernel_rfl) (fun _ _ _ h => h) (by rfl) ?_ hHeld ?_
    rotate_left
    · ((intro w hSw); (try dsimp only at hSw); go_simp <;> with_reducible rfl)
    simp only [Act.put, List.setIfInBounds_toArray, List.set_cons_zero, List.set_cons_succ]
    refine take_one 11 (by kernel_rfl) rfl (fun K hK => ?_)
    go_simp
    refine hK.out _ _ (by exact ⟨hHeld.1.more _, hHeld.2.out.trans (.below (below_alloc1 _ _))⟩) (fun hHeld => ?_)
    clear hK K
    refine take_one 12 (by kernel_rfl) rfl (fun K hK => ?_)
    (refine step_append_lies _ (by rfl) _ _ _ (by rfl) base 45 i0 _ 2 48 Try.underlying23 I0.out I1.out I2.out I3.out rfl (by omega) (.slice (some ⟨G, 0, none⟩) us.length xc) us.length (flatN us) (by rfl) (HR.out.alloc _) ⟨w3.heap.size, 0, none⟩ 1 1 (cellsN ⟨A1, cap1, us1, none, 0, []⟩) (by rfl) (by rfl) (World.news_of_block (cs := #[.slice A1 us1.length cap1, .slice none 0 0]) (t := 45) (fr := (0, 0)) (heap_alloc_new w3 _)) (by simp [cellsN, Value.oneCell']) (by omega) (by unfold maxLen; omega) (by omega) (by simp; omega) _ rfl ?_; intro g cap w5 hown2 hgrow hat hlt2; have V4 := (V2.more (.cells #[.slice A1 us1.length cap1, .slice none 0 0] 45)).kept hgrow (by intro e; have hq := HTY.out _ e; obtain ⟨_, _, h1, h2⟩ := hq; omega); have q5 := V4.one; have OW := hide hown2; have GW := hide hgrow; clear hown2)
    simp only [List.getElem_toArray, List.getElem_cons_zero, List.getElem_cons_succ, Act.put, List.setIfInBounds_toArray, List.set_cons_zero, List.set_cons_succ]
    refine hK.out _ _ (by exact ⟨hHeld.1.kept hgrow (by intro e; have hq := HTY.out _ e; obtain ⟨_, _, h1, h2⟩ := hq; omega), hHeld.2.out.trans (.of hgrow (fun g e => by injection e with e; subst e; rfl))⟩) (fun hHeld => ?_)
    clear hK K
    refine take_run 13 (some 20) (v := ?_) rfl rfl (by kernel_rfl) (by kernel_rfl) (by kernel_rfl) (fun _ _ _ h => h) (by rfl) ?_ hHeld ?_
    rotate_left
    · ((intro w hSw); (try dsimp only at hSw); go_simp <;> with_reducible rfl)
    simp only [Act.put, List.setIfInBounds_toArray, List.set_cons_zero, List.set_cons_succ]
    refine take_one 14 (by kernel_rfl) rfl (fun K hK => ?_)
    go_simp
    refine hK.out _ _ (by exact ⟨hHeld.1.aside (by simp) _, hHeld.2.out.far (by simp) _⟩) (fun hHeld => ?_)
    clear hK K
    refine wpAnyH_done (by kernel_rfl) ?_ _
    refine NoPanic.normal ?_
    have I9 := hHeld.1
    have T9 := hHeld.2
    have C9 := C1.out.push (w1 := w3.alloc (.cells #[.slice A1 us1.length cap1, .slice none 0 0] 45)) (v := ⟨A1, cap1, us1, none, 0, []⟩) (g := g) (cap := cap) (w2 := w5) (HB3.out.trans ((below_alloc1 w3 _).mono HB3.out.size)) ((HR1.out.on (below_alloc1 w3 _)).wide (by simp)) (.inl rfl) (fun g _ h2 => h2.elim (fun h2 => h2.1 rfl) (fun h2 => by simp [Value.ownBlock] at h2)) (CRow.start _ _ (by have := HB3.out.size; simp; omega)) OW.out GW.out
    have C10 := hide (C9.asideT (p := ⟨w.heap.size, 0, none⟩) V4 (.slice (some ⟨g, 0, none⟩) (us.length + 1) cap))
    have V9 := V4.put 0 (.slice (some ⟨g, 0, none⟩) (us.length + 1) cap)
    simp only [List.setIfInBounds_toArray, List.set_cons_zero] at V9
    have v9 := V9.one.1
    have q9 := I9.one
    clear hHeld V1 V2 V4 q1 q2 q4 q5 C9 C1 C2 V9 v0 n0
    generalize w5.setCell ⟨w.heap.size, 0, none⟩ (.slice (some ⟨g, 0, none⟩) (us.length + 1) cap) = W9 at I9 T9 C10 v9 q9 ⊢
    go_wp2
    refine bodyPost_ret (v := .agg #[.slice (some ⟨g, 0, none⟩) (us.length + 1) cap]) (by simp [results, Try.results97, go_sem, q9]) rfl ?_
    exact ⟨g, cap, ⟨A1, cap1, us1, none, 0, []⟩, rfl, ⟨HL1.out.1, HL1.out.2, rfl, like_refl _⟩, C10.out.asideT (p := ⟨w.heap.size + 1, 0, none⟩) I9 _, T9.out.far (by simp) _⟩
  · skip
    go_simp
    refine hK.out _ _ (by exact hHeld) (fun hHeld => ?_)
    clear hK K
    refine take_run 6 (some 13) (v := ?_) rfl rfl (by kernel_rfl) (by kernel_rfl) (by kernel_rfl) (fun _ _ _ h => h) (by rfl) ?_ hHeld ?_
    rotate_left
    · ((intro w hSw); (try dsimp only at hSw); go_simp <;> with_reducible rfl)
    simp only [Act.put, List.setIfInBounds_toArray, List.set_cons_zero, List.set_cons_succ]
    refine take_run 7 (some 14) (v := ?_) rfl rfl (by kernel_rfl) (by kernel_rfl) (by kernel_rfl) (fun _ _ _ h => h) (by rfl) ?_ hHeld ?_
    rotate_left
    · ((intro w hSw); (try dsimp only at hSw); go_simp <;> with_reducible rfl)
    simp only [Act.put, List.setIfInBounds_toArray, List.set_cons_zero, List.set_cons_succ]
    refine wpAnyH_ready (rs := [1, 8]) (by kernel_rfl) (by simp) ?_
    refine AllReadyH.cons rfl (fun K hK => ?_) (AllReadyH.cons rfl (fun K hK => ?_) AllReadyH.nil)
    · skip
      go_simp
      refine hK.out _ _ (by exact hHeld) (fun hHeld => ?_)
      clear hK K
      refine take_one 8 (by kernel_rfl) rfl (fun K hK => ?_)
      go_simp
      refine hK.out _ _ (by exact hHeld) (fun hHeld => ?_)
      clear hK K
      refine take_one 9 (by kernel_rfl) rfl (fun K hK => ?_)
      go_simp
      ((with_reducible refine (CS.out _ (BA.out.trans ((Below.refl _ _).drew.mono BA.out.size))).mono ?_); rintro e w3 ⟨x1, us1, rfl, hul, hli, hcr, hb3⟩; obtain ⟨A1, cap1, rfl, hR1⟩ := hcr.resS; have HL1 : Hid (LL us1 ss) := ⟨hul, hli⟩; have HR1 := hide hR1; have C2 := hide (C1.out.on hb3); have V2 := V1.on hb3; have z3 : W0.heap.size ≤ w3.heap.size := (by have := hb3.size; simpa using this); have HB3 := hide hb3; have q2 := V2.one.1; have HR := hide C2.out.row; have q4 := (V2.more (.cells #[.slice A1 us1.length cap1, .slice none 0 0] 45)).one.1; clear hR1 hcr hul hli)
      try go_wp2_with fail
      refine hK.out _ _ (by exact ⟨hHeld.1.on HB3.out, hHeld.2.out.trans (.below HB3.out)⟩) (fun hHeld => ?_)
      clear hK K
      refine take_run 10 (some 17) (v := ?_) rfl rfl (by kernel_rfl) (by kernel_rfl) (by kernel_rfl) (fun _ _ _ h => h) (by rfl) ?_ hHeld ?_
      rotate_left
      · ((intro w hSw); (try dsimp only at hSw); go_simp <;> with_reducible rfl)
      simp only [Act.put, List.setIfInBounds_toArray, List.set_cons_zero, List.set_cons_succ]
      refine take_one 11 (by kernel_rfl) rfl (fun K hK => ?_)
      go_simp
      refine hK.out _ _ (by exact ⟨hHeld.1.more _, hHeld.2.out.trans (.below (below_alloc1 _ _))⟩) (fun hHeld => ?_)
      clear hK K
      refine take_one 12 (by kernel_rfl) rfl (fun K hK => ?_)
      (refine step_append_lies _ (by rfl) _ _ _ (by rfl) base 45 i0 _ 2 48 Try.underlying23 I0.out I1.out I2.out I3.out rfl (by omega) (.slice (some ⟨G, 0, none⟩) us.length xc) us.length (flatN us) (by rfl) (HR.out.alloc _) ⟨w3.heap.size, 0, none⟩ 1 1 (cellsN ⟨A1, cap1, us1, none, 0, []⟩) (by rfl) (by rfl) (World.news_of_block (cs := #[.slice A1 us1.length cap1, .slice none 0 0]) (t := 45) (fr := (0, 0)) (heap_alloc_new w3 _)) (by simp [cellsN, Value.oneCell']) (by omega) (by unfold maxLen; omega) (by omega) (by simp; omega) _ rfl ?_; intro g cap w5 hown2 hgrow hat hlt2; have V4 := (V2.more (.cells #[.slice A1 us1.length cap1, .slice none 0 0] 45)).kept hgrow (by intro e; have hq := HTY.out _ e; obtain ⟨_, _, h1, h2⟩ := hq; omega); have q5 := V4.one; have OW := hide hown2; have GW := hide hgrow; clear hown2)
      simp only [List.getElem_toArray, List.getElem_cons_zero, List.getElem_cons_succ, Act.put, List.setIfInBounds_toArray, List.set_cons_zero, List.set_cons_succ]
      refine hK.out _ _ (by exact ⟨hHeld.1.kept hgrow (by intro e; have hq := HTY.out _ e; obtain ⟨_, _, h1, h2⟩ := hq; omega), hHeld.2.out.trans (.of hgrow (fun g e => by injection e with e; subst e; rfl))⟩) (fun hHeld => ?_)
      clear hK K
      refine take_run 13 (some 20) (v := ?_) rfl rfl (by kernel_rfl) (by kernel_rfl) (by kernel_rfl) (fun _ _ _ h => h) (by rfl) ?_ hHeld ?_
      rotate_left
      · ((intro w hSw); (try dsimp only at hSw); go_simp <;> with_reducible rfl)
      simp only [Act.put, List.setIfInBounds_toArray, List.set_cons_zero, List.set_cons_succ]
      refine take_one 14 (by kernel_rfl) rfl (fun K hK => ?_)
      go_simp
      refine hK.out _ _ (by exact ⟨hHeld.1.aside (by simp) _, hHeld.2.out.far (by simp) _⟩) (fun hHeld => ?_)
      clear hK K
      refine wpAnyH_done (by kernel_rfl) ?_ _
      refine NoPanic.normal ?_
      have I9 := hHeld.1
      have T9 := hHeld.2
      have C9 := C1.out.push (w1 := w3.alloc (.cells #[.slice A1 us1.length cap1, .slice none 0 0] 45)) (v := ⟨A1, cap1, us1, none, 0, []⟩) (g := g) (cap := cap) (w2 := w5) (HB3.out.trans ((below_alloc1 w3 _).mono HB3.out.size)) ((HR1.out.on (below_alloc1 w3 _)).wide (by simp)) (.inl rfl) (fun g _ h2 => h2.elim (fun h2 => h2.1 rfl) (fun h2 => by simp [Value.ownBlock] at h2)) (CRow.start _ _ (by have := HB3.out.size; simp; omega)) OW.out GW.out
      have C10 := hide (C9.asideT (p := ⟨w.heap.size, 0, none⟩) V4 (.slice (some ⟨g, 0, none⟩) (us.length + 1) cap))
      have V9 := V4.put 0 (.slice (some ⟨g, 0, none⟩) (us.length + 1) cap)
      simp only [List.setIfInBounds_toArray, List.set_cons_zero] at V9
      have v9 := V9.one.1
      have q9 := I9.one
      clear hHeld V1 V2 V4 q1 q2 q4 q5 C9 C1 C2 V9 v0 n0
      generalize w5.setCell ⟨w.heap.size, 0, none⟩ (.slice (some ⟨g, 0, none⟩) (us.length + 1) cap) = W9 at I9 T9 C10 v9 q9 ⊢
      go_wp2
      refine bodyPost_ret (v := .agg #[.slice (some ⟨g, 0, none⟩) (us.length + 1) cap]) (by simp [results, Try.results97, go_sem, q9]) rfl ?_
      exact ⟨g, cap, ⟨A1, cap1, us1, none, 0, []⟩, rfl, ⟨HL1.out.1, HL1.out.2, rfl, like_refl _⟩, C10.out.asideT (p := ⟨w.heap.size + 1, 0, none⟩) I9 _, T9.out.far (by simp) _⟩
    · skip
      go_simp
      refine hK.out _ _ (by exact hHeld) (fun hHeld => ?_)
      clear hK K
      refine wpAnyH_ready (rs := [1, 9]) (by kernel_rfl) (by simp) ?_
      refine AllReadyH.cons rfl (fun K hK => ?_) (AllReadyH.cons rfl (fun K hK => ?_) AllReadyH.nil)
      · skip
        go_simp
        refine hK.out _ _ (by exact hHeld) (fun hHeld => ?_)
        clear hK K
        refine take_one 9 (by kernel_rfl) rfl (fun K hK => ?_)
        go_simp
        ((with_reducible refine (CS.out _ (BA.out.trans ((Below.refl _ _).drew.mono BA.out.size))).mono ?_); rintro e w3 ⟨x1, us1, rfl, hul, hli, hcr, hb3⟩; obtain ⟨A1, cap1, rfl, hR1⟩ := hcr.resS; have HL1 : Hid (LL us1 ss) := ⟨hul, hli⟩; have HR1 := hide hR1; have C2 := hide (C1.out.on hb3); have V2 := V1.on hb3; have z3 : W0.heap.size ≤ w3.heap.size := (by have := hb3.size; simpa using this); have HB3 := hide hb3; have q2 := V2.one.1; have HR := hide C2.out.row; have q4 := (V2.more (.cells #[.slice A1 us1.length cap1, .slice none 0 0] 45)).one.1; clear hR1 hcr hul hli)
        try go_wp2_with fail
        refine hK.out _ _ (by exact ⟨hHeld.1.on HB3.out, hHeld.2.out.trans (.below HB3.out)⟩) (fun hHeld => ?_)
        clear hK K
        refine take_run 10 (some 17) (v := ?_) rfl rfl (by kernel_rfl) (by kernel_rfl) (by kernel_rfl) (fun _ _ _ h => h) (by rfl) ?_ hHeld ?_
        rotate_left
        · ((intro w hSw); (try dsimp only at hSw); go_simp <;> with_reducible rfl)
        simp only [Act.put, List.setIfInBounds_toArray, List.set_cons_zero, List.set_cons_succ]
        refine take_one 11 (by kernel_rfl) rfl (fun K hK => ?_)
        go_simp
        refine hK.out _ _ (by exact ⟨hHeld.1.more _, hHeld.2.out.trans (.below (below_alloc1 _ _))⟩) (fun hHeld => ?_)
        clear hK K
        refine take_one 12 (by kernel_rfl) rfl (fun K hK => ?_)
        (refine step_append_lies _ (by rfl) _ _ _ (by rfl) base 45 i0 _ 2 48 Try.underlying23 I0.out I1.out I2.out I3.out rfl (by omega) (.slice (some ⟨G, 0, none⟩) us.length xc) us.length (flatN us) (by rfl) (HR.out.alloc _) ⟨w3.heap.size, 0, none⟩ 1 1 (cellsN ⟨A1, cap1, us1, none, 0, []⟩) (by rfl) (by rfl) (World.news_of_block (cs := #[.slice A1 us1.length cap1, .slice none 0 0]) (t := 45) (fr := (0, 0)) (heap_alloc_new w3 _)) (by simp [cellsN, Value.oneCell']) (by omega) (by unfold maxLen; omega) (by omega) (by simp; omega) _ rfl ?_; intro g cap w5 hown2 hgrow hat hlt2; have V4 := (V2.more (.cells #[.slice A1 us1.length cap1, .slice none 0 0] 45)).kept hgrow (by intro e; have hq := HTY.out _ e; obtain ⟨_, _, h1, h2⟩ := hq; omega); have q5 := V4.one; have OW := hide hown2; have GW := hide hgrow; clear hown2)
        simp only [List.getElem_toArray, List.getElem_cons_zero, List.getElem_cons_succ, Act.put, List.setIfInBounds_toArray, List.set_cons_zero, List.set_cons_succ]
        refine hK.out _ _ (by exact ⟨hHeld.1.kept hgrow (by intro e; have hq := HTY.out _ e; obtain ⟨_, _, h1, h2⟩ := hq; omega), hHeld.2.out.trans (.of hgrow (fun g e => by injection e with e; subst e; rfl))⟩) (fun hHeld => ?_)
        clear hK K
        refine take_run 13 (some 20) (v := ?_) rfl rfl (by kernel_rfl) (by kernel_rfl) (by kernel_rfl) (fun _ _ _ h => h) (by rfl) ?_ hHeld ?_
        rotate_left
        · ((intro w hSw); (try dsimp only at hSw); go_simp <;> with_reducible rfl)
        simp only [Act.put, List.setIfInBounds_toArray, List.set_cons_zero, List.set_cons_succ]
        refine take_one 14 (by kernel_rfl) rfl (fun K hK => ?_)
        go_simp
        refine hK.out _ _ (by exact ⟨hHeld.1.aside (by simp) _, hHeld.2.out.far (by simp) _⟩) (fun hHeld => ?_)
        clear hK K
        refine wpAnyH_done (by kernel_rfl) ?_ _
        refine NoPanic.normal ?_
        have I9 := hHeld.1
        have T9 := hHeld.2
        have C9 := C1.out.push (w1 := w3.alloc (.cells #[.slice A1 us1.length cap1, .slice none 0 0] 45)) (v := ⟨A1, cap1, us1, none, 0, []⟩) (g := g) (cap := cap) (w2 := w5) (HB3.out.trans ((below_alloc1 w3 _).mono HB3.out.size)) ((HR1.out.on (below_alloc1 w3 _)).wide (by simp)) (.inl rfl) (fun g _ h2 => h2.elim (fun h2 => h2.1 rfl) (fun h2 => by simp [Value.ownBlock] at h2)) (CRow.start _ _ (by have := HB3.out.size; simp; omega)) OW.out GW.out
        have C10 := hide (C9.asideT (p := ⟨w.heap.size, 0, none⟩) V4 (.slice (some ⟨g, 0, none⟩) (us.length + 1) cap))
        have V9 := V4.put 0 (.slice (some ⟨g, 0, none⟩) (us.length + 1) cap)
        simp only [List.setIfInBounds_toArray, List.set_cons_zero] at V9
        have v9 := V9.one.1
        have q9 := I9.one
        clear hHeld V1 V2 V4 q1 q2 q4 q5 C9 C1 C2 V9 v0 n0
        generalize w5.setCell ⟨w.heap.size, 0, none⟩ (.slice (some ⟨g, 0, none⟩) (us.length + 1) cap) = W9 at I9 T9 C10 v9 q9 ⊢
        go_wp2
        refine bodyPost_ret (v := .agg #[.slice (some ⟨g, 0, none⟩) (us.length + 1) cap]) (by simp [results, Try.results97, go_sem, q9]) rfl ?_
        exact ⟨g, cap, ⟨A1, cap1, us1, none, 0, []⟩, rfl, ⟨HL1.out.1, HL1.out.2, rfl, like_refl _⟩, C10.out.asideT (p := ⟨w.heap.size + 1, 0, none⟩) I9 _, T9.out.far (by simp) _⟩
      · skip
        go_simp
        ((with_reducible refine (CS.out _ (BA.out.trans ((Below.refl _ _).drew.mono BA.out.size))).mono ?_); rintro e w3 ⟨x1, us1, rfl, hul, hli, hcr, hb3⟩; obtain ⟨A1, cap1, rfl, hR1⟩ := hcr.resS; have HL1 : Hid (LL us1 ss) := ⟨hul, hli⟩; have HR1 := hide hR1; have C2 := hide (C1.out.on hb3); have V2 := V1.on hb3; have z3 : W0.heap.size ≤ w3.heap.size := (by have := hb3.size; simpa using this); have HB3 := hide hb3; have q2 := V2.one.1; have HR := hide C2.out.row; have q4 := (V2.more (.cells #[.slice A1 us1.length cap1, .slice none 0 0] 45)).one.1; clear hR1 hcr hul hli)
        try go_wp2_with fail
        refine hK.out _ _ (by exact ⟨hHeld.1.on HB3.out, hHeld.2.out.trans (.below HB3.out)⟩) (fun hHeld => ?_)
        clear hK K
        refine take_run 10 (some 17) (v := ?_) rfl rfl (by kernel_rfl) (by kernel_rfl) (by kernel_rfl) (fun _ _ _ h => h) (by rfl) ?_ hHeld ?_
        rotate_left
        · ((intro w hSw); (try dsimp only at hSw); go_simp <;> with_reducible rfl)
        simp only [Act.put, List.setIfInBounds_toArray, List.set_cons_zero, List.set_cons_succ]
        refine wpAnyH_ready (rs := [1, 11]) (by kernel_rfl) (by simp) ?_
        refine AllReadyH.cons rfl (fun K hK => ?_) (AllReadyH.cons rfl (fun K hK => ?_) AllReadyH.nil)
        · skip
          go_simp
          refine hK.out _ _ (by exact hHeld) (fun hHeld => ?_)
          clear hK K
          refine take_one 11 (by kernel_rfl) rfl (fun K hK => ?_)
          go_simp
          refine hK.out _ _ (by exact ⟨hHeld.1.more _, hHeld.2.out.trans (.below (below_alloc1 _ _))⟩) (fun hHeld => ?_)
          clear hK K
          refine take_one 12 (by kernel_rfl) rfl (fun K hK => ?_)
          (refine step_append_lies _ (by rfl) _ _ _ (by rfl) base 45 i0 _ 2 48 Try.underlying23 I0.out I1.out I2.out I3.out rfl (by omega) (.slice (some ⟨G, 0, none⟩) us.length xc) us.length (flatN us) (by rfl) (HR.out.alloc _) ⟨w3.heap.size, 0, none⟩ 1 1 (cellsN ⟨A1, cap1, us1, none, 0, []⟩) (by rfl) (by rfl) (World.news_of_block (cs := #[.slice A1 us1.length cap1, .slice none 0 0]) (t := 45) (fr := (0, 0)) (heap_alloc_new w3 _)) (by simp [cellsN, Value.oneCell']) (by omega) (by unfold maxLen; omega) (by omega) (by simp; omega) _ rfl ?_; intro g cap w5 hown2 hgrow hat hlt2; have V4 := (V2.more (.cells #[.slice A1 us1.length cap1, .slice none 0 0] 45)).kept hgrow (by intro e; have hq := HTY.out _ e; obtain ⟨_, _, h1, h2⟩ := hq; omega); have q5 := V4.one; have OW := hide hown2; have GW := hide hgrow; clear hown2)
          simp only [List.getElem_toArray, List.getElem_cons_zero, List.getElem_cons_succ, Act.put, List.setIfInBounds_toArray, List.set_cons_zero, List.set_cons_succ]
          refine hK.out _ _ (by exact ⟨hHeld.1.kept hgrow (by intro e; have hq := HTY.out _ e; obtain ⟨_, _, h1, h2⟩ := hq; omega), hHeld.2.out.trans (.of hgrow (fun g e => by injection e with e; subst e; rfl))⟩) (fun hHeld => ?_)
          clear hK K
          refine take_run 13 (some 20) (v := ?_) rfl rfl (by kernel_rfl) (by kernel_rfl) (by kernel_rfl) (fun _ _ _ h => h) (by rfl) ?_ hHeld ?_
          rotate_left
          · ((intro w hSw); (try dsimp only at hSw); go_simp <;> with_reducible rfl)
          simp only [Act.put, List.setIfInBounds_toArray, List.set_cons_zero, List.set_cons_succ]
          refine take_one 14 (by kernel_rfl) rfl (fun K hK => ?_)
          go_simp
          refine hK.out _ _ (by exact ⟨hHeld.1.aside (by simp) _, hHeld.2.out.far (by simp) _⟩) (fun hHeld => ?_)
          clear hK K
          refine wpAnyH_done (by kernel_rfl) ?_ _
          refine NoPanic.normal ?_
          have I9 := hHeld.1
          have T9 := hHeld.2
          have C9 := C1.out.push (w1 := w3.alloc (.cells #[.slice A1 us1.length cap1, .slice none 0 0] 45)) (v := ⟨A1, cap1, us1, none, 0, []⟩) (g := g) (cap := cap) (w2 := w5) (HB3.out.trans ((below_alloc1 w3 _).mono HB3.out.size)) ((HR1.out.on (below_alloc1 w3 _)).wide (by simp)) (.inl rfl) (fun g _ h2 => h2.elim (fun h2 => h2.1 rfl) (fun h2 => by simp [Value.ownBlock] at h2)) (CRow.start _ _ (by have := HB3.out.size; simp; omega)) OW.out GW.out
          have C10 := hide (C9.asideT (p := ⟨w.heap.size, 0, none⟩) V4 (.slice (some ⟨g, 0, none⟩) (us.length + 1) cap))
          have V9 := V4.put 0 (.slice (some ⟨g, 0, none⟩) (us.length + 1) cap)
          simp only [List.setIfInBounds_toArray, List.set_cons_zero] at V9
          have v9 := V9.one.1
          have q9 := I9.one
          clear hHeld V1 V2 V4 q1 q2 q4 q5 C9 C1 C2 V9 v0 n0
          generalize w5.setCell ⟨w.heap.size, 0, none⟩ (.slice (some ⟨g, 0, none⟩) (us.length + 1) cap) = W9 at I9 T9 C10 v9 q9 ⊢
          go_wp2
          refine bodyPost_ret (v := .agg #[.slice (some ⟨g, 0, none⟩) (us.length + 1) cap]) (by simp [results, Try.results97, go_sem, q9]) rfl ?_
          exact ⟨g, cap, ⟨A1, cap1, us1, none, 0, []⟩, rfl, ⟨HL1.out.1, HL1.out.2, rfl, like_refl _⟩, C10.out.asideT (p := ⟨w.heap.size + 1, 0, none⟩) I9 _, T9.out.far (by simp) _⟩
        · skip
          go_simp
          refine hK.out _ _ (by exact ⟨hHeld.1.more _, hHeld.2.out.trans (.below (below_alloc1 _ _))⟩) (fun hHeld => ?_)
          clear hK K
          refine take_one 1 (by kernel_rfl) rfl (fun K hK => ?_)
          go_simp
          refine hK.out _ _ (by exact hHeld) (fun hHeld => ?_)
          clear hK K
          refine take_one 12 (by kernel_rfl) rfl (fun K hK => ?_)
          (refine step_append_lies _ (by rfl) _ _ _ (by rfl) base 45 i0 _ 2 48 Try.underlying23 I0.out I1.out I2.out I3.out rfl (by omega) (.slice (some ⟨G, 0, none⟩) us.length xc) us.length (flatN us) (by rfl) (HR.out.alloc _) ⟨w3.heap.size, 0, none⟩ 1 1 (cellsN ⟨A1, cap1, us1, none, 0, []⟩) (by rfl) (by rfl) (World.news_of_block (cs := #[.slice A1 us1.length cap1, .slice none 0 0]) (t := 45) (fr := (0, 0)) (heap_alloc_new w3 _)) (by simp [cellsN, Value.oneCell']) (by omega) (by unfold maxLen; omega) (by omega) (by simp; omega) _ rfl ?_; intro g cap w5 hown2 hgrow hat hlt2; have V4 := (V2.more (.cells #[.slice A1 us1.length cap1, .slice none 0 0] 45)).kept hgrow (by intro e; have hq := HTY.out _ e; obtain ⟨_, _, h1, h2⟩ := hq; omega); have q5 := V4.one; have OW := hide hown2; have GW := hide hgrow; clear hown2)
          simp only [List.getElem_toArray, List.getElem_cons_zero, List.getElem_cons_succ, Act.put, List.setIfInBounds_toArray, List.set_cons_zero, List.set_cons_succ]
          refine hK.out _ _ (by exact ⟨hHeld.1.kept hgrow (by intro e; have hq := HTY.out _ e; obtain ⟨_, _, h1, h2⟩ := hq; omega), hHeld.2.out.trans (.of hgrow (fun g e => by injection e with e; subst e; rfl))⟩) (fun hHeld => ?_)
          clear hK K
          refine take_run 13 (some 20) (v := ?_) rfl rfl (by kernel_rfl) (by kernel_rfl) (by kernel_rfl) (fun _ _ _ h => h) (by rfl) ?_ hHeld ?_
          rotate_left
          · ((intro w hSw); (try dsimp only at hSw); go_simp <;> with_reducible rfl)
          simp only [Act.put, List.setIfInBounds_toArray, List.set_cons_zero, List.set_cons_succ]
          refine take_one 14 (by kernel_rfl) rfl (fun K hK => ?_)
          go_simp
          refine hK.out _ _ (by exact ⟨hHeld.1.aside (by simp) _, hHeld.2.out.far (by simp) _⟩) (fun hHeld => ?_)
          clear hK K
          refine wpAnyH_done (by kernel_rfl) ?_ _
          refine NoPanic.normal ?_
          have I9 := hHeld.1
          have T9 := hHeld.2
          have C9 := C1.out.push (w1 := w3.alloc (.cells #[.slice A1 us1.length cap1, .slice none 0 0] 45)) (v := ⟨A1, cap1, us1, none, 0, []⟩) (g := g) (cap := cap) (w2 := w5) (HB3.out.trans ((below_alloc1 w3 _).mono HB3.out.size)) ((HR1.out.on (below_alloc1 w3 _)).wide (by simp)) (.inl rfl) (fun g _ h2 => h2.elim (fun h2 => h2.1 rfl) (fun h2 => by simp [Value.ownBlock] at h2)) (CRow.start _ _ (by have := HB3.out.size; simp; omega)) OW.out GW.out
          have C10 := hide (C9.asideT (p := ⟨w.heap.size, 0, none⟩) V4 (.slice (some ⟨g, 0, none⟩) (us.length + 1) cap))
          have V9 := V4.put 0 (.slice (some ⟨g, 0, none⟩) (us.length + 1) cap)
          simp only [List.setIfInBounds_toArray, List.set_cons_zero] at V9
          have v9 := V9.one.1
          have q9 := I9.one
          clear hHeld V1 V2 V4 q1 q2 q4 q5 C9 C1 C2 V9 v0 n0
          generalize w5.setCell ⟨w.heap.size, 0, none⟩ (.slice (some ⟨g, 0, none⟩) (us.length + 1) cap) = W9 at I9 T9 C10 v9 q9 ⊢
          go_wp2
          refine bodyPost_ret (v := .agg #[.slice (some ⟨g, 0, none⟩) (us.length + 1) cap]) (by simp [results, Try.results97, go_sem, q9]) rfl ?_
          exact ⟨g, cap, ⟨A1, cap1, us1, none, 0, []⟩, rfl, ⟨HL1.out.1, HL1.out.2, rfl, like_refl _⟩, C10.out.asideT (p := ⟨w.heap.size + 1, 0, none⟩) I9 _, T9.out.far (by simp) _⟩
theorem l3Join_any (base p : Nat) (xa : Option Addr) (xc : Nat) (us : List Nd) (nd : Nd) (w : World) (hG : GRow base w (.slice xa us.length xc) us) (hp : us.length = p + 1) (hp4 : p + 1 ≤ 4) (hnd : us[p]? = some nd) (hm : nd.ss.length ≤ 1048576 ∧ Small nd.ss) :
    Calls Try.prog 97 #[.agg #[.slice xa us.length xc]] w fun e w' => ∃ (g cap : Nat) (v' : Nd), e = .returned (.agg #[.slice (some ⟨g, 0, none⟩) (us.length + 1) cap]) ∧ Nd.like v' (bare nd) ∧ GRow base w' (.slice (some ⟨g, 0, none⟩) (us.length + 1) cap) (us ++ [v']) ∧ Turn (fun g => base ≤ g ∧ g < w.heap.size) w w' :=
  (l3JoinT_any base p xa xc us nd w hG hp hp4 hnd hm).mono fun e w' h => by
    obtain ⟨g, cap, v', h1, h2, h3, h4⟩ := h
    exact ⟨g, cap, v', h1, h2, h3, h4.os, h4.tape, h4.output, h4.size, fun k hk hn => h4.block k hk (fun hp => hn (by
      subst hp
      obtain ⟨_, _, q1, q2⟩ := hG.typed k rfl
      exact ⟨q1, q2⟩))⟩
end Go.Proofs.Ytjnloillcgeodaa
/- Chains of valid nodes that a call answers: few marks; compared, marked, and the marks found again. -/
namespace Go.Proofs.Ytjnloillcgeodaa
open Go.RowKit Go.Joins

/-- At most four nodes, each valid by itself. -/
def FineN (rs : List Nd) : Prop := rs.length ≤ 4 ∧ ∀ (i : Nat) n, rs[i]? = some n → nodeB n = true
theorem FineN.like {us rs : List Nd} (h : NL us rs) (hr : FineN rs) : FineN us := ⟨by rw [h.1]; exact hr.1, fun i n hi => by
  obtain ⟨m, hm, hl⟩ := nl_at h hi
  rw [nodeB_like hl]
  exact hr.2 i m hm⟩
theorem node_ts {n : Nd} (h : nodeB n = true) : (n.ss.length = 4 ∧ ∀ v ∈ n.ss, v.ts.length ≤ 4) ∧ n.ws.length ≤ 6 ∧ ∀ v ∈ n.ws, v.ts.length ≤ 4 := by
  obtain ⟨h1, h2, h3⟩ := nodeB_parts h
  exact ⟨⟨storeB_four h1, (few_store h1).2⟩, h2, fun v hv => Nat.le_of_eq (pastB_len4 (verB_parts (h3 v hv)).2.2.2)⟩
theorem FineN.small {rs : List Nd} (h : FineN rs) : SmallN rs := fun n hn => by
  obtain ⟨i, hi⟩ := List.getElem?_of_mem hn
  obtain ⟨⟨h1, h2⟩, h3, h4⟩ := node_ts (h.2 i n hi)
  exact ⟨by omega, by omega, fun v hv => by have := h2 v hv; omega, fun v hv => by have := h4 v hv; omega⟩
theorem wtN_fine {n : Nd} (h : nodeB n = true) : wtN n ≤ 130 := by
  obtain ⟨⟨h1, h2⟩, h3, h4⟩ := node_ts h
  have := few_wts n.ss h2
  have := few_wts n.ws h4
  unfold wtN
  omega
theorem wtNs_fine : ∀ (rs : List Nd), (∀ n ∈ rs, nodeB n = true) → wtNs rs ≤ 130 * (rs.length : Int)
  | [], _ => by simp [wtNs]
  | n :: r, h => by
    have h1 := wtNs_fine r (fun x hx => h x (List.mem_cons_of_mem _ hx))
    have h2 := wtN_fine (h n (List.mem_cons_self ..))
    unfold wtNs at *
    simp at *
    omega
theorem FineN.wt {rs : List Nd} (h : FineN rs) : wtNs rs ≤ 520 := by
  have := wtNs_fine rs (fun n hn => by obtain ⟨i, hi⟩ := List.getElem?_of_mem hn; exact h.2 i n hi)
  have := h.1
  omega
theorem eqChain_fine (B U B' U' : Nat) (A A' : Option Addr) (c c' : Nat) (rs us us' : List Nd) (w : World) (hf : FineN rs) (h : NL us rs) (h' : NL us' rs) (hR : ResN w B U A us) (hR' : ResN w B' U' A' us') :
    Calls Try.prog 23 #[.agg #[.slice A rs.length c], .agg #[.slice A' rs.length c']] w fun e w' => e = .returned (.bool true) ∧ Below w.heap.size w w' :=
  eqChain_same B U B' U' A A' c c' rs.length us us' w (by have := hf.1; omega) h.1 h'.1 (nl_trans h (nl_symm h')).2 (hf.like h).small hR hR'
theorem markChain_fine (B U : Nat) (A : Option Addr) (c : Nat) (rs us : List Nd) (w : World) (hf : FineN rs) (h : NL us rs) (hR : ResN w B U A us) :
    Calls Try.prog 24 #[.agg #[.slice A rs.length c], .int .i64 1] w fun e w' => e = .returned (.int .i64 (1 + wtNs us)) ∧ ResN w' B U A (mkNs 1 us) ∧ Turn (fun g => B ≤ g ∧ g < U) w w' :=
  markChain_any B U A c rs.length us 1 w hR h.1 (hf.like h).small (by have := hf.1; omega) (by omega) (by have := (hf.like h).wt; omega)
theorem heldChain_fine (B U : Nat) (A : Option Addr) (c : Nat) (rs us : List Nd) (w : World) (hf : FineN rs) (h : NL us rs) (hR : ResN w B U A (mkNs 1 us)) :
    Calls Try.prog 25 #[.agg #[.slice A rs.length c], .int .i64 1] w fun e w' => e = .returned (.int .i64 (1 + wtNs us)) ∧ Below w.heap.size w w' :=
  heldChain_any B U A c rs.length us 1 w hR h.1 (hf.like h).small (by have := hf.1; omega) (by omega) (by have := (hf.like h).wt; omega)
theorem joinN_fine (ns : List Nd) : FineN (joinN ns) := by
  cases hc : chainB ns with
  | false => rw [(joinN_no hc).1]; exact ⟨by simp, fun i n hi => by simp at hi⟩
  | true =>
    obtain ⟨⟨h1, h4⟩, hB, _⟩ := chainB_parts hc
    by_cases h44 : ns.length = 4
    · rw [(joinN_full hc h44).1]
      exact ⟨h4, hB⟩
    · obtain ⟨p, hp⟩ : ∃ p, ns.length = p + 1 := ⟨ns.length - 1, by omega⟩
      obtain ⟨n, hn⟩ : ∃ n, ns[p]? = some n := ⟨_, List.getElem?_eq_getElem (by omega)⟩
      rw [(joinN_yes hc hp (by omega) hn).1]
      refine ⟨by simp; omega, fun i x hx => ?_⟩
      rcases snoc_get rfl i x hx with ⟨_, rfl⟩ | ⟨_, hq⟩
      · exact nodeB_mk (nodeB_parts (hB p n hn)).1 (by simp [bare]) (fun i v hi => by simp [bare] at hi)
      · exact hB i x hq
end Go.Proofs.Ytjnloillcgeodaa
/- A version comes to a node: said plainly; and one node of a row of nodes changed in memory. No condition. -/
namespace Go.Proofs.Ytjnloillcgeodaa
open Go.RowKit Go.Joins

/-- A node to which a version comes, if that is later: it waits to be passed on, unless the node is the last one. -/
def addNd (n : Nd) (last : Bool) (v : V) : Nd := match stepL n.ss v with | some ss' => ⟨n.sa, n.sc, ss', n.wa, n.wc, if last = true then n.ws else n.ws ++ [v]⟩ | none => n
def addN (ns : List Nd) (k : Nat) (v : V) : List Nd := match ns[k]? with | some n => ns.set k (addNd n (decide (k + 1 = ns.length)) v) | none => ns
theorem ll_snoc {us vs : List V} {v u : V} (h : LL us vs) (hl : V.like v u) : LL (us ++ [v]) (vs ++ [u]) := by
  refine ⟨by simp [h.1], fun i x y hx hy => ?_⟩
  rcases snoc_get rfl i x hx with ⟨e1, rfl⟩ | ⟨e1, hq⟩ <;> rcases snoc_get rfl i y hy with ⟨e2, rfl⟩ | ⟨e2, hq'⟩
  · exact hl
  · have := h.1; omega
  · have := h.1; omega
  · exact h.2 i x y hq hq'
theorem addNd_like {n m : Nd} {v u : V} (h : Nd.like n m) (hv : V.like v u) (b : Bool) : Nd.like (addNd n b v) (addNd m b u) := by
  unfold addNd
  rcases stepL_like (us := n.ss) (us' := m.ss) ⟨h.1, h.2.1⟩ hv with ⟨q1, q2⟩ | ⟨x, x', q1, q2, q3⟩
  · rw [q1, q2]
    exact h
  · rw [q1, q2]
    cases b
    · exact ⟨q3.1, q3.2, (ll_snoc (us := n.ws) (vs := m.ws) ⟨h.2.2.1, h.2.2.2⟩ hv).1, (ll_snoc (us := n.ws) (vs := m.ws) ⟨h.2.2.1, h.2.2.2⟩ hv).2⟩
    · exact ⟨q3.1, q3.2, h.2.2.1, h.2.2.2⟩
theorem nl_set {us ns : List Nd} {k : Nat} {n m : Nd} (h : NL us ns) (hl : Nd.like n m) : NL (us.set k n) (ns.set k m) := by
  refine ⟨by rw [List.length_set, List.length_set]; exact h.1, fun i x y hx hy => ?_⟩
  by_cases e : i = k
  · subst e
    have h1 : i < us.length := by have := (List.getElem?_eq_some_iff.1 hx).1; rw [List.length_set] at this; exact this
    have h2 : i < ns.length := by have := h.1; omega
    rw [List.getElem?_set_self h1] at hx
    rw [List.getElem?_set_self h2] at hy
    injection hx with hx
    injection hy with hy
    rw [← hx, ← hy]
    exact hl
  · rw [List.getElem?_set_ne (Ne.symm e)] at hx hy
    exact h.2 i x y hx hy
theorem addN_like {us ns : List Nd} {v u : V} (h : NL us ns) (hv : V.like v u) (k : Nat) : NL (addN us k v) (addN ns k u) := by
  unfold addN
  cases hx : us[k]? with
  | none => rw [nl_none h hx]; exact h
  | some n =>
    obtain ⟨m, hm, hl⟩ := nl_at h hx
    rw [hm, h.1]
    exact nl_set h (addNd_like hl hv _)
theorem addNd_ok {n : Nd} {v : V} {b : Bool} (hn : nodeB n = true) (hv : verV v = true) (hr : b = true ∨ n.ws.length < 6) : nodeB (addNd n b v) = true := by
  unfold addNd
  cases hs : stepL n.ss v with
  | none => exact hn
  | some ss' =>
    obtain ⟨h1, h2, h3⟩ := nodeB_parts hn
    have hk := verV_key hv
    have hss : storeB ss' = true := by
      unfold stepL at hs
      split at hs
      · split at hs
        · injection hs with hs
          subst hs
          exact store_put h1 hv (by omega)
        · cases hs
      · cases hs
    refine nodeB_mk hss ?_ (fun i x hi => ?_)
    · cases b
      · simp only [Bool.false_eq_true, if_false, List.length_append, List.length_singleton]
        rcases hr with hr | hr
        · cases hr
        · omega
      · exact h2
    · have hx := List.mem_of_getElem? hi
      cases b
      · simp only [Bool.false_eq_true, if_false, List.mem_append, List.mem_singleton] at hx
        rcases hx with hx | rfl
        · exact h3 x hx
        · exact hv
      · exact h3 x hx
theorem CRow.tagFoot {base : Nat} {w : World} {A : Option Addr} {m c : Nat} {us : List V} (h : CRow base w (.slice A m c) us) {i : Nat} {v : V} (hi : us[i]? = some v) (hne : v.ts ≠ []) {g : Nat} (hg : v.a = some ⟨g, 0, none⟩) : FootS A us g := by
  have h0 : us ≠ [] := fun e => by rw [e] at hi; simp at hi
  rcases h.row.2 with ⟨_, e⟩ | ⟨G, cap, cr, e, _⟩
  · exact absurd (List.length_eq_zero_iff.1 e) h0
  · injection e with e _ _
    exact ⟨h0, G, e, .inr ⟨i, v, hi, hne, hg⟩⟩
/-- One node of a row of nodes is changed; what turns is its own, or the row's. -/
theorem GRow.set {P : Nat → Prop} {base : Nat} {wr w' : World} {x : Value} {us : List Nd} {k : Nat} {n n' : Nd} (h : GRow base wr x us) (hk : us[k]? = some n) (ht : Turn P wr w') (hrow : w'.ownsRow base 45 2 x us.length (flatN (us.set k n')))
    (hs : ResS w' base w'.heap.size n'.sa n'.ss) (hc : CRow base w' (.slice n'.wa n'.ws.length n'.wc) n'.ws) (h2 : ∀ g, FootS n'.sa n'.ss g → ¬ FootW n' g)
    (hP : ∀ g, P g → FootO n g ∨ x.ownBlock = some g) (hf : ∀ g, FootO n' g → FootO n g ∨ wr.heap.size ≤ g) : GRow base w' x (us.set k n') := by
  have hkl := (List.getElem?_eq_some_iff.1 hk).1
  have key : ∀ (i : Nat) y, (us.set k n')[i]? = some y → (i = k ∧ y = n') ∨ (i ≠ k ∧ us[i]? = some y) := by
    intro i y hy
    by_cases e : i = k
    · subst e
      rw [List.getElem?_set_self hkl] at hy
      injection hy with hy
      exact .inl ⟨rfl, hy.symm⟩
    · rw [List.getElem?_set_ne (fun e' => e e'.symm)] at hy
      exact .inr ⟨e, hy⟩
  have hno : ∀ (i : Nat) y, i ≠ k → us[i]? = some y → ∀ g, FootO y g → P g → x.ownBlock = some g := fun i y hne hy g hg hp => by
    rcases hP g hp with q | q
    · exact absurd q (h.apart i k y n hne hy hk g hg)
    · exact q
  have hkR : ∀ {B U : Nat} {A : Option Addr} {l : List V} {g : Nat}, ResS wr B U A l → FootS A l g → ¬ x.ownBlock = some g := fun hr hf e => by
    obtain ⟨cs, h1, _⟩ := h.typed _ e
    obtain ⟨T, cs', h3, h4, _⟩ := hr.typed hf
    exact h4 (blk_one h3 h1)
  refine ⟨by rw [List.length_set]; exact hrow, fun i y hy => ?_, fun i y hy => ?_, fun i y hy => ?_, fun i j y y' hne hy hy' => ?_, Nat.le_trans h.lo ht.size, fun i y hy => ?_⟩
  · rcases key i y hy with ⟨_, rfl⟩ | ⟨e, hq⟩
    · exact hs
    · exact ((h.store i y hq).turnF ht (fun g hg hp => hkR (h.store i y hq) hg (hno i y e hq g (.inl hg) hp))).wide ht.size
  · rcases key i y hy with ⟨_, rfl⟩ | ⟨e, hq⟩
    · obtain ⟨A, cap, e, hR⟩ := hc.resS
      injection e with e _ _
      rw [e]
      exact hR
    · exact ((h.wait i y hq).turnF ht (fun g hg hp => hkR (h.wait i y hq) hg (hno i y e hq g (.inr (.inl hg)) hp))).wide ht.size
  · rcases key i y hy with ⟨_, rfl⟩ | ⟨e, hq⟩
    · exact h2
    · exact h.two i y hq
  · intro g h3 h4
    rcases key i y hy with ⟨e1, rfl⟩ | ⟨e1, hq⟩ <;> rcases key j y' hy' with ⟨e2, rfl⟩ | ⟨e2, hq'⟩
    · omega
    · rcases hf g h3 with q | q
      · exact h.apart k j n y' (fun e => e2 e.symm) hk hq' g q h4
      · have := h.foot hq' h4; omega
    · rcases hf g h4 with q | q
      · exact h.apart k i n y (fun e => e1 e.symm) hk hq g q h3
      · have := h.foot hq h3; omega
    · exact h.apart i j y y' hne hq hq' g h3 h4
  · rcases key i y hy with ⟨_, rfl⟩ | ⟨e, hq⟩
    · exact hc
    · refine (h.own i y hq).turned ht (fun g hg hp => ?_) (fun l v hl g hg _ hne hp => ?_)
      · have e1 := hno i y e hq g (.inr (.inr hg)) hp
        obtain ⟨cs, b1, _⟩ := h.typed g e1
        obtain ⟨cs', b2, _⟩ := (h.own i y hq).typed g hg
        exact node_ne_ver (blk_one b1 b2)
      · have hft := (h.own i y hq).tagFoot hl hne hg
        exact hkR (h.wait i y hq) hft (hno i y e hq g (.inr (.inl hft)) hp)
end Go.Proofs.Ytjnloillcgeodaa
