/- Contracts of ChainJoin, of program and model. Condition: sizes that memory holds. -/
import Derived.Test.YtnaggcdhimcilaaGreatJChainClone2
import Derived.Test.YtnaggcdhimcilaaGreatJChainStable
import Derived.Test.YtnaggcdhimcilaaGreatJStoreRes
namespace Go.Proofs.YtnaggcdhimcilaaGreat
open Go.RowKit Go.Joins
attribute [local go_sem ↓] Go.wp_at_zero Go.wp_at_succ

theorem ResS.typed2 {w : World} {B U : Nat} {A : Option Addr} {us : List V} (h : ResS w B U A us) {g : Nat} (hg : FootS A us g) : ∃ T cs, Blk w g T cs ∧ T ≠ 32 := by
  obtain ⟨h0, G, rfl, hf⟩ := hg
  rcases h with h | ⟨G', cur, e, hO⟩
  · exact absurd h h0
  · injection e with e
    injection e with e
    subst e
    rcases hf with rfl | ⟨i, v, hi, hn, ha⟩
    · exact ⟨_, _, hO.blk, by decide⟩
    · rcases hO.own i v hi with q | ⟨g', c', e1, q1, q2, q3, _⟩
      · exact absurd q hn
      · rw [e1] at ha
        injection ha with ha
        injection ha with ha
        subst ha
        exact ⟨_, _, q3, by decide⟩
/-- A store into a variable that is a chain. -/
theorem GRow.asideT {base : Nat} {wr : World} {x : Value} {us : List Nd} (h : GRow base wr x us) {p : Addr} {cs : Array Value} (hb : Blk wr p.block 32 cs) (u : Value) : GRow base (wr.setCell p u) x us := by
  have hz : (wr.setCell p u).heap.size = wr.heap.size := by simp [World.setCell]
  have ht : Turn (fun g => g = p.block) wr (wr.setCell p u) := (Turn.refl (fun g => g = p.block) wr).set (p := p) rfl u
  have hk : ∀ {B U : Nat} {A : Option Addr} {l : List V}, ResS wr B U A l → ResS (wr.setCell p u) B U A l := fun hr => hr.turnF ht (fun y hf e => by
    obtain ⟨T, cs', h3, h4⟩ := hr.typed2 hf
    subst e
    exact h4 (blk_one h3 hb))
  refine ⟨⟨h.row.1, ?_⟩, fun i v hi => ?_, fun i v hi => ?_, h.two, h.apart, by rw [hz]; exact h.lo, fun i v hi => (h.own i v hi).turnedT ht (fun g e => by subst e; exact ⟨_, cs, hb, by decide, by decide⟩)⟩
  · rcases h.row.2 with h' | ⟨g, cap, cr, h1, h2, h3, h4⟩
    · exact .inl h'
    · refine .inr ⟨g, cap, cr, h1, h2, ?_, h4⟩
      exact Blk.aside (show Blk wr g 90 cr from h3) (fun e => by subst e; exact absurd (blk_one (show Blk wr p.block 90 cr from h3) hb) (by decide)) u
  · rw [hz]
    exact hk (h.store i v hi)
  · rw [hz]
    exact hk (h.wait i v hi)
/-- A node that comes: what the last one has, and nothing waits. -/
def bare (n : Nd) : Nd := ⟨n.sa, n.sc, n.ss, none, 0, []⟩
/-- What ChainJoin answers. -/
def joinN (ns : List Nd) : List Nd := if chainB ns = true then (if ns.length = 4 then ns else ns ++ (match ns[ns.length - 1]? with | some n => [bare n] | none => [])) else []
def joinK (ns : List Nd) : Bool := chainB ns && decide (ns.length < 4)
theorem joinN_no {ns : List Nd} (h : chainB ns = false) : joinN ns = [] ∧ joinK ns = false := by unfold joinN joinK; rw [h]; exact ⟨rfl, rfl⟩
theorem joinN_full {ns : List Nd} (h : chainB ns = true) (h4 : ns.length = 4) : joinN ns = ns ∧ joinK ns = false := by unfold joinN joinK; rw [h, h4]; exact ⟨rfl, rfl⟩
theorem joinN_yes {ns : List Nd} {p : Nat} {n : Nd} (h : chainB ns = true) (hp : ns.length = p + 1) (h4 : p + 1 < 4) (hn : ns[p]? = some n) : joinN ns = ns ++ [bare n] ∧ joinK ns = true := by
  unfold joinN joinK
  rw [h, if_pos rfl, if_neg (by omega), hp, Nat.add_sub_cancel, hn, decide_eq_true h4]
  exact ⟨rfl, rfl⟩
theorem nl_append {us ns : List Nd} {v n : Nd} (h : NL us ns) (hl : Nd.like v n) : NL (us ++ [v]) (ns ++ [n]) := by
  refine ⟨by simp [h.1], fun i x y hx hy => ?_⟩
  rcases snoc_get rfl i x hx with ⟨e1, rfl⟩ | ⟨e1, hq⟩ <;> rcases snoc_get rfl i y hy with ⟨e2, rfl⟩ | ⟨e2, hq'⟩
  · exact hl
  · have := h.1; omega
  · have := h.1; omega
  · exact h.2 i x y hq hq'
theorem bare_like {n m : Nd} (h : Nd.like n m) : Nd.like (bare n) (bare m) := ⟨h.1, h.2.1, rfl, like_refl _⟩
theorem joinN_like {us ns : List Nd} (h : NL us ns) : NL (joinN us) (joinN ns) ∧ joinK us = joinK ns := by
  refine ⟨?_, by unfold joinK; rw [chainB_like h, h.1]⟩
  cases hc : chainB ns with
  | false => rw [(joinN_no hc).1, (joinN_no ((chainB_like h).trans hc)).1]; exact ⟨rfl, fun i x y hx => by simp at hx⟩
  | true =>
    have hc' := (chainB_like h).trans hc
    by_cases h4 : ns.length = 4
    · rw [(joinN_full hc h4).1, (joinN_full hc' (h.1.trans h4)).1]
      exact h
    · obtain ⟨⟨h1, h5⟩, _⟩ := chainB_parts hc
      obtain ⟨p, hp⟩ : ∃ p, ns.length = p + 1 := ⟨ns.length - 1, by omega⟩
      obtain ⟨n, hn⟩ : ∃ n, us[p]? = some n := ⟨_, List.getElem?_eq_getElem (by have := h.1; omega)⟩
      obtain ⟨m, hm, hl⟩ := nl_at h hn
      rw [(joinN_yes hc hp (by omega) hm).1, (joinN_yes hc' (h.1.trans hp) (by omega) hn).1]
      exact nl_append h (bare_like hl)
/-- An answer that is a chain, and whether it was done. -/
def AnswerCB (w : World) (rs : List Nd) (b : Bool) (e : Ending) (w' : World) : Prop :=
  ∃ (A : Option Addr) (cap : Nat) (us : List Nd), e = .returned (.tuple #[.agg #[.slice A rs.length cap], .bool b]) ∧ NL us rs ∧ ResN w' w.heap.size w'.heap.size A us ∧ Below w.heap.size w w'
theorem answerCB_none {w w' : World} {rs : List Nd} {b : Bool} (hr : rs = [] ∧ b = false) (hb : Below w.heap.size w w') : AnswerCB w rs b (.returned (.tuple #[.agg #[.slice none 0 0], .bool false])) w' := by
  obtain ⟨rfl, rfl⟩ := hr
  exact ⟨none, 0, [], rfl, ⟨rfl, fun i x y hx => by simp at hx⟩, .inl rfl, hb⟩
theorem answerCB_row {w w' : World} {rs us : List Nd} {b : Bool} {A : Option Addr} {m cap : Nat} (h : GRow w.heap.size w' (.slice A m cap) us) (hl : NL us rs) (hb : Below w.heap.size w w') : AnswerCB w rs b (.returned (.tuple #[.agg #[.slice A m cap], .bool b])) w' := by
  obtain ⟨e, hR⟩ := h.res
  exact ⟨A, cap, us, by rw [e, hl.1], hl, hR, hb⟩
end Go.Proofs.YtnaggcdhimcilaaGreat
/- Contract of the program's ChainJoin. Condition: sizes that memory holds. -/
namespace Go.Proofs.YtnaggcdhimcilaaGreat
open Go.RowKit Go.Joins
attribute [local go_sem ↓] Go.wp_at_zero Go.wp_at_succ

set_option maxRecDepth 100000 in
set_option maxHeartbeats 4000000 in
theorem implChainJoin_any (A : Option Addr) (c : Nat) (ns : List Nd) (w : World) (hn : ns.length ≤ 1048576) (hm : SmN ns) (hC : CgA w A ns) :
    Calls Tryz.prog 49 #[.agg #[.slice A ns.length c]] w (AnswerCB w (joinN ns) (joinK ns)) := by
  obtain ⟨i0, hi0, hz0, hz1, hz2⟩ := info_parts node_info
  have I0 := hide hi0
  have I1 := hide hz0
  have I2 := hide hz1
  have I3 := hide hz2
  clear hi0 hz0 hz1 hz2
  have S0 := ((Inv.start w).box 32 #[.slice A ns.length c]).box 32 #[.slice none 0 0]
  simp only [World.size_alloc] at S0
  have C0 := hide (implChainOk_any A c ns ((w.alloc (.cells #[.slice A ns.length c] 32)).alloc (.cells #[.slice none 0 0] 32)) hn hm (hC.on S0.below))
  have k0 := (S0.nth 1 rfl).one.1
  have HM := hide hm
  have HC := hide hC
  clear hm hC
  cases ho : chainB ns
  · have HE := hide (joinN_no ho)
    rw [ho] at C0
    clear ho
    go_enter Tryz.func49, Tryz.ntmps49
    go_wp2_with fail
    with_reducible refine C0.out.mono ?_
    rintro e w1 ⟨rfl, hb1⟩
    have S1 := S0.on hb1
    have q1 := (S1.nth 0 rfl).one
    clear S0 C0 k0
    go_wp2
    refine bodyPost_ret (v := .tuple #[.agg #[.slice none 0 0], .bool false]) (by simp [results, Tryz.results49, go_sem, q1]) rfl ?_
    exact answerCB_none HE.out (S1.below.setCell (by simp) _)
  · have HOK := hide ho
    rw [ho] at C0
    obtain ⟨⟨h1, h4⟩, hB, hst⟩ := chainB_parts ho
    obtain ⟨p, hp⟩ : ∃ p, ns.length = p + 1 := ⟨ns.length - 1, by omega⟩
    obtain ⟨nd, hnd⟩ : ∃ nd, ns[p]? = some nd := ⟨_, List.getElem?_eq_getElem (by omega)⟩
    have HWS : Hid (nd.ws.length = 0) := by
      have := hst p (by omega)
      rw [stepB_last hnd hp.symm] at this
      unfold Hid
      simpa using this
    rcases HC.out with h0 | ⟨G, cur, rfl, hG⟩
    · rw [h0] at h1; simp at h1
    have HG := hide hG
    have HND := hide hnd
    have HMN := hide (HM.out p nd hnd)
    have HP := hide hp
    have CTL : Hid (∀ W, Below w.heap.size w W → Calls Tryz.prog 72 #[.agg #[.slice (some ⟨G, 0, none⟩) ns.length c]] W fun e w' => e = .returned (.agg #[.slice nd.sa nd.ss.length nd.sc, .slice nd.wa nd.ws.length nd.wc]) ∧ Below W.heap.size W w') := fun W hW => by
      have := tail_any G c p ns cur nd W (by omega) (HG.out.on hW) HND.out
      rw [← HP.out] at this
      exact this
    have CCL : Hid (∀ W, Below w.heap.size w W → Calls Tryz.prog 89 #[.agg #[.slice nd.sa nd.ss.length nd.sc, .slice nd.wa nd.ws.length nd.wc]] W (ClonedNd W nd)) := fun W hW => nodeClone_any nd W HMN.out.1 HMN.out.2.1 HMN.out.2.2 ((HG.out.on hW).store p nd HND.out) ((HG.out.on hW).wait p nd HND.out)
    clear ho hB hst hG hnd hp
    have CC : Hid (∀ W, Below w.heap.size w W → Calls Tryz.prog 66 #[.agg #[.slice (some ⟨G, 0, none⟩) ns.length c]] W (ClonedC W ns)) := fun W hW => chainClone_any _ c ns W hn HM.out (HC.out.on hW)
    go_enter Tryz.func49, Tryz.ntmps49
    go_wp2_with fail
    with_reducible refine C0.out.mono ?_
    rintro e w1 ⟨rfl, hb1⟩
    have S1 := S0.on hb1
    have k1 := (S1.nth 1 rfl).one.1
    have zr := S1.room
    have zb := S1.base
    clear S0 C0 k0
    go_wp2_with fail
    with_reducible refine (CC.out _ S1.below).mono ?_
    rintro e w2 ⟨x, us, rfl, hul, hgr, hb2⟩
    obtain ⟨xa, xc, rfl⟩ := hgr.form
    have HUL := hide hul
    have HLN := hide hul.1
    have z2 := hb2.size
    have S2 := (S1.on hb2).alloc (.cells #[.slice xa us.length xc] 32)
    have V0 := Blk.made w2 32 #[.slice xa us.length xc]
    have BA := hide (below_alloc1 w2 (.cells #[.slice xa us.length xc] 32))
    have HGR := hide (hgr.on BA.out)
    have HTY := hide hgr.typed
    clear S1 k1 hb2 hul hgr
    by_cases h44 : ns.length = 4
    · have HE := hide (joinN_full HOK.out h44)
      have e4 : ((us.length : Int) == 4) = true := by rw [HLN.out, h44]; rfl
      have v0 := V0.one.1
      have q1 := (S2.nth 0 rfl).one
      clear h44
      go_wp2
      refine bodyPost_ret (v := .tuple #[.agg #[.slice xa us.length xc], .bool false]) (by simp [results, Tryz.results49, go_sem, q1]) rfl ?_
      rw [HE.out.1, HE.out.2]
      exact answerCB_row ((HGR.out.aside (p := ⟨w.heap.size + 1, 0, none⟩) (by simp only; omega) _).down zb) HUL.out (S2.below.setCell (by simp) _)
    · have HE := hide (joinN_yes HOK.out HP.out (by have := HP.out; omega) HND.out)
      have e4 : ((us.length : Int) == 4) = false := by have := HLN.out; rw [beq_eq_false_iff_ne]; omega
      have v0 := V0.one.1
      have V1 := V0.drew
      have q1 := V1.one.1
      have C1 := hide (HGR.out.on (Below.refl _ _).drew)
      have J1 := S2.drew
      have hu4 : us.length ≤ 4 := by have := HLN.out; omega
      clear h1 h4 h44 hn
      go_wp2_with fail
      generalize hW0 : w2.alloc (.cells #[.slice xa us.length xc] 32) = W0 at V0 V1 v0 q1 C1 J1 BA HGR S2 ⊢
      have zA : w2.heap.size < W0.heap.size := by rw [← hW0]; simp
      clear hW0
      refine wp_region_noPanic ?_
      refine wp_region_held_drew (S := (fun w' => w'.cell? ⟨w.heap.size, 0, none⟩ = some (.slice (some ⟨G, 0, none⟩) ns.length c) ∧ Inv w (w.heap.size + 1 + 1) [(w.heap.size + 1, 32, #[.slice none 0 0]), (w.heap.size, 32, #[.slice (some ⟨G, 0, none⟩) ns.length c])] w')) (by kernel_rfl) (by exact ⟨(J1.nth 1 rfl).at 0, J1⟩) (fun hHeld => ?_)
      refine take_run 0 (some 16) (v := ?_) rfl rfl (by kernel_rfl) (by kernel_rfl) (by kernel_rfl) (fun _ _ _ h => h) (by rfl) ?_ hHeld ?_
      rotate_left
      · ((intro w hSw); (try dsimp only at hSw); go_simp <;> with_reducible rfl)
      simp only [Act.put, List.setIfInBounds_toArray, List.set_cons_zero, List.set_cons_succ]
      refine take_run 2 (some 18) (v := ?_) rfl rfl (by kernel_rfl) (by kernel_rfl) (by kernel_rfl) (fun _ _ _ h => h) (by rfl) ?_ hHeld ?_
      rotate_left
      · ((intro w hSw); (try dsimp only at hSw); go_simp <;> with_reducible rfl)
      simp only [Act.put, List.setIfInBounds_toArray, List.set_cons_zero, List.set_cons_succ]
      refine wpAnyH_ready (rs := [1, 3]) (by kernel_rfl) (by simp) ?_
      refine AllReadyH.cons rfl (fun K hK => ?_) (AllReadyH.cons rfl (fun K hK => ?_) AllReadyH.nil)
      · skip
        go_simp
        refine hK.out _ _ (by exact hHeld) (fun hHeld => ?_)
        clear hK K
        refine take_one 3 (by kernel_rfl) rfl (fun K hK => ?_)
        go_simp
        ((with_reducible refine (CTL.out _ hHeld.2.below).mono ?_); rintro e w3 ⟨rfl, hb3⟩; have C2 := hide (C1.out.on hb3); have V2 := V1.on hb3; have z3 : W0.heap.size ≤ w3.heap.size := (by have := hb3.size; simpa using this); have HB3 := hide hb3; have q2 := V2.one.1)
        try go_wp2_with fail
        refine hK.out _ _ (by exact ⟨((hHeld.2.on HB3.out).nth 1 rfl).at 0, hHeld.2.on HB3.out⟩) (fun hHeld => ?_)
        clear hK K
        refine take_one 4 (by kernel_rfl) rfl (fun K hK => ?_)
        go_simp
        ((with_reducible refine (CCL.out _ hHeld.2.below).mono ?_); rintro e w4 ⟨v', rfl, hlike, hs1, hw1, h21, hc1, hb4⟩; have HC1 := hide hc1; have C3 := hide (C2.out.on hb4); have V3 := V2.on hb4; have z4 : w3.heap.size ≤ w4.heap.size := hb4.size; have HB4 := hide hb4; have q3 := V3.one.1; have HLI := hide hlike; have HS1 := hide hs1; have HW1 := hide hw1; have H21 := hide h21; have HR := hide C3.out.row; have q4 := (V3.more (.cells #[.slice v'.sa v'.ss.length v'.sc, .slice v'.wa v'.ws.length v'.wc] 90)).one.1; clear hlike hs1 hw1 h21 hc1)
        try go_wp2_with fail
        refine hK.out _ _ (by exact ⟨((hHeld.2.on HB4.out).nth 1 rfl).at 0, hHeld.2.on HB4.out⟩) (fun hHeld => ?_)
        clear hK K
        refine take_one 5 (by kernel_rfl) rfl (fun K hK => ?_)
        go_simp
        refine hK.out _ _ (by exact ⟨((hHeld.2.alloc _).nth 1 rfl).at 0, hHeld.2.alloc _⟩) (fun hHeld => ?_)
        clear hK K
        refine take_one 6 (by kernel_rfl) rfl (fun K hK => ?_)
        (refine step_append_lies _ (by rfl) _ _ _ (by rfl) w1.heap.size 90 i0 _ 2 48 Tryz.underlying30 I0.out I1.out I2.out I3.out rfl (by omega) (.slice xa us.length xc) us.length (flatN us) (by rfl) (HR.out.alloc _) ⟨w4.heap.size, 0, none⟩ 1 1 (cellsN v') (by rfl) (by rfl) (World.news_of_block (cs := #[.slice v'.sa v'.ss.length v'.sc, .slice v'.wa v'.ws.length v'.wc]) (t := 90) (fr := (0, 0)) (heap_alloc_new w4 _)) (by simp [cellsN, Value.oneCell']) (by omega) (by unfold maxLen; omega) (by omega) (by simp; omega) _ rfl ?_; intro g cap w5 hown2 hgrow hat hlt2; have V4 := (V3.more (.cells #[.slice v'.sa v'.ss.length v'.sc, .slice v'.wa v'.ws.length v'.wc] 90)).kept hgrow (by intro e; have hq := HTY.out _ e; obtain ⟨_, _, h1, h2⟩ := hq; omega); have q5 := V4.one; have OW := hide hown2; have GW := hide hgrow; clear hown2)
        simp only [List.getElem_toArray, List.getElem_cons_zero, List.getElem_cons_succ, Act.put, List.setIfInBounds_toArray, List.set_cons_zero, List.set_cons_succ]
        refine hK.out _ _ (by exact ⟨((Inv.grow hHeld.2 hgrow (fun g' e => by have hq := HTY.out _ e; obtain ⟨_, _, h1, _⟩ := hq; omega)).nth 1 rfl).at 0, Inv.grow hHeld.2 hgrow (fun g' e => by have hq := HTY.out _ e; obtain ⟨_, _, h1, _⟩ := hq; omega)⟩) (fun hHeld => ?_)
        clear hK K
        refine take_run 7 (some 23) (v := ?_) rfl rfl (by kernel_rfl) (by kernel_rfl) (by kernel_rfl) (fun _ _ _ h => h) (by rfl) ?_ hHeld ?_
        rotate_left
        · ((intro w hSw); (try dsimp only at hSw); go_simp <;> with_reducible rfl)
        simp only [Act.put, List.setIfInBounds_toArray, List.set_cons_zero, List.set_cons_succ]
        refine take_one 8 (by kernel_rfl) rfl (fun K hK => ?_)
        go_simp
        refine hK.out _ _ (by exact ⟨((hHeld.2.set (p := ⟨w2.heap.size, 0, none⟩) (by simp only; omega) (by simp only; omega) _).nth 1 rfl).at 0, hHeld.2.set (p := ⟨w2.heap.size, 0, none⟩) (by simp only; omega) (by simp only; omega) _⟩) (fun hHeld => ?_)
        clear hK K
        refine wpAnyH_done (by kernel_rfl) ?_ _
        refine NoPanic.normal ?_
        have I9 := hHeld.2
        have C9 := C2.out.push (w1 := w4.alloc (.cells #[.slice v'.sa v'.ss.length v'.sc, .slice v'.wa v'.ws.length v'.wc] 90)) (v := v') (g := g) (cap := cap) (w2 := w5) (HB4.out.trans ((below_alloc1 w4 _).mono HB4.out.size)) ((HS1.out.on (below_alloc1 w4 _)).wide (by simp)) ((HW1.out.on (below_alloc1 w4 _)).wide (by simp)) H21.out (HC1.out.on (below_alloc1 w4 _)) OW.out GW.out
        have C10 := hide (C9.asideT (p := ⟨w2.heap.size, 0, none⟩) V4 (.slice (some ⟨g, 0, none⟩) (us.length + 1) cap))
        have V9 := V4.put 0 (.slice (some ⟨g, 0, none⟩) (us.length + 1) cap)
        simp only [List.setIfInBounds_toArray, List.set_cons_zero] at V9
        have v9 := V9.one.1
        have q9 := (I9.nth 0 rfl).one
        have HLL : Hid (Nd.like v' (bare nd)) := ⟨HLI.out.1, HLI.out.2.1, HLI.out.2.2.1.trans HWS.out, fun i x y hx hy => by simp [bare] at hy⟩
        clear hHeld V1 V2 V3 V4 q1 q2 q3 q4 q5 C9 C1 C2 C3 J1 S2 V9 v0
        generalize w5.setCell ⟨w2.heap.size, 0, none⟩ (.slice (some ⟨g, 0, none⟩) (us.length + 1) cap) = W9 at I9 C10 v9 q9 ⊢
        go_wp2
        refine bodyPost_ret (v := .tuple #[.agg #[.slice (some ⟨g, 0, none⟩) (us.length + 1) cap], .bool true]) (by simp [results, Tryz.results49, go_sem, q9]) rfl ?_
        rw [HE.out.1, HE.out.2]
        exact answerCB_row ((C10.out.aside (p := ⟨w.heap.size + 1, 0, none⟩) (by simp only; omega) _).down zb) (nl_append HUL.out HLL.out) (I9.below.setCell (by simp) _)
      · skip
        go_simp
        ((with_reducible refine (CTL.out _ hHeld.2.below).mono ?_); rintro e w3 ⟨rfl, hb3⟩; have C2 := hide (C1.out.on hb3); have V2 := V1.on hb3; have z3 : W0.heap.size ≤ w3.heap.size := (by have := hb3.size; simpa using this); have HB3 := hide hb3; have q2 := V2.one.1)
        try go_wp2_with fail
        refine hK.out _ _ (by exact ⟨((hHeld.2.on HB3.out).nth 1 rfl).at 0, hHeld.2.on HB3.out⟩) (fun hHeld => ?_)
        clear hK K
        refine wpAnyH_ready (rs := [1, 4]) (by kernel_rfl) (by simp) ?_
        refine AllReadyH.cons rfl (fun K hK => ?_) (AllReadyH.cons rfl (fun K hK => ?_) AllReadyH.nil)
        · skip
          go_simp
          refine hK.out _ _ (by exact hHeld) (fun hHeld => ?_)
          clear hK K
          refine take_one 4 (by kernel_rfl) rfl (fun K hK => ?_)
          go_simp
          ((with_reducible refine (CCL.out _ hHeld.2.below).mono ?_); rintro e w4 ⟨v', rfl, hlike, hs1, hw1, h21, hc1, hb4⟩; have HC1 := hide hc1; have C3 := hide (C2.out.on hb4); have V3 := V2.on hb4; have z4 : w3.heap.size ≤ w4.heap.size := hb4.size; have HB4 := hide hb4; have q3 := V3.one.1; have HLI := hide hlike; have HS1 := hide hs1; have HW1 := hide hw1; have H21 := hide h21; have HR := hide C3.out.row; have q4 := (V3.more (.cells #[.slice v'.sa v'.ss.length v'.sc, .slice v'.wa v'.ws.length v'.wc] 90)).one.1; clear hlike hs1 hw1 h21 hc1)
          try go_wp2_with fail
          refine hK.out _ _ (by exact ⟨((hHeld.2.on HB4.out).nth 1 rfl).at 0, hHeld.2.on HB4.out⟩) (fun hHeld => ?_)
          clear hK K
          refine take_one 5 (by kernel_rfl) rfl (fun K hK => ?_)
          go_simp
          refine hK.out _ _ (by exact ⟨((hHeld.2.alloc _).nth 1 rfl).at 0, hHeld.2.alloc _⟩) (fun hHeld => ?_)
          clear hK K
          refine take_one 6 (by kernel_rfl) rfl (fun K hK => ?_)
          (refine step_append_lies _ (by rfl) _ _ _ (by rfl) w1.heap.size 90 i0 _ 2 48 Tryz.underlying30 I0.out I1.out I2.out I3.out rfl (by omega) (.slice xa us.length xc) us.length (flatN us) (by rfl) (HR.out.alloc _) ⟨w4.heap.size, 0, none⟩ 1 1 (cellsN v') (by rfl) (by rfl) (World.news_of_block (cs := #[.slice v'.sa v'.ss.length v'.sc, .slice v'.wa v'.ws.length v'.wc]) (t := 90) (fr := (0, 0)) (heap_alloc_new w4 _)) (by simp [cellsN, Value.oneCell']) (by omega) (by unfold maxLen; omega) (by omega) (by simp; omega) _ rfl ?_; intro g cap w5 hown2 hgrow hat hlt2; have V4 := (V3.more (.cells #[.slice v'.sa v'.ss.length v'.sc, .slice v'.wa v'.ws.length v'.wc] 90)).kept hgrow (by intro e; have hq := HTY.out _ e; obtain ⟨_, _, h1, h2⟩ := hq; omega); have q5 := V4.one; have OW := hide hown2; have GW := hide hgrow; clear hown2)
          simp only [List.getElem_toArray, List.getElem_cons_zero, List.getElem_cons_succ, Act.put, List.setIfInBounds_toArray, List.set_cons_zero, List.set_cons_succ]
          refine hK.out _ _ (by exact ⟨((Inv.grow hHeld.2 hgrow (fun g' e => by have hq := HTY.out _ e; obtain ⟨_, _, h1, _⟩ := hq; omega)).nth 1 rfl).at 0, Inv.grow hHeld.2 hgrow (fun g' e => by have hq := HTY.out _ e; obtain ⟨_, _, h1, _⟩ := hq; omega)⟩) (fun hHeld => ?_)
          clear hK K
          refine take_run 7 (some 23) (v := ?_) rfl rfl (by kernel_rfl) (by kernel_rfl) (by kernel_rfl) (fun _ _ _ h => h) (by rfl) ?_ hHeld ?_
          rotate_left
          · ((intro w hSw); (try dsimp only at hSw); go_simp <;> with_reducible rfl)
          simp only [Act.put, List.setIfInBounds_toArray, List.set_cons_zero, List.set_cons_succ]
          refine take_one 8 (by kernel_rfl) rfl (fun K hK => ?_)
          go_simp
          refine hK.out _ _ (by exact ⟨((hHeld.2.set (p := ⟨w2.heap.size, 0, none⟩) (by simp only; omega) (by simp only; omega) _).nth 1 rfl).at 0, hHeld.2.set (p := ⟨w2.heap.size, 0, none⟩) (by simp only; omega) (by simp only; omega) _⟩) (fun hHeld => ?_)
          clear hK K
          refine wpAnyH_done (by kernel_rfl) ?_ _
          refine NoPanic.normal ?_
          have I9 := hHeld.2
          have C9 := C2.out.push (w1 := w4.alloc (.cells #[.slice v'.sa v'.ss.length v'.sc, .slice v'.wa v'.ws.length v'.wc] 90)) (v := v') (g := g) (cap := cap) (w2 := w5) (HB4.out.trans ((below_alloc1 w4 _).mono HB4.out.size)) ((HS1.out.on (below_alloc1 w4 _)).wide (by simp)) ((HW1.out.on (below_alloc1 w4 _)).wide (by simp)) H21.out (HC1.out.on (below_alloc1 w4 _)) OW.out GW.out
          have C10 := hide (C9.asideT (p := ⟨w2.heap.size, 0, none⟩) V4 (.slice (some ⟨g, 0, none⟩) (us.length + 1) cap))
          have V9 := V4.put 0 (.slice (some ⟨g, 0, none⟩) (us.length + 1) cap)
          simp only [List.setIfInBounds_toArray, List.set_cons_zero] at V9
          have v9 := V9.one.1
          have q9 := (I9.nth 0 rfl).one
          have HLL : Hid (Nd.like v' (bare nd)) := ⟨HLI.out.1, HLI.out.2.1, HLI.out.2.2.1.trans HWS.out, fun i x y hx hy => by simp [bare] at hy⟩
          clear hHeld V1 V2 V3 V4 q1 q2 q3 q4 q5 C9 C1 C2 C3 J1 S2 V9 v0
          generalize w5.setCell ⟨w2.heap.size, 0, none⟩ (.slice (some ⟨g, 0, none⟩) (us.length + 1) cap) = W9 at I9 C10 v9 q9 ⊢
          go_wp2
          refine bodyPost_ret (v := .tuple #[.agg #[.slice (some ⟨g, 0, none⟩) (us.length + 1) cap], .bool true]) (by simp [results, Tryz.results49, go_sem, q9]) rfl ?_
          rw [HE.out.1, HE.out.2]
          exact answerCB_row ((C10.out.aside (p := ⟨w.heap.size + 1, 0, none⟩) (by simp only; omega) _).down zb) (nl_append HUL.out HLL.out) (I9.below.setCell (by simp) _)
        · skip
          go_simp
          ((with_reducible refine (CCL.out _ hHeld.2.below).mono ?_); rintro e w4 ⟨v', rfl, hlike, hs1, hw1, h21, hc1, hb4⟩; have HC1 := hide hc1; have C3 := hide (C2.out.on hb4); have V3 := V2.on hb4; have z4 : w3.heap.size ≤ w4.heap.size := hb4.size; have HB4 := hide hb4; have q3 := V3.one.1; have HLI := hide hlike; have HS1 := hide hs1; have HW1 := hide hw1; have H21 := hide h21; have HR := hide C3.out.row; have q4 := (V3.more (.cells #[.slice v'.sa v'.ss.length v'.sc, .slice v'.wa v'.ws.length v'.wc] 90)).one.1; clear hlike hs1 hw1 h21 hc1)
          try go_wp2_with fail
          refine hK.out _ _ (by exact ⟨((hHeld.2.on HB4.out).nth 1 rfl).at 0, hHeld.2.on HB4.out⟩) (fun hHeld => ?_)
          clear hK K
          refine wpAnyH_ready (rs := [1, 5]) (by kernel_rfl) (by simp) ?_
          refine AllReadyH.cons rfl (fun K hK => ?_) (AllReadyH.cons rfl (fun K hK => ?_) AllReadyH.nil)
          · skip
            go_simp
            refine hK.out _ _ (by exact hHeld) (fun hHeld => ?_)
            clear hK K
            refine take_one 5 (by kernel_rfl) rfl (fun K hK => ?_)
            go_simp
            refine hK.out _ _ (by exact ⟨((hHeld.2.alloc _).nth 1 rfl).at 0, hHeld.2.alloc _⟩) (fun hHeld => ?_)
            clear hK K
            refine take_one 6 (by kernel_rfl) rfl (fun K hK => ?_)
            (refine step_append_lies _ (by rfl) _ _ _ (by rfl) w1.heap.size 90 i0 _ 2 48 Tryz.underlying30 I0.out I1.out I2.out I3.out rfl (by omega) (.slice xa us.length xc) us.length (flatN us) (by rfl) (HR.out.alloc _) ⟨w4.heap.size, 0, none⟩ 1 1 (cellsN v') (by rfl) (by rfl) (World.news_of_block (cs := #[.slice v'.sa v'.ss.length v'.sc, .slice v'.wa v'.ws.length v'.wc]) (t := 90) (fr := (0, 0)) (heap_alloc_new w4 _)) (by simp [cellsN, Value.oneCell']) (by omega) (by unfold maxLen; omega) (by omega) (by simp; omega) _ rfl ?_; intro g cap w5 hown2 hgrow hat hlt2; have V4 := (V3.more (.cells #[.slice v'.sa v'.ss.length v'.sc, .slice v'.wa v'.ws.length v'.wc] 90)).kept hgrow (by intro e; have hq := HTY.out _ e; obtain ⟨_, _, h1, h2⟩ := hq; omega); have q5 := V4.one; have OW := hide hown2; have GW := hide hgrow; clear hown2)
            simp only [List.getElem_toArray, List.getElem_cons_zero, List.getElem_cons_succ, Act.put, List.setIfInBounds_toArray, List.set_cons_zero, List.set_cons_succ]
            refine hK.out _ _ (by exact ⟨((Inv.grow hHeld.2 hgrow (fun g' e => by have hq := HTY.out _ e; obtain ⟨_, _, h1, _⟩ := hq; omega)).nth 1 rfl).at 0, Inv.grow hHeld.2 hgrow (fun g' e => by have hq := HTY.out _ e; obtain ⟨_, _, h1, _⟩ := hq; omega)⟩) (fun hHeld => ?_)
            clear hK K
            refine take_run 7 (some 23) (v := ?_) rfl rfl (by kernel_rfl) (by kernel_rfl) (by kernel_rfl) (fun _ _ _ h => h) (by rfl) ?_ hHeld ?_
            rotate_left
            · ((intro w hSw); (try dsimp only at hSw); go_simp <;> with_reducible rfl)
            simp only [Act.put, List.setIfInBounds_toArray, List.set_cons_zero, List.set_cons_succ]
            refine take_one 8 (by kernel_rfl) rfl (fun K hK => ?_)
            go_simp
            refine hK.out _ _ (by exact ⟨((hHeld.2.set (p := ⟨w2.heap.size, 0, none⟩) (by simp only; omega) (by simp only; omega) _).nth 1 rfl).at 0, hHeld.2.set (p := ⟨w2.heap.size, 0, none⟩) (by simp only; omega) (by simp only; omega) _⟩) (fun hHeld => ?_)
            clear hK K
            refine wpAnyH_done (by kernel_rfl) ?_ _
            refine NoPanic.normal ?_
            have I9 := hHeld.2
            have C9 := C2.out.push (w1 := w4.alloc (.cells #[.slice v'.sa v'.ss.length v'.sc, .slice v'.wa v'.ws.length v'.wc] 90)) (v := v') (g := g) (cap := cap) (w2 := w5) (HB4.out.trans ((below_alloc1 w4 _).mono HB4.out.size)) ((HS1.out.on (below_alloc1 w4 _)).wide (by simp)) ((HW1.out.on (below_alloc1 w4 _)).wide (by simp)) H21.out (HC1.out.on (below_alloc1 w4 _)) OW.out GW.out
            have C10 := hide (C9.asideT (p := ⟨w2.heap.size, 0, none⟩) V4 (.slice (some ⟨g, 0, none⟩) (us.length + 1) cap))
            have V9 := V4.put 0 (.slice (some ⟨g, 0, none⟩) (us.length + 1) cap)
            simp only [List.setIfInBounds_toArray, List.set_cons_zero] at V9
            have v9 := V9.one.1
            have q9 := (I9.nth 0 rfl).one
            have HLL : Hid (Nd.like v' (bare nd)) := ⟨HLI.out.1, HLI.out.2.1, HLI.out.2.2.1.trans HWS.out, fun i x y hx hy => by simp [bare] at hy⟩
            clear hHeld V1 V2 V3 V4 q1 q2 q3 q4 q5 C9 C1 C2 C3 J1 S2 V9 v0
            generalize w5.setCell ⟨w2.heap.size, 0, none⟩ (.slice (some ⟨g, 0, none⟩) (us.length + 1) cap) = W9 at I9 C10 v9 q9 ⊢
            go_wp2
            refine bodyPost_ret (v := .tuple #[.agg #[.slice (some ⟨g, 0, none⟩) (us.length + 1) cap], .bool true]) (by simp [results, Tryz.results49, go_sem, q9]) rfl ?_
            rw [HE.out.1, HE.out.2]
            exact answerCB_row ((C10.out.aside (p := ⟨w.heap.size + 1, 0, none⟩) (by simp only; omega) _).down zb) (nl_append HUL.out HLL.out) (I9.below.setCell (by simp) _)
          · skip
            go_simp
            refine hK.out _ _ (by exact ⟨((hHeld.2.alloc _).nth 1 rfl).at 0, hHeld.2.alloc _⟩) (fun hHeld => ?_)
            clear hK K
            refine take_one 1 (by kernel_rfl) rfl (fun K hK => ?_)
            go_simp
            refine hK.out _ _ (by exact hHeld) (fun hHeld => ?_)
            clear hK K
            refine take_one 6 (by kernel_rfl) rfl (fun K hK => ?_)
            (refine step_append_lies _ (by rfl) _ _ _ (by rfl) w1.heap.size 90 i0 _ 2 48 Tryz.underlying30 I0.out I1.out I2.out I3.out rfl (by omega) (.slice xa us.length xc) us.length (flatN us) (by rfl) (HR.out.alloc _) ⟨w4.heap.size, 0, none⟩ 1 1 (cellsN v') (by rfl) (by rfl) (World.news_of_block (cs := #[.slice v'.sa v'.ss.length v'.sc, .slice v'.wa v'.ws.length v'.wc]) (t := 90) (fr := (0, 0)) (heap_alloc_new w4 _)) (by simp [cellsN, Value.oneCell']) (by omega) (by unfold maxLen; omega) (by omega) (by simp; omega) _ rfl ?_; intro g cap w5 hown2 hgrow hat hlt2; have V4 := (V3.more (.cells #[.slice v'.sa v'.ss.length v'.sc, .slice v'.wa v'.ws.length v'.wc] 90)).kept hgrow (by intro e; have hq := HTY.out _ e; obtain ⟨_, _, h1, h2⟩ := hq; omega); have q5 := V4.one; have OW := hide hown2; have GW := hide hgrow; clear hown2)
            simp only [List.getElem_toArray, List.getElem_cons_zero, List.getElem_cons_succ, Act.put, List.setIfInBounds_toArray, List.set_cons_zero, List.set_cons_succ]
            refine hK.out _ _ (by exact ⟨((Inv.grow hHeld.2 hgrow (fun g' e => by have hq := HTY.out _ e; obtain ⟨_, _, h1, _⟩ := hq; omega)).nth 1 rfl).at 0, Inv.grow hHeld.2 hgrow (fun g' e => by have hq := HTY.out _ e; obtain ⟨_, _, h1, _⟩ := hq; omega)⟩) (fun hHeld => ?_)
            clear hK K
            refine take_run 7 (some 23) (v := ?_) rfl rfl (by kernel_rfl) (by kernel_rfl) (by kernel_rfl) (fun _ _ _ h => h) (by rfl) ?_ hHeld ?_
            rotate_left
            · ((intro w hSw); (try dsimp only at hSw); go_simp <;> with_reducible rfl)
            simp only [Act.put, List.setIfInBounds_toArray, List.set_cons_zero, List.set_cons_succ]
            refine take_one 8 (by kernel_rfl) rfl (fun K hK => ?_)
            go_simp
            refine hK.out _ _ (by exact ⟨((hHeld.2.set (p := ⟨w2.heap.size, 0, none⟩) (by simp only; omega) (by simp only; omega) _).nth 1 rfl).at 0, hHeld.2.set (p := ⟨w2.heap.size, 0, none⟩) (by simp only; omega) (by simp only; omega) _⟩) (fun hHeld => ?_)
            clear hK K
            refine wpAnyH_done (by kernel_rfl) ?_ _
            refine NoPanic.normal ?_
            have I9 := hHeld.2
            have C9 := C2.out.push (w1 := w4.alloc (.cells #[.slice v'.sa v'.ss.length v'.sc, .slice v'.wa v'.ws.length v'.wc] 90)) (v := v') (g := g) (cap := cap) (w2 := w5) (HB4.out.trans ((below_alloc1 w4 _).mono HB4.out.size)) ((HS1.out.on (below_alloc1 w4 _)).wide (by simp)) ((HW1.out.on (below_alloc1 w4 _)).wide (by simp)) H21.out (HC1.out.on (below_alloc1 w4 _)) OW.out GW.out
            have C10 := hide (C9.asideT (p := ⟨w2.heap.size, 0, none⟩) V4 (.slice (some ⟨g, 0, none⟩) (us.length + 1) cap))
            have V9 := V4.put 0 (.slice (some ⟨g, 0, none⟩) (us.length + 1) cap)
            simp only [List.setIfInBounds_toArray, List.set_cons_zero] at V9
            have v9 := V9.one.1
            have q9 := (I9.nth 0 rfl).one
            have HLL : Hid (Nd.like v' (bare nd)) := ⟨HLI.out.1, HLI.out.2.1, HLI.out.2.2.1.trans HWS.out, fun i x y hx hy => by simp [bare] at hy⟩
            clear hHeld V1 V2 V3 V4 q1 q2 q3 q4 q5 C9 C1 C2 C3 J1 S2 V9 v0
            generalize w5.setCell ⟨w2.heap.size, 0, none⟩ (.slice (some ⟨g, 0, none⟩) (us.length + 1) cap) = W9 at I9 C10 v9 q9 ⊢
            go_wp2
            refine bodyPost_ret (v := .tuple #[.agg #[.slice (some ⟨g, 0, none⟩) (us.length + 1) cap], .bool true]) (by simp [results, Tryz.results49, go_sem, q9]) rfl ?_
            rw [HE.out.1, HE.out.2]
            exact answerCB_row ((C10.out.aside (p := ⟨w.heap.size + 1, 0, none⟩) (by simp only; omega) _).down zb) (nl_append HUL.out HLL.out) (I9.below.setCell (by simp) _)
end Go.Proofs.YtnaggcdhimcilaaGreat
/- Contract of the model's ChainJoin. Condition: sizes that memory holds. -/
namespace Go.Proofs.YtnaggcdhimcilaaGreat
open Go.RowKit Go.Joins
attribute [local go_sem ↓] Go.wp_at_zero Go.wp_at_succ

end Go.Proofs.YtnaggcdhimcilaaGreat
/- Chains of valid nodes that a call answers: few marks; compared, marked, and the marks found again. -/
namespace Go.Proofs.YtnaggcdhimcilaaGreat
open Go.RowKit Go.Joins

/-- At most four nodes, each valid by itself. -/
def FineN (rs : List Nd) : Prop := rs.length ≤ 4 ∧ ∀ (i : Nat) n, rs[i]? = some n → nodeB n = true
theorem FineN.like {us rs : List Nd} (h : NL us rs) (hr : FineN rs) : FineN us := ⟨by rw [h.1]; exact hr.1, fun i n hi => by
  obtain ⟨m, hm, hl⟩ := nl_at h hi
  rw [nodeB_like hl]
  exact hr.2 i m hm⟩
theorem node_ts {n : Nd} (h : nodeB n = true) : (n.ss.length = 4 ∧ ∀ v ∈ n.ss, v.ts.length ≤ 4) ∧ n.ws.length ≤ 6 ∧ ∀ v ∈ n.ws, v.ts.length ≤ 4 := by
  obtain ⟨h1, h2, h3⟩ := nodeB_parts h
  exact ⟨⟨storeB_four h1, (few_store h1).2⟩, h2, fun v hv => Nat.le_of_eq (pastB_len4 (verB_parts (h3 v hv)).2.2.2)⟩
theorem FineN.small {rs : List Nd} (h : FineN rs) : SmallN rs := fun n hn => by
  obtain ⟨i, hi⟩ := List.getElem?_of_mem hn
  obtain ⟨⟨h1, h2⟩, h3, h4⟩ := node_ts (h.2 i n hi)
  exact ⟨by omega, by omega, fun v hv => by have := h2 v hv; omega, fun v hv => by have := h4 v hv; omega⟩
theorem wtN_fine {n : Nd} (h : nodeB n = true) : wtN n ≤ 130 := by
  obtain ⟨⟨h1, h2⟩, h3, h4⟩ := node_ts h
  have := few_wts n.ss h2
  have := few_wts n.ws h4
  unfold wtN
  omega
theorem wtNs_fine : ∀ (rs : List Nd), (∀ n ∈ rs, nodeB n = true) → wtNs rs ≤ 130 * (rs.length : Int)
  | [], _ => by simp [wtNs]
  | n :: r, h => by
    have h1 := wtNs_fine r (fun x hx => h x (List.mem_cons_of_mem _ hx))
    have h2 := wtN_fine (h n (List.mem_cons_self ..))
    unfold wtNs at *
    simp at *
    omega
theorem FineN.wt {rs : List Nd} (h : FineN rs) : wtNs rs ≤ 520 := by
  have := wtNs_fine rs (fun n hn => by obtain ⟨i, hi⟩ := List.getElem?_of_mem hn; exact h.2 i n hi)
  have := h.1
  omega
theorem joinN_fine (ns : List Nd) : FineN (joinN ns) := by
  cases hc : chainB ns with
  | false => rw [(joinN_no hc).1]; exact ⟨by simp, fun i n hi => by simp at hi⟩
  | true =>
    obtain ⟨⟨h1, h4⟩, hB, _⟩ := chainB_parts hc
    by_cases h44 : ns.length = 4
    · rw [(joinN_full hc h44).1]
      exact ⟨h4, hB⟩
    · obtain ⟨p, hp⟩ : ∃ p, ns.length = p + 1 := ⟨ns.length - 1, by omega⟩
      obtain ⟨n, hn⟩ : ∃ n, ns[p]? = some n := ⟨_, List.getElem?_eq_getElem (by omega)⟩
      rw [(joinN_yes hc hp (by omega) hn).1]
      refine ⟨by simp; omega, fun i x hx => ?_⟩
      rcases snoc_get rfl i x hx with ⟨_, rfl⟩ | ⟨_, hq⟩
      · exact nodeB_mk (nodeB_parts (hB p n hn)).1 (by simp [bare]) (fun i v hi => by simp [bare] at hi)
      · exact hB i x hq
end Go.Proofs.YtnaggcdhimcilaaGreat
/- A version comes to a node: said plainly; and one node of a row of nodes changed in memory. No condition. -/
namespace Go.Proofs.YtnaggcdhimcilaaGreat
open Go.RowKit Go.Joins

/-- A node to which a version comes, if that is later: it waits to be passed on, unless the node is the last one. -/
def addNd (n : Nd) (last : Bool) (v : V) : Nd := match stepL n.ss v with | some ss' => ⟨n.sa, n.sc, ss', n.wa, n.wc, if last = true then n.ws else n.ws ++ [v]⟩ | none => n
def addN (ns : List Nd) (k : Nat) (v : V) : List Nd := match ns[k]? with | some n => ns.set k (addNd n (decide (k + 1 = ns.length)) v) | none => ns
theorem CRow.tagFoot {base : Nat} {w : World} {A : Option Addr} {m c : Nat} {us : List V} (h : CRow base w (.slice A m c) us) {i : Nat} {v : V} (hi : us[i]? = some v) (hne : v.ts ≠ []) {g : Nat} (hg : v.a = some ⟨g, 0, none⟩) : FootS A us g := by
  have h0 : us ≠ [] := fun e => by rw [e] at hi; simp at hi
  rcases h.row.2 with ⟨_, e⟩ | ⟨G, cap, cr, e, _⟩
  · exact absurd (List.length_eq_zero_iff.1 e) h0
  · injection e with e _ _
    exact ⟨h0, G, e, .inr ⟨i, v, hi, hne, hg⟩⟩
/-- One node of a row of nodes is changed; what turns is its own, or the row's. -/
theorem GRow.set {P : Nat → Prop} {base : Nat} {wr w' : World} {x : Value} {us : List Nd} {k : Nat} {n n' : Nd} (h : GRow base wr x us) (hk : us[k]? = some n) (ht : Turn P wr w') (hrow : w'.ownsRow base 90 2 x us.length (flatN (us.set k n')))
    (hs : ResS w' base w'.heap.size n'.sa n'.ss) (hc : CRow base w' (.slice n'.wa n'.ws.length n'.wc) n'.ws) (h2 : ∀ g, FootS n'.sa n'.ss g → ¬ FootW n' g)
    (hP : ∀ g, P g → FootO n g ∨ x.ownBlock = some g) (hf : ∀ g, FootO n' g → FootO n g ∨ wr.heap.size ≤ g) : GRow base w' x (us.set k n') := by
  have hkl := (List.getElem?_eq_some_iff.1 hk).1
  have key : ∀ (i : Nat) y, (us.set k n')[i]? = some y → (i = k ∧ y = n') ∨ (i ≠ k ∧ us[i]? = some y) := by
    intro i y hy
    by_cases e : i = k
    · subst e
      rw [List.getElem?_set_self hkl] at hy
      injection hy with hy
      exact .inl ⟨rfl, hy.symm⟩
    · rw [List.getElem?_set_ne (fun e' => e e'.symm)] at hy
      exact .inr ⟨e, hy⟩
  have hno : ∀ (i : Nat) y, i ≠ k → us[i]? = some y → ∀ g, FootO y g → P g → x.ownBlock = some g := fun i y hne hy g hg hp => by
    rcases hP g hp with q | q
    · exact absurd q (h.apart i k y n hne hy hk g hg)
    · exact q
  have hkR : ∀ {B U : Nat} {A : Option Addr} {l : List V} {g : Nat}, ResS wr B U A l → FootS A l g → ¬ x.ownBlock = some g := fun hr hf e => by
    obtain ⟨cs, h1, _⟩ := h.typed _ e
    obtain ⟨T, cs', h3, h4, _⟩ := hr.typed hf
    exact h4 (blk_one h3 h1)
  refine ⟨by rw [List.length_set]; exact hrow, fun i y hy => ?_, fun i y hy => ?_, fun i y hy => ?_, fun i j y y' hne hy hy' => ?_, Nat.le_trans h.lo ht.size, fun i y hy => ?_⟩
  · rcases key i y hy with ⟨_, rfl⟩ | ⟨e, hq⟩
    · exact hs
    · exact ((h.store i y hq).turnF ht (fun g hg hp => hkR (h.store i y hq) hg (hno i y e hq g (.inl hg) hp))).wide ht.size
  · rcases key i y hy with ⟨_, rfl⟩ | ⟨e, hq⟩
    · obtain ⟨A, cap, e, hR⟩ := hc.resS
      injection e with e _ _
      rw [e]
      exact hR
    · exact ((h.wait i y hq).turnF ht (fun g hg hp => hkR (h.wait i y hq) hg (hno i y e hq g (.inr (.inl hg)) hp))).wide ht.size
  · rcases key i y hy with ⟨_, rfl⟩ | ⟨e, hq⟩
    · exact h2
    · exact h.two i y hq
  · intro g h3 h4
    rcases key i y hy with ⟨e1, rfl⟩ | ⟨e1, hq⟩ <;> rcases key j y' hy' with ⟨e2, rfl⟩ | ⟨e2, hq'⟩
    · omega
    · rcases hf g h3 with q | q
      · exact h.apart k j n y' (fun e => e2 e.symm) hk hq' g q h4
      · have := h.foot hq' h4; omega
    · rcases hf g h4 with q | q
      · exact h.apart k i n y (fun e => e1 e.symm) hk hq g q h3
      · have := h.foot hq h3; omega
    · exact h.apart i j y y' hne hq hq' g h3 h4
  · rcases key i y hy with ⟨_, rfl⟩ | ⟨e, hq⟩
    · exact hc
    · refine (h.own i y hq).turned ht (fun g hg hp => ?_) (fun l v hl g hg _ hne hp => ?_)
      · have e1 := hno i y e hq g (.inr (.inr hg)) hp
        obtain ⟨cs, b1, _⟩ := h.typed g e1
        obtain ⟨cs', b2, _⟩ := (h.own i y hq).typed g hg
        exact node_ne_ver (blk_one b1 b2)
      · have hft := (h.own i y hq).tagFoot hl hne hg
        exact hkR (h.wait i y hq) hft (hno i y e hq g (.inr (.inl hft)) hp)
end Go.Proofs.YtnaggcdhimcilaaGreat
/- What ChainPut answers, said plainly; contracts of whether there is room, in the program and in the model. -/
namespace Go.Proofs.YtnaggcdhimcilaaGreat
open Go.RowKit Go.Joins
attribute [local go_sem ↓] Go.wp_at_zero Go.wp_at_succ

/-- Whether there is room for one more at the head. -/
def roomB (ns : List Nd) : Bool := match ns[0]? with | some n => decide (n.ws.length < 6) | none => false
/-- What ChainPut answers. -/
def putN (ns : List Nd) (v : V) : List Nd := if chainB ns = true ∧ verV v = true then (if roomB ns = true then addN ns 0 v else ns) else []
def putK (ns : List Nd) (v : V) : Bool := chainB ns && verV v && roomB ns
end Go.Proofs.YtnaggcdhimcilaaGreat
/- One node of a row of nodes: a version put into its store, a version more that waits. No condition. -/
namespace Go.Proofs.YtnaggcdhimcilaaGreat
open Go.RowKit Go.Joins

end Go.Proofs.YtnaggcdhimcilaaGreat
/- The model lets a later version into a row: which one stands there then. Condition: a row of four, a key from 0 to 3. -/
namespace Go.Proofs.YtnaggcdhimcilaaGreat
open Go.RowKit Go.Joins
attribute [local go_sem ↓] Go.wp_at_zero Go.wp_at_succ

/-- What letting a later version in leaves: a copy of it in its place, the others as they were. -/
def PutL (w : World) (B G : Nat) (us : List V) (v : V) (kn : Nat) (x : Value) (e : Ending) (w' : World) : Prop :=
  ∃ (v' : V) (cur' : Array Value), e = .returned x ∧ V.like v' v ∧ Own1 w' w.heap.size w'.heap.size v' ∧ ORow w' B w'.heap.size G (us.set kn v') cur' ∧ Turn (fun g => g = G) w w'
end Go.Proofs.YtnaggcdhimcilaaGreat
/- Contract of the model's l3Add: a version comes to a node of a chain that is the caller's own. Condition: at most four nodes, the node valid. -/
namespace Go.Proofs.YtnaggcdhimcilaaGreat
open Go.RowKit Go.Joins
attribute [local go_sem ↓] Go.wp_at_zero Go.wp_at_succ

theorem Turn.mono {P Q : Nat → Prop} {w w' : World} (h : Turn P w w') (hq : ∀ g, P g → Q g) : Turn Q w w' := ⟨h.os, h.tape, h.output, h.size, fun k hk hn => h.block k hk (fun hp => hn (hq k hp))⟩
/-- Blocks that a version that comes may change: of versions or of nodes, from base on. -/
def TouchC (w : World) (base g : Nat) : Prop := base ≤ g ∧ ∃ cs, Blk w g 96 cs ∨ Blk w g 90 cs
/-- What l3Add leaves. -/
def AddedC (w : World) (base G xc : Nat) (us : List Nd) (k : Nat) (v : V) (e : Ending) (w' : World) : Prop :=
  ∃ us' : List Nd, e = .returned (.agg #[.slice (some ⟨G, 0, none⟩) us.length xc]) ∧ NL us' (addN us k v) ∧ GRow base w' (.slice (some ⟨G, 0, none⟩) us.length xc) us' ∧ Turn (TouchC w base) w w'
/-- A version with a key and causes as a valid one has; a node with room for such. -/
def shV (v : V) : Prop := (0 ≤ v.k ∧ v.k ≤ 3) ∧ v.ts.length = 4
def shN (n : Nd) : Prop := n.ss.length = 4 ∧ n.ws.length ≤ 6 ∧ ∀ v ∈ n.ws, shV v
end Go.Proofs.YtnaggcdhimcilaaGreat
/- Contract of the program's apply where the version is not later: nothing changes. Condition: at most four nodes, the node valid. -/
namespace Go.Proofs.YtnaggcdhimcilaaGreat
open Go.RowKit Go.Joins
attribute [local go_sem ↓] Go.wp_at_zero Go.wp_at_succ

/-- What apply leaves. -/
def AppliedC (w : World) (base G xc : Nat) (us : List Nd) (k : Nat) (v : V) (e : Ending) (w' : World) : Prop :=
  ∃ us' : List Nd, e = .returned (.tuple #[]) ∧ NL us' (addN us k v) ∧ GRow base w' (.slice (some ⟨G, 0, none⟩) us.length xc) us' ∧ Turn (TouchC w base) w w'
end Go.Proofs.YtnaggcdhimcilaaGreat
/- A copy of a version put into a row: its causes are new. No condition. -/
namespace Go.Proofs.YtnaggcdhimcilaaGreat
open Go.RowKit Go.Joins

end Go.Proofs.YtnaggcdhimcilaaGreat
/- Contract of the program's apply where the version is later: it comes into the store and, unless the node is the last, waits there. Condition: at most four nodes, the node valid. -/
namespace Go.Proofs.YtnaggcdhimcilaaGreat
open Go.RowKit Go.Joins
attribute [local go_sem ↓] Go.wp_at_zero Go.wp_at_succ

end Go.Proofs.YtnaggcdhimcilaaGreat
/- Contract of the program's ChainPut. Condition: sizes that memory holds. -/
namespace Go.Proofs.YtnaggcdhimcilaaGreat
open Go.RowKit Go.Joins
attribute [local go_sem ↓] Go.wp_at_zero Go.wp_at_succ

end Go.Proofs.YtnaggcdhimcilaaGreat
/- Contract of the model's ChainPut. Condition: sizes that memory holds. -/
namespace Go.Proofs.YtnaggcdhimcilaaGreat
open Go.RowKit Go.Joins
attribute [local go_sem ↓] Go.wp_at_zero Go.wp_at_succ

theorem ResN.set {w : World} {B U : Nat} {A : Option Addr} {us : List Nd} (h : ResN w B U A us) {p : Addr} (hp : p.block < B ∨ U ≤ p.block) (u : Value) : ResN (w.setCell p u) B U A us :=
  h.turn (P := fun g => g = p.block) ((Turn.refl (fun g => g = p.block) w).set (p := p) rfl u) (fun g h1 h2 e => by omega)
theorem ResN.swap {w : World} {B U : Nat} {A : Option Addr} {us : List Nd} {o o' : Obj} (h : ResN (w.alloc o) B U A us) (hU : U ≤ w.heap.size) : ResN (w.alloc o') B U A us := by
  have ht : Turn (fun g => g = w.heap.size) (w.alloc o) (w.alloc o') := ⟨rfl, rfl, rfl, by simp, fun k hk hn => by
    have hk' : k < w.heap.size := by simp at hk; omega
    rw [Below.heap_alloc w o' k hk', Below.heap_alloc w o k hk']⟩
  exact h.turn ht (fun g h1 h2 e => by omega)
theorem NRow.low {w : World} {B B' U G : Nat} {ns : List Nd} {cur : Array Value} (h : NRow w B U G ns cur) (hb : B' ≤ B) : NRow w B' U G ns cur :=
  ⟨h.blk, Nat.le_trans hb h.lo, h.hi, h.size, h.at', fun i n hi => (h.store i n hi).low hb, fun i n hi => (h.wait i n hi).low hb, h.two, h.apart⟩
end Go.Proofs.YtnaggcdhimcilaaGreat
/- What ChainPass answers, said plainly; what waits at a node replaced, in memory. No condition. -/
namespace Go.Proofs.YtnaggcdhimcilaaGreat
open Go.RowKit Go.Joins

/-- A node without the first that waits there. -/
def tailNd (n : Nd) : Nd := ⟨n.sa, n.sc, n.ss, n.wa, n.wc, n.ws.tail⟩
/-- Whether a node can pass something on. -/
def canB (ns : List Nd) (k : Nat) : Bool := match ns[k]?, ns[k + 1]? with | some n, some m => decide (0 < n.ws.length) && decide (m.ws.length < 6) | _, _ => false
/-- The first that waits at a node comes to the next one. -/
def goN (ns : List Nd) (k : Nat) : List Nd := match ns[k]? with | some n => (match n.ws with | v :: _ => addN (ns.set k (tailNd n)) (k + 1) v | [] => ns) | none => ns
/-- What ChainPass answers. -/
def passN (ns : List Nd) (k : Int) : List Nd := if chainB ns = true then (if 0 ≤ k ∧ canB ns k.toNat = true then goN ns k.toNat else ns) else []
def passK (ns : List Nd) (k : Int) : Bool := chainB ns && (decide (0 ≤ k) && canB ns k.toNat)
theorem Vg.tail {w : World} {B b off : Nat} {v : V} {r : List V} (h : Vg w B (some ⟨b, off, none⟩) (v :: r)) : Vg w B (some ⟨b, off + 6, none⟩) r := by
  rcases h with h | ⟨b', off', e, hb, hx⟩
  · cases h
  · injection e with e
    injection e with e1 e2
    subst e1 e2
    refine .inr ⟨b, off + 6, rfl, hb, fun i x hi => ?_⟩
    have := hx (i + 1) x (by simpa using hi)
    rw [show off + (i + 1) * 6 = off + 6 + i * 6 by omega] at this
    exact this
/-- A row without its first, laid anew: the causes stay where they are. -/
theorem CRow.tail {base : Nat} {wr w1 : World} {A : Option Addr} {m c : Nat} {x : Value} {v : V} {r : List V} (h : CRow base wr (.slice A m c) (v :: r)) (hb : Below wr.heap.size wr w1) (hrow : w1.ownsRow base 96 6 x r.length (flat6 r)) : CRow base w1 x r :=
  ⟨hrow, fun i y hi => ((h.own (i + 1) y (by simpa using hi)).on hb).wide hb.size, fun i j y y' hne hi hj => h.apart (i + 1) (j + 1) y y' (by omega) (by simpa using hi) (by simpa using hj), Nat.le_trans h.lo hb.size⟩
end Go.Proofs.YtnaggcdhimcilaaGreat
