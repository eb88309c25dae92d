/- Contract of the program's ChainPass. Condition: sizes that memory holds. -/
import Derived.Test.YtnaggcdhimcilaaGreatJChainPass2
import Derived.Test.YtnaggcdhimcilaaGreatJNoteStep
import Derived.Test.YtnaggcdhimcilaaGreatJChainClone2
namespace Go.Proofs.YtnaggcdhimcilaaGreat
open Go.RowKit Go.Joins
attribute [local go_sem ↓] Go.wp_at_zero Go.wp_at_succ

set_option maxRecDepth 100000 in
set_option maxHeartbeats 2000000 in
/-- There is no such node. -/
theorem linkAt_out (G n c : Nat) (k : Int) (w : World) (hk : k < 0 ∨ (n : Int) ≤ k) :
    Calls Tryz.prog 67 #[.slice (some ⟨G, 0, none⟩) n c, .int .i64 k] w fun e w' => e = .returned (.pointer none) ∧ Below w.heap.size w w' := by
  have S0 := ((Inv.start w).box 30 #[.slice (some ⟨G, 0, none⟩) n c]).box 3 #[.int .i64 k]
  simp only [World.size_alloc] at S0
  by_cases h0 : k < 0
  · go_enter Tryz.func67, Tryz.ntmps67
    go_wp2
    go_ret
    exact ⟨rfl, S0.below⟩
  · have h1 : k ≥ (n : Int) := by omega
    go_enter Tryz.func67, Tryz.ntmps67
    go_wp2
    go_ret
    exact ⟨rfl, S0.below⟩
set_option maxRecDepth 100000 in
set_option maxHeartbeats 4000000 in
theorem implChainPass_any (A : Option Addr) (c : Nat) (ns : List Nd) (k : Int) (w : World) (hn : ns.length ≤ 1048576) (hm : SmN ns) (hC : CgA w A ns) :
    Calls Tryz.prog 30 #[.agg #[.slice A ns.length c], .int .i64 k] w (AnswerCB w (passN ns k) (passK ns k)) := by
  have S0 := ((Inv.start w).box 32 #[.slice A ns.length c]).box 32 #[.slice none 0 0]
  simp only [World.size_alloc] at S0
  have C0 := hide (implChainOk_any A c ns ((w.alloc (.cells #[.slice A ns.length c] 32)).alloc (.cells #[.slice none 0 0] 32)) hn hm (hC.on S0.below))
  have CC : Hid (∀ W, Below w.heap.size w W → Calls Tryz.prog 66 #[.agg #[.slice A ns.length c]] W (ClonedC W ns)) := fun W hW => chainClone_any A c ns W hn hm (hC.on hW)
  have k0 := (S0.nth 1 rfl).one.1
  clear hm hC
  cases ho : chainB ns
  · have HE := hide (passN_no (k := k) ho)
    rw [ho] at C0
    clear ho
    go_enter Tryz.func30, Tryz.ntmps30
    go_wp2_with fail
    with_reducible refine C0.out.mono ?_
    rintro e w1 ⟨rfl, hb1⟩
    have S1 := S0.on hb1
    have q1 := (S1.nth 0 rfl).one
    clear S0 C0 k0
    go_wp2
    refine bodyPost_ret (v := .tuple #[.agg #[.slice none 0 0], .bool false]) (by simp [results, Tryz.results30, go_sem, q1]) rfl ?_
    exact answerCB_none HE.out (S1.below.setCell (by simp only; omega) _)
  · have HOK := hide ho
    rw [ho] at C0
    clear ho
    go_enter Tryz.func30, Tryz.ntmps30
    go_wp2_with fail
    with_reducible refine C0.out.mono ?_
    rintro e w2 ⟨rfl, hb1⟩
    have S2 := S0.on hb1
    have k2 := (S2.nth 1 rfl).one.1
    have zr := S2.room
    have zb := S2.base
    clear S0 C0 k0 hb1
    go_wp2_with fail
    with_reducible refine (CC.out _ S2.below).mono ?_
    rintro e w3 hcl
    obtain ⟨G, xc, us, rfl, hul, hu4, hB, hu1, hgr, hb3⟩ := cloned_at hcl HOK.out
    have HUL := hide hul
    have HB := hide hB
    have HLN := hide hul.1
    have HCB := hide (canB_like hul k.toNat)
    have z3 := hb3.size
    have S3 := (S2.on hb3).alloc (.cells #[.slice (some ⟨G, 0, none⟩) us.length xc] 32)
    have V0 := Blk.made w3 32 #[.slice (some ⟨G, 0, none⟩) us.length xc]
    have HGR := hide (hgr.on (below_alloc1 w3 (.cells #[.slice (some ⟨G, 0, none⟩) us.length xc] 32)))
    have v0 := V0.one.1
    clear S2 k2 hb3 hul hgr hcl hB CC
    by_cases hin : 0 ≤ k ∧ k < (us.length : Int)
    · obtain ⟨kn, rfl⟩ : ∃ kn : Nat, k = (kn : Int) := ⟨k.toNat, by omega⟩
      obtain ⟨n, hn0⟩ : ∃ n, us[kn]? = some n := ⟨_, List.getElem?_eq_getElem (by omega)⟩
      have HN0 := hide hn0
      clear hn0
      go_wp2_with fail
      generalize hW0 : w3.alloc (.cells #[.slice (some ⟨G, 0, none⟩) us.length xc] 32) = W0 at V0 v0 HGR S3 ⊢
      have zA : w3.heap.size < W0.heap.size := by rw [← hW0]; simp
      clear hW0
      have CT := hide (linkAt_any G us.length xc kn W0 (by omega) (by omega))
      with_reducible refine CT.out.mono ?_
      rintro e w4 ⟨hE, hb4⟩
      rw [if_pos (by omega)] at hE
      obtain ⟨L, rfl, hL⟩ := hE
      have HL := hide hL
      have HGR4 := hide (HGR.out.on hb4)
      have V4 := V0.on hb4
      have S4 := S3.on hb4
      have z4 := hb4.size
      have CP := hide (pass_any W0.heap.size L w2.heap.size G xc kn us n w4.drew (HGR4.out.on (Below.refl _ _).drew) (HL.out.on (Below.refl _ _).drew) HN0.out hu4 HB.out)
      have J4 : Inv w (w.heap.size + 1) [(w.heap.size, 32, #[.slice A ns.length c])] w4 := ⟨S4.below, by omega, fun x hx => by
        simp only [List.mem_cons, List.not_mem_nil, or_false] at hx
        subst hx
        exact ⟨Nat.le_refl _, by simp, S4.nth 1 rfl⟩⟩
      have B4 := S4.nth 0 rfl
      have hz4 : w4.drew.heap.size = w4.heap.size := rfl
      have HEN : Hid ((canB us kn = true → passN ns (kn : Int) = goN ns kn ∧ passK ns (kn : Int) = true) ∧ (canB us kn = false → passN ns (kn : Int) = ns ∧ passK ns (kn : Int) = false)) := by
        have hq := HCB.out
        simp only [Int.toNat_natCast] at hq
        refine ⟨fun h => ?_, fun h => ?_⟩
        · have := passN_yes (k := (kn : Int)) HOK.out (by omega) (by simpa using hq.symm.trans h)
          simpa using this
        · exact passN_not (k := (kn : Int)) HOK.out (fun q => by
            have q2 := q.2
            simp only [Int.toNat_natCast] at q2
            rw [hq, q2] at h
            cases h)
      clear CT HGR V0 v0 S3 hb4 hL S4
      go_wp2_with fail
      refine wp_region_noPanic ?_
      refine wp_region_held_drew (S := (fun w' => w'.cell? ⟨w3.heap.size, 0, none⟩ = some (.slice (some ⟨G, 0, none⟩) us.length xc) ∧ Blk w' w3.heap.size 32 #[.slice (some ⟨G, 0, none⟩) us.length xc] ∧ Inv w (w.heap.size + 1) [(w.heap.size, 32, #[.slice A ns.length c])] w' ∧ (∃ y, Blk w' (w.heap.size + 1) 32 #[y]))) (by kernel_rfl) (by exact ⟨V4.drew.at 0, V4.drew, J4.drew, ⟨_, B4.drew⟩⟩) (fun hHeld => ?_)
      refine mvR 0 (some 21) hHeld ?_
      refine mvR 1 (some 22) hHeld ?_
      refine take_one 2 (by kernel_rfl) rfl (fun K hK => ?_)
      go_simp
      ((with_reducible refine CP.out.mono ?_); rintro e w5 ⟨us', rfl, hul5, hg5, hT5⟩; have HUL5 := hide hul5; have HG5 := hide hg5; have HT5 := hide hT5; have I5 := hHeld.2.2.1.turned hT5 (fun g h => by have h' := h.1; omega) (fun x hx h => by have h' := h.1; simp only [List.mem_cons, List.not_mem_nil, or_false] at hx; subst hx; simp only at h'; omega); obtain ⟨y5, hy5⟩ := hHeld.2.2.2; have B5 := hy5.turned hT5 (fun h => by have h' := h.1; omega); have V5 := hHeld.2.1.turned hT5 (touch_no hHeld.2.1 (by decide) (by decide)); have HB9 := hide B5; have q5 := B5.one; have z5 := hT5.size; clear hul5 hg5 hT5)
      try go_wp2_with fail
      refine hK.out _ _ (by exact ⟨V5.at 0, V5, I5, ⟨y5, B5⟩⟩) (fun hHeld => ?_)
      clear hK K
      refine take_one 3 (by kernel_rfl) rfl (fun K hK => ?_)
      go_simp
      refine hK.out _ _ (by exact ⟨(V5.aside (by show w3.heap.size ≠ w.heap.size + 1; omega) _).at 0, V5.aside (by show w3.heap.size ≠ w.heap.size + 1; omega) _, I5.set (p := ⟨w.heap.size + 1, 0, none⟩) (by simp) (by simp) _, ⟨_, B5.put 0 _⟩⟩) (fun hHeld => ?_)
      clear hK K
      refine mvR 4 (some 5) hHeld ?_
      refine wpAnyH_done (by kernel_rfl) ?_ _
      refine NoPanic.normal ?_
      obtain ⟨-, -, I9, -⟩ := hHeld
      have B9 := HB9.out.put 0 (.slice (some ⟨G, 0, none⟩) us.length xc)
      simp only [List.setIfInBounds_toArray, List.set_cons_zero] at B9
      have q9 := B9.one
      have HG9 := hide (HG5.out.aside (p := ⟨w.heap.size + 1, 0, none⟩) (by simp only; omega) (.slice (some ⟨G, 0, none⟩) us.length xc))
      clear V4 J4 B4 I5 hy5 B5 q5 V5
      generalize w5.setCell ⟨w.heap.size + 1, 0, none⟩ (.slice (some ⟨G, 0, none⟩) us.length xc) = W9 at I9 B9 q9 HG9 ⊢
      cases hcan : canB us kn
      · have HE := hide (HEN.out.2 hcan)
        have HNL := hide (show NL us' us by have := HUL5.out; rw [hcan] at this; simpa using this)
        clear hcan
        go_wp2
        refine bodyPost_ret (v := .tuple #[.agg #[.slice (some ⟨G, 0, none⟩) us.length xc], .bool false]) (by simp [results, Tryz.results30, go_sem, q9]) rfl ?_
        rw [HE.out.1, HE.out.2]
        exact answerCB_row (HG9.out.down zb) (nl_trans HNL.out HUL.out) I9.below
      · have HE := hide (HEN.out.1 hcan)
        have HNL := hide (show NL us' (goN us kn) by have := HUL5.out; rw [hcan] at this; simpa using this)
        clear hcan
        go_wp2
        refine bodyPost_ret (v := .tuple #[.agg #[.slice (some ⟨G, 0, none⟩) us.length xc], .bool true]) (by simp [results, Tryz.results30, go_sem, q9]) rfl ?_
        rw [HE.out.1, HE.out.2]
        exact answerCB_row (HG9.out.down zb) (nl_trans HNL.out (goN_like HUL.out kn)) I9.below
    · have HE := hide (passN_not (k := k) HOK.out (fun q => hin ⟨q.1, by
        by_cases h9 : k < (us.length : Int)
        · exact h9
        · have := canB_end (ns := ns) (k := k.toNat) (by have := HLN.out; omega)
          rw [this] at q
          cases q.2⟩))
      have CT := hide (linkAt_out G us.length xc k (w3.alloc (.cells #[.slice (some ⟨G, 0, none⟩) us.length xc] 32)) (by omega))
      clear hin
      go_wp2_with fail
      with_reducible refine CT.out.mono ?_
      rintro e w4 ⟨rfl, hb4⟩
      have HGR4 := hide (HGR.out.on hb4)
      have V4 := V0.on hb4
      have S4 := S3.on hb4
      have z4 := hb4.size
      have v4 := V4.one.1
      have q4 := (S4.nth 0 rfl).one
      clear CT HGR V0 v0 S3 hb4
      go_wp2
      refine bodyPost_ret (v := .tuple #[.agg #[.slice (some ⟨G, 0, none⟩) us.length xc], .bool false]) (by simp [results, Tryz.results30, go_sem, q4]) rfl ?_
      rw [HE.out.1, HE.out.2]
      exact answerCB_row ((HGR4.out.aside (p := ⟨w.heap.size + 1, 0, none⟩) (by simp only; omega) _).down zb) HUL.out (S4.below.setCell (by simp only; omega) _)
end Go.Proofs.YtnaggcdhimcilaaGreat
/- Contract of PlacePass, in the program. Condition: sizes that memory holds. -/
namespace Go.Proofs.YtnaggcdhimcilaaGreat
open Go.RowKit Go.Joins
attribute [local go_sem ↓] Go.wp_at_zero Go.wp_at_succ

theorem store_fn4 (P : Program) (w : World) (a : Addr) (fn : Fn) (x y : Array Value) (m : Mode) : (store a (.func fn x y) m).run P w = stored P w a (.func fn x y) m := run_store P w a _ m rfl
attribute [local go_sem] store_fn4
/-- What PlacePass answers. -/
def passP (p : Pl) (k : Int) : Pl := if plB p = true then (if passK p.ns k = true then noteP (chP p (passN p.ns k)) else chP p (passN p.ns k)) else noP
def passPK (p : Pl) (k : Int) : Bool := plB p && passK p.ns k
theorem passP_no {p : Pl} {k : Int} (h : plB p = false) : passP p k = noP ∧ passPK p k = false := by unfold passP passPK; rw [h]; exact ⟨rfl, rfl⟩
theorem passP_not {p : Pl} {k : Int} (h : plB p = true) (hk : passK p.ns k = false) : passP p k = chP p (passN p.ns k) ∧ passPK p k = false := by unfold passP passPK; rw [h, hk]; exact ⟨rfl, rfl⟩
theorem passP_yes {p : Pl} {k : Int} (h : plB p = true) (hk : passK p.ns k = true) : passP p k = noteP (chP p (passN p.ns k)) ∧ passPK p k = true := by unfold passP passPK; rw [h, hk]; exact ⟨rfl, rfl⟩
theorem chP_like' {p q : Pl} {us ns : List Nd} (h : LP p q) (hn : NL us ns) : LP (chP p us) (chP q ns) := ⟨h.1, h.2.1, hn, h.2.2.2.1, h.2.2.2.2.1, h.2.2.2.2.2⟩
theorem fineP_ch' {p : Pl} {ns : List Nd} (h : FineP p) (hn : FineN ns) : FineP (chP p ns) := ⟨hn, h.2.1, h.2.2.1, h.2.2.2⟩
theorem passP_like {q p : Pl} (k : Int) (h : LP q p) : LP (passP q k) (passP p k) ∧ passPK q k = passPK p k := by
  have hn := passN_like h.2.2.1 k
  cases hp : plB p with
  | false =>
    have hq : plB q = false := (plB_like h).trans hp
    rw [(passP_no hq).1, (passP_no hq).2, (passP_no hp).1, (passP_no hp).2]
    exact ⟨lp_refl _, rfl⟩
  | true =>
    have hq : plB q = true := (plB_like h).trans hp
    cases hk : passK p.ns k with
    | false =>
      have hk' := hn.2.trans hk
      rw [(passP_not hq hk').1, (passP_not hq hk').2, (passP_not hp hk).1, (passP_not hp hk).2]
      exact ⟨chP_like' h hn.1, rfl⟩
    | true =>
      have hk' := hn.2.trans hk
      rw [(passP_yes hq hk').1, (passP_yes hq hk').2, (passP_yes hp hk).1, (passP_yes hp hk).2]
      exact ⟨noteP_like (chP_like' h hn.1), rfl⟩
theorem passP_fine (p : Pl) (k : Int) : FineP (passP p k) := by
  cases hp : plB p with
  | false => rw [(passP_no hp).1]; exact ⟨⟨by simp [noP], fun i n hi => by simp [noP] at hi⟩, ⟨by simp [noP], fun v hv => by simp [noP] at hv⟩, by simp [noP], fun l hl => by simp [noP] at hl⟩
  | true =>
    obtain ⟨hf, hl⟩ := plB_fine hp
    have hc := fineP_ch' hf (passN_fine p.ns k)
    cases hk : passK p.ns k with
    | false => rw [(passP_not hp hk).1]; exact hc
    | true => rw [(passP_yes hp hk).1]; exact noteP_fine hc hl (tailSS_fine (passN_fine p.ns k))
theorem addN_len (us : List Nd) (j : Nat) (v : V) : (addN us j v).length = us.length := by
  unfold addN
  cases us[j]? with
  | none => rfl
  | some m => exact List.length_set
theorem goN_len (us : List Nd) (k : Nat) : (goN us k).length = us.length := by
  cases hx : us[k]? with
  | none => unfold goN; rw [hx]
  | some n =>
    cases hw : n.ws with
    | nil => unfold goN; rw [hx]; simp only [hw]
    | cons v r => rw [goN_at hx hw, addN_len, List.length_set]
theorem passN_len {ns : List Nd} {k : Int} (h : chainB ns = true) : (passN ns k).length = ns.length := by
  unfold passN
  rw [if_pos h]
  split
  · exact goN_len _ _
  · rfl
theorem chg_pass {p r : Pl} {k : Int} {b : Bool} (h : Chg p 1 (fun i => if i = 0 then p else chP p (passN p.ns k)) (fun _ => passK p.ns k) (noteP (chP p (passN p.ns k))) r b) : r = passP p k ∧ b = passPK p k := by
  rcases h with ⟨h1, h2, h3⟩ | ⟨h1, ⟨j, hj, _, h2, h3, h4⟩ | ⟨h2, h3, h4⟩⟩
  · rw [h2, h3, (passP_no h1).1, (passP_no h1).2]; exact ⟨rfl, rfl⟩
  · have e2 : passK p.ns k = false := h2
    have e3 : r = chP p (passN p.ns k) := h3.trans (if_neg (by omega))
    rw [e3, h4, (passP_not h1 e2).1, (passP_not h1 e2).2]; exact ⟨rfl, rfl⟩
  · have e2 : passK p.ns k = true := h2 0 (by omega)
    rw [h3, h4, (passP_yes h1 e2).1, (passP_yes h1 e2).2]; exact ⟨rfl, rfl⟩
set_option maxRecDepth 100000 in
set_option maxHeartbeats 2000000 in
theorem passStep_any (A : Option Addr) (c : Nat) (ns : List Nd) (k : Int) (b : Nat) (w : World) (hn : ns.length ≤ 1048576) (hm : SmN ns) (hC : CgA w A ns) (hb : Blk w b 3 #[.int .i64 k]) :
    Calls Tryz.prog 29 (#[.agg #[.slice A ns.length c]] ++ #[.pointer (some ⟨b, 0, none⟩)]) w (AnswerCB w (passN ns k) (passK ns k)) := by
  have S0 := ((Inv.start w).box 32 #[.slice A ns.length c]).box 32 #[.slice none 0 0]
  simp only [World.size_alloc] at S0
  have k0 := (S0.nth 1 rfl).one.1
  have b0 := (hb.on S0.below).one.1
  have C0 := hide (implChainPass_any A c ns k ((w.alloc (.cells #[.slice A ns.length c] 32)).alloc (.cells #[.slice none 0 0] 32)) hn hm (hC.on S0.below))
  generalize passN ns k = rs at C0 ⊢
  generalize passK ns k = ob at C0 ⊢
  clear hn hm hC hb
  go_enter Tryz.func29, Tryz.ntmps29
  go_wp2_with fail
  with_reducible refine C0.out.mono ?_
  rintro e w1 ⟨A1, cap1, us1, rfl, hn1, hr1, hb1⟩
  have S1 := S0.on hb1
  have HN1 := hide hn1
  have HR1 := hide hr1
  have q1 := (S1.nth 0 rfl).one
  have zr := S1.room
  have hz0 : ((w.alloc (.cells #[.slice A ns.length c] 32)).alloc (.cells #[.slice none 0 0] 32)).heap.size = w.heap.size + 2 := by simp
  clear S0 C0 k0 b0 hn1 hr1 hb1
  go_wp2
  refine bodyPost_ret (v := .tuple #[.agg #[.slice A1 rs.length cap1], .bool ob]) (by simp [results, Tryz.results29, go_sem, q1]) rfl ?_
  have ht : Turn (fun g => g = w.heap.size + 1) w1 (w1.setCell ⟨w.heap.size + 1, 0, none⟩ (.slice A1 rs.length cap1)) := (Turn.refl (fun g => g = w.heap.size + 1) w1).set (p := ⟨w.heap.size + 1, 0, none⟩) rfl _
  have hz : (w1.setCell ⟨w.heap.size + 1, 0, none⟩ (.slice A1 rs.length cap1)).heap.size = w1.heap.size := by simp [World.setCell]
  refine ⟨A1, cap1, us1, rfl, HN1.out, ?_, S1.below.setCell (by simp only; omega) _⟩
  rw [hz]
  exact (HR1.out.turnF ht (fun g hf e => by have := (HR1.out.foot hf).1; omega)).wide (by omega) (Nat.le_refl _)
set_option maxRecDepth 100000 in
set_option maxHeartbeats 4000000 in
theorem implPlacePass_any (p : Pl) (k : Int) (w : World) (hm : SmP p) (hcap : p.log.length ≤ p.lc ∧ ∀ l ∈ p.gs, l.vs.length ≤ l.c) (hC : Cp w p) :
    Calls Tryz.prog 9 #[.agg (plCells p), .int .i64 k] w (AnswerPB w (passP p k) (passPK p k)) := by
  have HCH : Hid (∀ W (nb b kb nc : Nat), Below w.heap.size w W → nb < W.heap.size → W.cell? ⟨nb, 0, none⟩ = some (.func (.func 64) #[] #[.pointer (some ⟨b, 0, none⟩)]) → Blk W b 60 #[.func (.func 29) #[] #[.pointer (some ⟨kb, 0, none⟩)]] → Blk W kb 3 #[.int .i64 k] → Calls Tryz.prog 31 #[.agg (plCells p), .slice (some ⟨nb, 0, none⟩) 1 nc, .func (.func 32) #[] #[]] W (AnswerPB W (passP p k) (passPK p k))) := fun W nb b kb nc hW hnb hcell hblk hkb => by
    refine (change_any p W nb nc [(64, #[.pointer (some ⟨b, 0, none⟩)])] 32 #[] (fun i => if i = 0 then p else chP p (passN p.ns k)) (fun _ => passK p.ns k) (noteP (chP p (passN p.ns k))) hm hcap (hC.on hW) (by simp) hnb ?_ ?_ (run_enterV Tryz.func32 (by kernel_rfl) rfl) rfl ?_ ?_).mono ?_
    · intro i m hi
      match i, hi with
      | 0, hi =>
        simp only [List.getElem?_cons_zero, Option.some.injEq] at hi
        subst hi
        exact hcell
      | i + 1, hi => simp at hi
    · intro m hmm
      rw [List.mem_singleton.1 hmm]
      exact run_enterV Tryz.func64 (by kernel_rfl) rfl
    · intro _ w0 h0 i m hi _
      match i, hi with
      | 0, hi =>
        simp only [List.getElem?_cons_zero, Option.some.injEq] at hi
        subst hi
        exact atChainStep_any w0 b 29 #[.pointer (some ⟨kb, 0, none⟩)] p (passN p.ns k) (passK p.ns k) (hblk.on h0) (run_enterV Tryz.func29 (by kernel_rfl) rfl) (fun W' q B C hW' hq hc => by
          have hn := hq.2.2.1
          have CT := passStep_any q.ca q.cc q.ns k kb W' (by rw [hn.1]; exact hm.1.1) (smN_like hn hm.1.2) hc.chain.cg ((hkb.on h0).on hW')
          refine CT.mono fun e w' ⟨A, cap, us, he, h1, h2, h3⟩ => ?_
          have hl := passN_like hn k
          exact ⟨A, cap, us, by rw [he, hl.1.1, hl.2], nl_trans h1 hl.1, h2, h3⟩)
      | i + 1, hi => simp at hi
    · intro hp w0 _ _
      obtain ⟨hf, hl⟩ := plB_fine hp
      have hcb := (plB_parts hp).2.1
      exact recordThen_any w0 (chP p (passN p.ns k)) (passN_fine p.ns k) (by show 1 ≤ (passN p.ns k).length; rw [passN_len hcb]; exact (chainB_parts hcb).1.1) hl
    · rintro e w' ⟨r, b', hch, ha⟩
      obtain ⟨rfl, rfl⟩ := chg_pass hch
      exact ha
  obtain ⟨me, ck, ca, cc, ns, la, lc, log, ga, gc, gs, fell⟩ := p
  have S0 := (((Inv.start w).box 36 (plAt me ck ca ns.length cc la log.length lc ga gs.length gc fell)).box 3 #[.int .i64 k]).box 36 (plAt 0 0 none 0 0 none 0 0 none 0 0 false)
  simp only [World.size_alloc] at S0
  generalize passP ⟨me, ck, ca, cc, ns, la, lc, log, ga, gc, gs, fell⟩ k = rp at HCH ⊢
  generalize passPK ⟨me, ck, ca, cc, ns, la, lc, log, ga, gc, gs, fell⟩ k = rb at HCH ⊢
  clear hm hcap hC
  go_enter Tryz.func9, Tryz.ntmps9
  go_wp2_with fail
  generalize ((w.alloc (.cells (plAt me ck ca ns.length cc la log.length lc ga gs.length gc fell) 36)).alloc (.cells #[.int .i64 k] 3)).alloc (.cells (plAt 0 0 none 0 0 none 0 0 none 0 0 false) 36) = W0 at S0 ⊢
  have CA := hide (atChain_any 29 #[.pointer (some ⟨w.heap.size + 1, 0, none⟩)] W0)
  with_reducible refine CA.out.mono ?_
  rintro e w1 ⟨rfl, hB1, hb1⟩
  have S1 := S0.on hb1
  have HB1 := hide hB1
  have q1 := (S1.nth 2 rfl).six
  clear S0 hB1 hb1 CA
  have CF := hide (fun hb => HCH.out (w1.alloc (.cells #[.func (.func 64) #[] #[.pointer (some ⟨W0.heap.size, 0, none⟩)]] 56)) w1.heap.size W0.heap.size (w.heap.size + 1) 1 (S1.alloc _).below (by simp) hb (HB1.out.on (below_alloc1 _ _)) ((S1.alloc _).nth 1 rfl))
  have CG := hide (CF.out (Blk.made w1 _ _).one.1)
  go_wp2_with fail
  with_reducible refine CG.out.mono ?_
  rintro e w2 ⟨q2, rfl, hq2, hr2, hb2⟩
  have S2 := (S1.alloc _).on hb2
  have HQ2 := hide hq2
  have HR2 := hide hr2
  have s2 := (S2.nth 0 rfl).six
  have zz := S1.room
  have z2 := hb2.size
  obtain ⟨me2, ck2, ca2, cc2, ns2, la2, lc2, log2, ga2, gc2, gs2, fell2⟩ := q2
  have HL := hide S2.below
  clear hq2 hr2 hb2 S1 S2 CF CG q1
  go_wp2
  refine bodyPost_ret (v := .tuple #[.agg (plAt me2 ck2 ca2 ns2.length cc2 la2 log2.length lc2 ga2 gs2.length gc2 fell2), .bool rb]) (by simp [results, Tryz.results9, go_sem, s2]) rfl ?_
  refine ⟨⟨me2, ck2, ca2, cc2, ns2, la2, lc2, log2, ga2, gc2, gs2, fell2⟩, rfl, HQ2.out, ?_, below_set6 HL.out (by omega) _ _ _ _ _ _⟩
  rw [size_w6]
  exact (HR2.out.turn (turn_w6 w2 (w.heap.size + 1 + 1) (.int .i64 me2) (.int .i64 ck2) (.slice ca2 ns2.length cc2) (.slice la2 log2.length lc2) (.slice ga2 gs2.length gc2) (.bool fell2)) (fun g a b e => by simp at a; omega)).wide (by simp; omega) (Nat.le_refl _)
end Go.Proofs.YtnaggcdhimcilaaGreat
/- Contract of a copy of a log, in the model. Condition: sizes that memory holds. -/
namespace Go.Proofs.YtnaggcdhimcilaaGreat
open Go.RowKit Go.Joins
attribute [local go_sem ↓] Go.wp_at_zero Go.wp_at_succ

theorem crow_empty (w : World) : CRow w.heap.size (w.alloc (.cells #[] 96)) (.slice (some ⟨w.heap.size, 0, none⟩) 0 0) [] :=
  ⟨⟨rfl, .inr ⟨w.heap.size, 0, #[], rfl, Nat.le_refl _, heap_alloc_new w _, Nat.le_refl _, by unfold maxLen; omega, rfl, rfl⟩⟩, fun i v h => by simp at h, fun i j v v' _ h => by simp at h, by simp⟩
set_option maxRecDepth 100000 in
set_option maxHeartbeats 4000000 in
theorem l4Vers_any (a : Option Addr) (c : Nat) (vs : List V) (w : World) (hn : vs.length ≤ 1048576) (hm : ∀ v ∈ vs, v.ts.length ≤ 1048576) (hv : Vg w w.heap.size a vs) :
    Calls Tryz.prog 58 #[.slice a vs.length c] w (CopiedR w vs) := by
  obtain ⟨i0, hi0, hz0, hz1, hz2⟩ := info_parts ver_info
  have I0 := hide hi0
  have I1 := hide hz0
  have I2 := hide hz1
  have I3 := hide hz2
  clear hi0 hz0 hz1 hz2
  have HM := hide hm
  clear hm
  generalize hnn : vs.length = n at *
  have HN := hide hnn
  clear hnn
  go_enter Tryz.func58, Tryz.ntmps58
  have BE := hide (below_alloc1 w (.cells #[] 96))
  have HC0 := hide (crow_empty w)
  go_wp2
  go_loopw [3, 4] (fun x i wr => ∃ (k : Nat) (us : List V), k ≤ n ∧ i = .int .i64 (k : Int) ∧ Hid (us.length = k) ∧ Hid (Like us vs) ∧ Hid (CRow w.heap.size wr x us) ∧ Below w.heap.size w wr) (fun _ i _ => n - (intOf i).toNat)
  case atStart => exact ⟨0, [], Nat.zero_le _, rfl, rfl, fun i v v' hi => by simp at hi, HC0.out, BE.out⟩
  case round =>
    obtain ⟨k, us, hk, rfl, HU, HL, HC, hLL⟩ := hrel
    by_cases hlt : k < n
    · rcases hv with h0 | ⟨b, off, rfl, hb, hx⟩
      · have := HN.out; subst h0; simp at this; omega
      · have hkl : k < vs.length := by have := HN.out; omega
        obtain ⟨hS, hT⟩ := hx k _ (List.getElem?_eq_getElem hkl)
        have HX := hide (List.getElem?_eq_getElem hkl)
        generalize vs[k] = v at hS hT HX
        have HB := hide (HM.out v (List.mem_of_getElem? HX.out))
        have hL := hLL
        obtain ⟨s0, s1, s2, s3, s4, s5⟩ := hS.keep hb fun _ hp => hL.cell hp
        have hzz := hL.size
        have HT := hide (((hT.on hL).up hzz))
        have i1 : (0 : Int) ≤ (k : Int) := by omega
        have i2 : (k : Int) < (n : Int) := by omega
        have hbw : b < wr.heap.size := by omega
        clear hS hT hx hL
        go_wp2_with fail
        refine (l2Copy_any v _ HB.out HT.out).mono ?_
        rintro e w1 ⟨v', rfl, hlike, hown, hb1⟩
        have L1 := hide hb1
        have CR := HC.out.on L1.out
        have HLI := hide hlike
        have HOW := hide hown
        have z1 : wr.heap.size ≤ w1.heap.size := hb1.size
        have HR := hide (show w1.ownsRow w.heap.size 96 6 u3 k (flat6 us) by have := CR.row; rw [HU.out] at this; exact this)
        clear s0 s1 s2 s3 s4 s5 hlike hown hb1 CR
        go_wp2_with (at_builtin; (refine wpList_append_lies _ rfl (.tmp 12) (.tmp 18) 33 rfl w.heap.size 96 i0 _ 6 72 Tryz.underlying33 I0.out I1.out I2.out I3.out rfl (by omega) u3 k (flat6 us) rfl (HR.out.alloc _) ⟨w1.heap.size, 0, none⟩ 1 1 (cells6 v') rfl rfl (World.news_of_block (cs := verC v'.k v'.t v'.u v'.a v'.ts.length v'.c v'.s v'.g) (by simpa using heap_alloc_new w1 (.cells (verC v'.k v'.t v'.u v'.a v'.ts.length v'.c v'.s v'.g) 96))) (by simp [cells6, Value.oneCell']) (by omega) (by unfold maxLen; omega) (by omega) (by simp; omega) _ rfl ?_; intro g2 cap2 w2 hown2 hgrow hat hlt2; have OW := hide hown2; have GW := hide hgrow; clear hown2 hgrow hat))
        refine ⟨⟨k + 1, us ++ [v'], by omega, by go_num, ?_, like_step HL.out HU.out HX.out HLI.out, ?_, ((hLL.trans (L1.out.mono hzz)).alloc (by omega) _).grown GW.out (by simp; omega) (fun r hr => (HC.out.typed r hr).elim fun _ h => h.2.1)⟩, by simp [intOf]; omega⟩
        · unfold Hid
          rw [List.length_append, HU.out]
          rfl
        · have hp := HC.out.push (w1 := w1.alloc (.cells (verC v'.k v'.t v'.u v'.a v'.ts.length v'.c v'.s v'.g) 96)) (B := wr.heap.size) (v := v') (g := g2) (cap := cap2) (w2 := w2) (L1.out.trans ((below_alloc1 w1 _).mono L1.out.size)) (by omega) (((by simpa using HOW.out : Own1 w1 wr.heap.size w1.heap.size v').on (below_alloc1 w1 _)).wide (by simp)) (by rw [HU.out]; exact OW.out) GW.out
          rw [HU.out] at hp
          exact hp
    · have hkn : k = n := by omega
      subst hkn
      clear hlt
      go_wp2
      go_ret
      exact ⟨_, us, rfl, HU.out.trans HN.out.symm, HL.out, HC.out, hLL⟩
end Go.Proofs.YtnaggcdhimcilaaGreat
/- A copy of a place, in the model: its parts in memory of their own. Condition: sizes that memory holds. -/
namespace Go.Proofs.YtnaggcdhimcilaaGreat
open Go.RowKit Go.Joins
attribute [local go_sem ↓] Go.wp_at_zero Go.wp_at_succ

/-- The blocks of a row of nodes, that of the row among them. -/
def FootK (x : Value) (us : List Nd) (g : Nat) : Prop := x.ownBlock = some g ∨ ∃ (i : Nat) (n : Nd), us[i]? = some n ∧ FootO n g
theorem GRow.footK {base : Nat} {wr : World} {x : Value} {us : List Nd} (h : GRow base wr x us) {g : Nat} (hf : FootK x us g) : base ≤ g ∧ g < wr.heap.size := by
  rcases hf with hf | ⟨i, n, hi, hf⟩
  · obtain ⟨_, _, h1⟩ := h.typed g hf
    exact h1
  · exact h.foot hi hf
theorem GRow.turnK {P : Nat → Prop} {base : Nat} {wr w2 : World} {x : Value} {us : List Nd} (h : GRow base wr x us) (ht : Turn P wr w2) (hp : ∀ g, FootK x us g → ¬ P g) : GRow base w2 x us := by
  refine ⟨⟨h.row.1, ?_⟩, fun i v hi => ((h.store i v hi).turnF ht (fun g hf => hp g (.inr ⟨i, v, hi, .inl hf⟩))).wide ht.size, fun i v hi => ((h.wait i v hi).turnF ht (fun g hf => hp g (.inr ⟨i, v, hi, .inr (.inl hf)⟩))).wide ht.size, h.two, h.apart, Nat.le_trans h.lo ht.size, fun i v hi => (h.own i v hi).turnP ht (fun g hf => hp g (.inr ⟨i, v, hi, .inr hf⟩))⟩
  rcases h.row.2 with h' | ⟨g, cap, cr, h1, h2, h3, h4⟩
  · exact .inl h'
  · exact .inr ⟨g, cap, cr, h1, h2, Blk.turned (show Blk wr g 90 cr from h3) ht (hp g (.inl (by rw [h1]; rfl))), h4⟩
theorem inv_set6 {w w1 : World} {n b : Nat} {bs : List (Nat × TypeId × Array Value)} (h : Inv w n bs w1) (hp : n ≤ b) (hw : w.heap.size ≤ b) (x0 x1 x2 x3 x4 x5 : Value) :
    Inv w n bs ((((((w1.setCell ⟨b, 0, none⟩ x0).setCell ⟨b, 1, none⟩ x1).setCell ⟨b, 2, none⟩ x2).setCell ⟨b, 3, none⟩ x3).setCell ⟨b, 4, none⟩ x4).setCell ⟨b, 5, none⟩ x5) :=
  (((((h.set (p := ⟨b, 0, none⟩) hp hw x0).set (p := ⟨b, 1, none⟩) hp hw x1).set (p := ⟨b, 2, none⟩) hp hw x2).set (p := ⟨b, 3, none⟩) hp hw x3).set (p := ⟨b, 4, none⟩) hp hw x4).set (p := ⟨b, 5, none⟩) hp hw x5
/-- The parts of a place, each in blocks of its own: the chain below M1, the log below M2, what was heard from there on. -/
structure OwnP (w : World) (B M1 M2 : Nat) (q : Pl) : Prop where
  chain : GRow B w (.slice q.ca q.ns.length q.cc) q.ns
  log : CRow B w (.slice q.la q.log.length q.lc) q.log
  got : HRow B w (.slice q.ga q.gs.length q.gc) q.gs
  fc : ∀ g, FootK (.slice q.ca q.ns.length q.cc) q.ns g → g < M1
  fl : ∀ g, FootV q.la q.lc q.log g → M1 ≤ g ∧ g < M2
  fg : ∀ g, FootH (.slice q.ga q.gs.length q.gc) q.gs g → M2 ≤ g
  m1 : B ≤ M1
  m2 : M1 ≤ M2
/-- What a copy of a place is. -/
def OwnedP (w : World) (p : Pl) (e : Ending) (w' : World) : Prop :=
  ∃ (q : Pl) (M1 M2 : Nat), e = .returned (.agg (plCells q)) ∧ LP q p ∧ OwnP w' w.heap.size M1 M2 q ∧ Below w.heap.size w w'
end Go.Proofs.YtnaggcdhimcilaaGreat
