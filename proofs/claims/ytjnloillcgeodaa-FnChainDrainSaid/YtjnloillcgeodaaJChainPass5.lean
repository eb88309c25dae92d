/- When all is passed on, round by round, nothing waits any more, and all nodes have what the head has. No condition. -/
import Derived.Test.YtjnloillcgeodaaJFnChainKit
import Derived.Test.YtjnloillcgeodaaJChainPass4
namespace Go.Proofs.Ytjnloillcgeodaa
open Go.RowKit Go.Joins

/-- How much waits at each node, and how that changes. -/
def cntN (ns : List Nd) : List Nat := ns.map fun n => n.ws.length
def goC (cs : List Nat) (k : Nat) : List Nat :=
  match cs[k]?, cs[k + 1]? with
  | some a, some b => if 0 < a ∧ b < 6 then (cs.set k (a - 1)).set (k + 1) (if k + 1 + 1 = cs.length then b else b + 1) else cs
  | _, _ => cs
theorem cntN_len (ns : List Nd) : (cntN ns).length = ns.length := by unfold cntN; rw [List.length_map]
theorem cntN_at {ns : List Nd} {k : Nat} {n : Nd} (h : ns[k]? = some n) : (cntN ns)[k]? = some n.ws.length := by unfold cntN; rw [List.getElem?_map, h]; rfl
theorem cntN_none {ns : List Nd} {k : Nat} (h : ns[k]? = none) : (cntN ns)[k]? = none := by unfold cntN; rw [List.getElem?_map, h]; rfl
theorem cnt_pass {ns : List Nd} (h : chainB ns = true) (k : Nat) : cntN (passN ns (k : Int)) = goC (cntN ns) k := by
  by_cases hc : canB ns k = true
  · obtain ⟨n, m, v, r, hn, hm, hw, hr⟩ := can_parts hc
    rw [(passN_yes h (by omega) (by simpa using hc)).1, Int.toNat_natCast, goN_is hn hm hw]
    obtain ⟨ss, hs, _, _⟩ := link_pass (b := decide (k + 1 + 1 = ns.length)) (chain_link h hn hm) hw
    have e1 : (tailNd n).ws.length = n.ws.length - 1 := by unfold tailNd; simp
    have e2 : (addNd m (decide (k + 1 + 1 = ns.length)) v).ws.length = if k + 1 + 1 = ns.length then m.ws.length else m.ws.length + 1 := by
      unfold addNd
      rw [hs]
      by_cases q : k + 1 + 1 = ns.length
      · rw [decide_eq_true q, if_pos q]
        rfl
      · rw [decide_eq_false q, if_neg q]
        simp
    unfold goC
    rw [cntN_at hn, cntN_at hm, cntN_len]
    simp only
    rw [if_pos ⟨by rw [hw]; simp, hr⟩]
    unfold cntN
    rw [List.map_set, List.map_set, e1, e2]
  · have hc' : ¬ (0 ≤ (k : Int) ∧ canB ns (k : Int).toNat = true) := by
      rw [Int.toNat_natCast]
      exact fun q => hc q.2
    rw [(passN_not h hc').1]
    unfold goC
    cases hn : ns[k]? with
    | none => rw [cntN_none hn]
    | some n =>
      rw [cntN_at hn]
      cases hm : ns[k + 1]? with
      | none => rw [cntN_none hm]
      | some m =>
        rw [cntN_at hm]
        simp only
        rw [canB_at hn hm, Bool.and_eq_true, decide_eq_true_eq, decide_eq_true_eq] at hc
        rw [if_neg hc]
/-- One round: the last node first. -/
def downN (ns : List Nd) (L : Nat) : Nat → List Nd
  | 0 => ns
  | c + 1 => passN (downN ns L c) ((L - 1 - c : Nat) : Int)
def downC (cs : List Nat) (L : Nat) : Nat → List Nat
  | 0 => cs
  | c + 1 => goC (downC cs L c) (L - 1 - c)
/-- So many rounds. -/
def drainN (ns : List Nd) : Nat → List Nd
  | 0 => ns
  | r + 1 => downN (drainN ns r) ns.length ns.length
def drainC (cs : List Nat) : Nat → List Nat
  | 0 => cs
  | r + 1 => downC (drainC cs r) cs.length cs.length
/-- What stays. -/
def Stays (ns us : List Nd) : Prop := chainB us = true ∧ us.length = ns.length ∧ ∀ x, ns[0]? = some x → ∃ y, us[0]? = some y ∧ y.ss = x.ss
theorem stays_refl {ns : List Nd} (h : chainB ns = true) : Stays ns ns := ⟨h, rfl, fun x hx => ⟨x, hx, rfl⟩⟩
theorem stays_trans {a b c : List Nd} (h : Stays a b) (k : Stays b c) : Stays a c := ⟨k.1, k.2.1.trans h.2.1, fun x hx => by
  obtain ⟨y, hy, e⟩ := h.2.2 x hx
  obtain ⟨z, hz, e'⟩ := k.2.2 y hy
  exact ⟨z, hz, e'.trans e⟩⟩
theorem stays_pass {ns : List Nd} {k : Int} (h : chainB ns = true) : Stays ns (passN ns k) := by
  by_cases hc : 0 ≤ k ∧ canB ns k.toNat = true
  · rw [(passN_yes h hc.1 hc.2).1]
    exact ⟨chain_go h hc.2, goN_size _ _, fun x hx => goN_head hx⟩
  · rw [(passN_not h hc).1]
    exact stays_refl h
theorem stays_down {ns : List Nd} (h : chainB ns = true) (L : Nat) : ∀ c, Stays ns (downN ns L c)
  | 0 => stays_refl h
  | c + 1 => stays_trans (stays_down h L c) (stays_pass (stays_down h L c).1)
theorem stays_drain {ns : List Nd} (h : chainB ns = true) : ∀ r, Stays ns (drainN ns r)
  | 0 => stays_refl h
  | r + 1 => stays_trans (stays_drain h r) (stays_down (stays_drain h r).1 _ _)
theorem cnt_down {ns : List Nd} (h : chainB ns = true) (L : Nat) : ∀ c, cntN (downN ns L c) = downC (cntN ns) L c
  | 0 => rfl
  | c + 1 => by
    rw [downN, downC, cnt_pass (stays_down h L c).1, cnt_down h L c]
theorem cnt_drain {ns : List Nd} (h : chainB ns = true) : ∀ r, cntN (drainN ns r) = drainC (cntN ns) r
  | 0 => rfl
  | r + 1 => by
    rw [drainN, drainC, cnt_down (stays_drain h r).1, cnt_drain h r, cntN_len]
theorem drain1 : drainC [0] 24 = [0] := by decide
theorem drain2 : ∀ a : Fin 7, drainC [a.1, 0] 24 = [0, 0] := by decide +kernel
theorem drain3 : ∀ a b : Fin 7, drainC [a.1, b.1, 0] 24 = [0, 0, 0] := by decide +kernel
theorem drain4 : ∀ a b c : Fin 7, drainC [a.1, b.1, c.1, 0] 24 = [0, 0, 0, 0] := by decide +kernel
theorem drain_none {ns : List Nd} (h : chainB ns = true) : ∀ x ∈ cntN (drainN ns 24), x = 0 := by
  rw [cnt_drain h]
  obtain ⟨h0, h1, _⟩ := chainB_parts h
  have six : ∀ (i : Nat) n, ns[i]? = some n → n.ws.length < 7 := fun i n hi => by have := (nodeB_parts (h1 i n hi)).2.1; omega
  have last : ∀ (i : Nat) n, i + 1 = ns.length → ns[i]? = some n → n.ws.length = 0 := fun i n he hi => by rw [chain_end h he hi]; rfl
  match ns, h0 with
  | [a], _ =>
    have ea := last 0 a rfl rfl
    show ∀ x ∈ drainC [a.ws.length] 24, x = 0
    rw [ea, drain1]
    simp
  | [a, b], _ =>
    have ea := last 1 b rfl rfl
    show ∀ x ∈ drainC [a.ws.length, b.ws.length] 24, x = 0
    rw [ea, drain2 ⟨a.ws.length, six 0 a rfl⟩]
    simp
  | [a, b, c], _ =>
    have ea := last 2 c rfl rfl
    show ∀ x ∈ drainC [a.ws.length, b.ws.length, c.ws.length] 24, x = 0
    rw [ea, drain3 ⟨a.ws.length, six 0 a rfl⟩ ⟨b.ws.length, six 1 b rfl⟩]
    simp
  | [a, b, c, d], _ =>
    have ea := last 3 d rfl rfl
    show ∀ x ∈ drainC [a.ws.length, b.ws.length, c.ws.length, d.ws.length] 24, x = 0
    rw [ea, drain4 ⟨a.ws.length, six 0 a rfl⟩ ⟨b.ws.length, six 1 b rfl⟩ ⟨c.ws.length, six 2 c rfl⟩]
    simp
theorem drained {ns : List Nd} (h : chainB ns = true) {i : Nat} {n : Nd} (hn : (drainN ns 24)[i]? = some n) : n.ws = [] := by
  have := drain_none h n.ws.length (List.mem_of_getElem? (cntN_at hn))
  exact List.length_eq_zero_iff.1 this
/-- Where nothing waits all nodes have the same. -/
theorem all_same {ns : List Nd} (h : chainB ns = true) (hw : ∀ (i : Nat) n, ns[i]? = some n → n.ws = []) {x : Nd} (hx : ns[0]? = some x) : ∀ (i : Nat) n, ns[i]? = some n → LL n.ss x.ss
  | 0, n, hn => by
    rw [hx] at hn
    injection hn with hn
    subst hn
    exact ll_refl _
  | i + 1, n, hn => by
    obtain ⟨m, hm⟩ : ∃ m, ns[i]? = some m := ⟨_, List.getElem?_eq_getElem (by have := (List.getElem?_eq_some_iff.1 hn).1; omega)⟩
    obtain ⟨us, hu, hl⟩ := linkB_parts (chain_link h hm hn)
    rw [hw i m hm] at hu
    have e : n.ss = us := by
      unfold walkL at hu
      simpa using hu
    subst e
    exact ll_trans hl (all_same h hw hx i m hm)
/-- What is there at the end. -/
theorem drain_all {ns : List Nd} (h : chainB ns = true) {x : Nd} (hx : ns[0]? = some x) : ∀ (i : Nat) n, (drainN ns 24)[i]? = some n → n.ws = [] ∧ LL n.ss x.ss := fun i n hn => by
  obtain ⟨hk, _, hh⟩ := stays_drain h 24
  obtain ⟨y, hy, e⟩ := hh x hx
  refine ⟨drained h hn, ?_⟩
  rw [← e]
  exact all_same hk (fun j m hm => drained h hm) hy i n hn
end Go.Proofs.Ytjnloillcgeodaa
/- Contract of the model's ChainPass. Condition: sizes that memory holds. -/
namespace Go.Proofs.Ytjnloillcgeodaa
open Go.RowKit Go.Joins
attribute [local go_sem ↓] Go.wp_at_zero Go.wp_at_succ

set_option maxRecDepth 100000 in
set_option maxHeartbeats 4000000 in
theorem specChainPass_any (A : Option Addr) (c : Nat) (ns : List Nd) (k : Int) (w : World) (hn : ns.length ≤ 1048576) (hm : SmN ns) (hC : CgA w A ns) :
    Calls Try.prog 18 #[.agg #[.slice A ns.length c], .int .i64 k] w (AnswerCB w (passN ns k) (passK ns k)) := by
  have S0 := ((Inv.start w).box 25 #[.slice A ns.length c]).box 25 #[.slice none 0 0]
  simp only [World.size_alloc] at S0
  have C0 := hide (l3Ok_any A c ns ((w.alloc (.cells #[.slice A ns.length c] 25)).alloc (.cells #[.slice none 0 0] 25)) hn hm (hC.on S0.below))
  have CC : Hid (∀ W, Below w.heap.size w W → Calls Try.prog 36 #[.agg #[.slice A ns.length c]] W (ClonedC W ns)) := fun W hW => l3Copy_any A c ns W hn hm (hC.on hW)
  have k0 := (S0.nth 1 rfl).one.1
  have HC := hide hC
  clear hm hC
  cases ho : chainB ns
  · have HE := hide (passN_no (k := k) ho)
    rw [ho] at C0
    clear ho
    go_enter Try.func18, Try.ntmps18
    go_wp2_with fail
    with_reducible refine C0.out.mono ?_
    rintro e w1 ⟨rfl, hb1⟩
    have S1 := S0.on hb1
    have q1 := (S1.nth 0 rfl).one
    clear S0 C0 k0
    go_wp2
    refine bodyPost_ret (v := .tuple #[.agg #[.slice none 0 0], .bool false]) (by simp [results, Try.results18, go_sem, q1]) rfl ?_
    exact answerCB_none HE.out (S1.below.setCell (by simp only; omega) _)
  · have HOK := hide ho
    rw [ho] at C0
    clear ho
    obtain ⟨⟨h1, h4⟩, -, -⟩ := chainB_parts HOK.out
    rcases HC.out with h0 | ⟨G0, cur0, rfl, hG0⟩
    · rw [h0] at h1; simp at h1
    have HG0 := hide hG0
    clear hG0
    go_enter Try.func18, Try.ntmps18
    go_wp2_with fail
    with_reducible refine C0.out.mono ?_
    rintro e w1 ⟨rfl, hb1⟩
    have S1 := S0.on hb1
    have k1 := (S1.nth 1 rfl).one.1
    have CR := hide (l3Can_any G0 c ns cur0 k w1 (HG0.out.on S1.below) h4)
    clear S0 C0 k0 hb1
    cases hcan : (decide (0 ≤ k) && canB ns k.toNat)
    · have HE := hide (passN_not (k := k) HOK.out (fun q => by rw [decide_eq_true q.1, q.2] at hcan; cases hcan))
      rw [hcan] at CR
      clear hcan
      go_wp2_with fail
      with_reducible refine CR.out.mono ?_
      rintro e w3 ⟨rfl, hb3⟩
      have S3 := S1.on hb3
      have k3 := (S3.nth 1 rfl).one.1
      have zr := S3.room
      have zb := S3.base
      clear S1 CR k1 hb3
      go_wp2_with fail
      with_reducible refine (CC.out _ S3.below).mono ?_
      rintro e w4 hcl
      obtain ⟨G, xc, us, rfl, hul, hu4, hB, hu1, hgr, hb⟩ := cloned_at hcl HOK.out
      have HUL := hide hul
      have HGR := hide hgr
      have S4 := S3.on hb
      have q4 := (S4.nth 0 rfl).one
      clear S3 k3 hb hul hgr hcl hB
      go_wp2
      refine bodyPost_ret (v := .tuple #[.agg #[.slice (some ⟨G, 0, none⟩) us.length xc], .bool false]) (by simp [results, Try.results18, go_sem, q4]) rfl ?_
      rw [HE.out.1, HE.out.2]
      exact answerCB_row ((HGR.out.aside (p := ⟨w.heap.size + 1, 0, none⟩) (by simp only; omega) _).down zb) HUL.out (S4.below.setCell (by simp only; omega) _)
    · obtain ⟨hk0, hcb⟩ : 0 ≤ k ∧ canB ns k.toNat = true := by
        rw [Bool.and_eq_true, decide_eq_true_eq] at hcan
        exact hcan
      have HE := hide (passN_yes (k := k) HOK.out hk0 hcb)
      obtain ⟨kn, rfl⟩ : ∃ kn : Nat, k = (kn : Int) := ⟨k.toNat, by omega⟩
      simp only [Int.toNat_natCast] at hcb HE
      have HCB := hide hcb
      rw [hcan] at CR
      clear hcan hcb
      go_wp2_with fail
      with_reducible refine CR.out.mono ?_
      rintro e w3 ⟨rfl, hb3⟩
      have S3 := S1.on hb3
      have k3 := (S3.nth 1 rfl).one.1
      have zr := S3.room
      have zb := S3.base
      clear S1 CR k1 hb3
      go_wp2_with fail
      with_reducible refine (CC.out _ S3.below).mono ?_
      rintro e w4 hcl
      obtain ⟨G, xc, us, rfl, hul, hu4, hB, hu1, hgr, hb⟩ := cloned_at hcl HOK.out
      have HUL := hide hul
      have S4 := S3.on hb
      have CA := hide (l3Pass_can w3.heap.size G xc kn us w4 hgr ((canB_like hul kn).trans HCB.out) hu4 hB)
      have q4 := (S4.nth 0 rfl).one
      clear S3 k3 hb hul hgr hcl hB
      go_wp2_with fail
      with_reducible refine CA.out.mono ?_
      rintro e w5 ⟨us', rfl, hul', hg5, hT⟩
      have HUL5 := hide hul'
      have S5 := S4.turned hT (fun g e => by have := e.1; omega) (fun x hx e => by
        have e' : w3.heap.size ≤ x.1 := e.1
        simp only [List.mem_cons, List.not_mem_nil, or_false] at hx
        rcases hx with rfl | rfl <;> simp only at e' <;> omega)
      have HG9 := hide (hg5.aside (p := ⟨w.heap.size + 1, 0, none⟩) (by simp only; omega) (.slice (some ⟨G, 0, none⟩) us.length xc))
      have q5 := (S5.nth 0 rfl).one
      clear S4 q4 CA hul' hg5 hT
      go_wp2
      refine bodyPost_ret (v := .tuple #[.agg #[.slice (some ⟨G, 0, none⟩) us.length xc], .bool true]) (by simp [results, Try.results18, go_sem, q5]) rfl ?_
      rw [HE.out.1, HE.out.2]
      exact answerCB_row (HG9.out.down zb) (nl_trans HUL5.out (goN_like HUL.out kn)) (S5.below.setCell (by simp only; omega) _)
end Go.Proofs.Ytjnloillcgeodaa
