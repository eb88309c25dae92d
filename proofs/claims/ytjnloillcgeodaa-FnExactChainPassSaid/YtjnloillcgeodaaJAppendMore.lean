/- Contract of the model's ChainPut. Condition: sizes that memory holds. -/
import Derived.Test.YtjnloillcgeodaaJChainPut2
namespace Go.Proofs.Ytjnloillcgeodaa
open Go.RowKit Go.Joins
attribute [local go_sem ↓] Go.wp_at_zero Go.wp_at_succ

theorem ResN.set {w : World} {B U : Nat} {A : Option Addr} {us : List Nd} (h : ResN w B U A us) {p : Addr} (hp : p.block < B ∨ U ≤ p.block) (u : Value) : ResN (w.setCell p u) B U A us :=
  h.turn (P := fun g => g = p.block) ((Turn.refl (fun g => g = p.block) w).set (p := p) rfl u) (fun g h1 h2 e => by omega)
theorem ResN.swap {w : World} {B U : Nat} {A : Option Addr} {us : List Nd} {o o' : Obj} (h : ResN (w.alloc o) B U A us) (hU : U ≤ w.heap.size) : ResN (w.alloc o') B U A us := by
  have ht : Turn (fun g => g = w.heap.size) (w.alloc o) (w.alloc o') := ⟨rfl, rfl, rfl, by simp, fun k hk hn => by
    have hk' : k < w.heap.size := by simp at hk; omega
    rw [Below.heap_alloc w o' k hk', Below.heap_alloc w o k hk']⟩
  exact h.turn ht (fun g h1 h2 e => by omega)
theorem NRow.low {w : World} {B B' U G : Nat} {ns : List Nd} {cur : Array Value} (h : NRow w B U G ns cur) (hb : B' ≤ B) : NRow w B' U G ns cur :=
  ⟨h.blk, Nat.le_trans hb h.lo, h.hi, h.size, h.at', fun i n hi => (h.store i n hi).low hb, fun i n hi => (h.wait i n hi).low hb, h.two, h.apart⟩
theorem cloned_at {W w' : World} {ns : List Nd} {e : Ending} (h : ClonedC W ns e w') (hok : chainB ns = true) : ∃ (G xc : Nat) (us : List Nd), e = .returned (.agg #[.slice (some ⟨G, 0, none⟩) us.length xc]) ∧ NL us ns ∧ us.length ≤ 4 ∧ (∀ (i : Nat) n, us[i]? = some n → nodeB n = true) ∧ 1 ≤ us.length ∧ GRow W.heap.size w' (.slice (some ⟨G, 0, none⟩) us.length xc) us ∧ Below W.heap.size W w' := by
  obtain ⟨x, us, rfl, hul, hgr, hb⟩ := h
  obtain ⟨xa, xc, rfl⟩ := hgr.form
  have hcu : chainB us = true := (chainB_like hul).trans hok
  obtain ⟨⟨h1, h4⟩, hB, -⟩ := chainB_parts hcu
  obtain ⟨_, hR⟩ := hgr.res
  rcases hR with h0 | ⟨G, cur, rfl, hR⟩
  · rw [h0] at h1; simp at h1
  exact ⟨G, xc, us, rfl, hul, h4, hB, h1, hgr, hb⟩
set_option maxRecDepth 100000 in
set_option maxHeartbeats 4000000 in
theorem specChainPut_any (A : Option Addr) (c : Nat) (ns : List Nd) (v : V) (w : World) (hn : ns.length ≤ 1048576) (hm : SmN ns) (hC : CgA w A ns) (hn1 : v.ts.length ≤ 1048576) (hs1 : v.s.size ≤ 9223372036854775807) (hv : Own1 w 0 w.heap.size v) :
    Calls Try.prog 9 #[.agg #[.slice A ns.length c], .agg (verC v.k v.t v.u v.a v.ts.length v.c v.s v.g)] w (AnswerCB w (putN ns v) (putK ns v)) := by
  have S0 := (((Inv.start w).box 25 #[.slice A ns.length c]).box 32 (verC v.k v.t v.u v.a v.ts.length v.c v.s v.g)).box 25 #[.slice none 0 0]
  simp only [World.size_alloc] at S0
  have C0 := hide (l3Ok_any A c ns (((w.alloc (.cells #[.slice A ns.length c] 25)).alloc (.cells (verC v.k v.t v.u v.a v.ts.length v.c v.s v.g) 32)).alloc (.cells #[.slice none 0 0] 25)) hn hm (hC.on S0.below))
  have CV : Hid (∀ W, Below w.heap.size w W → Calls Try.prog 34 #[.agg (verC v.k v.t v.u v.a v.ts.length v.c v.s v.g)] W fun e w' => e = .returned (.bool (verV v)) ∧ Below W.heap.size W w') := fun W hW => l2Ok_any v.k v.t v.u v.a v.c v.ts v.s v.g W hn1 hs1 ((hv.on hW).wide hW.size).tg
  have CC : Hid (∀ W, Below w.heap.size w W → Calls Try.prog 36 #[.agg #[.slice A ns.length c]] W (ClonedC W ns)) := fun W hW => l3Copy_any A c ns W hn hm (hC.on hW)
  have k0 := (S0.nth 2 rfl).one.1
  have HV := hide hv
  have HC := hide hC
  clear hm hC hv
  cases ho : chainB ns
  · have HE := hide (putN_no (ns := ns) (v := v) (by rw [ho]; simp))
    rw [ho] at C0
    clear ho
    go_enter Try.func9, Try.ntmps9
    go_wp2_with fail
    with_reducible refine C0.out.mono ?_
    rintro e w1 ⟨rfl, hb1⟩
    have S1 := S0.on hb1
    have q1 := (S1.nth 0 rfl).one
    clear S0 C0 k0
    go_wp2
    refine bodyPost_ret (v := .tuple #[.agg #[.slice none 0 0], .bool false]) (by simp [results, Try.results9, go_sem, q1]) rfl ?_
    exact answerCB_none HE.out (S1.below.setCell (by simp only; omega) _)
  · have HOK := hide ho
    rw [ho] at C0
    clear ho
    cases hvb : verV v
    · have HE := hide (putN_no (ns := ns) (v := v) (by rw [hvb]; simp))
      rw [hvb] at CV
      clear hvb
      go_enter Try.func9, Try.ntmps9
      go_wp2_with fail
      with_reducible refine C0.out.mono ?_
      rintro e w1 ⟨rfl, hb1⟩
      have S1 := S0.on hb1
      have k1 := (S1.nth 1 rfl).six.1
      clear S0 C0 k0
      go_wp2_with fail
      with_reducible refine (CV.out _ S1.below).mono ?_
      rintro e w2 ⟨rfl, hb2⟩
      have S2 := S1.on hb2
      have q1 := (S2.nth 0 rfl).one
      clear S1 k1
      go_wp2
      refine bodyPost_ret (v := .tuple #[.agg #[.slice none 0 0], .bool false]) (by simp [results, Try.results9, go_sem, q1]) rfl ?_
      exact answerCB_none HE.out (S2.below.setCell (by simp only; omega) _)
    · have HVB := hide hvb
      rw [hvb] at CV
      clear hvb
      obtain ⟨⟨h1, h4⟩, -, -⟩ := chainB_parts HOK.out
      obtain ⟨n, hn0⟩ : ∃ n, ns[0]? = some n := ⟨_, List.getElem?_eq_getElem (by omega)⟩
      have HRN : Hid (roomB ns = decide (n.ws.length < 6)) := by unfold Hid roomB; rw [hn0]
      have HN0 := hide hn0
      rcases HC.out with h0 | ⟨G0, cur0, rfl, hG0⟩
      · rw [h0] at h1; simp at h1
      have HG0 := hide hG0
      clear hG0 hn0
      go_enter Try.func9, Try.ntmps9
      go_wp2_with fail
      with_reducible refine C0.out.mono ?_
      rintro e w1 ⟨rfl, hb1⟩
      have S1 := S0.on hb1
      have k1 := (S1.nth 1 rfl).six.1
      clear S0 C0 k0
      go_wp2_with fail
      with_reducible refine (CV.out _ S1.below).mono ?_
      rintro e w2 ⟨rfl, hb2⟩
      have S2 := S1.on hb2
      have k2 := (S2.nth 2 rfl).one.1
      have CR := hide (l3Room_any G0 c ns.length ns cur0 n w2 (HG0.out.on S2.below) HN0.out (by omega))
      clear S1 k1 CV hb1 hb2
      by_cases h6 : n.ws.length < 6
      · have HE := hide (putN_yes (v := v) HOK.out HVB.out (by rw [HRN.out]; simp; omega))
        rw [decide_eq_true h6] at CR
        clear h6
        go_wp2_with fail
        with_reducible refine CR.out.mono ?_
        rintro e w3 ⟨rfl, hb3⟩
        have S3 := S2.on hb3
        have zr := S3.room
        have zb := S3.base
        have J3 : Inv w (w.heap.size + 1 + 1) [(w.heap.size + 1, 32, (verC v.k v.t v.u v.a v.ts.length v.c v.s v.g)), (w.heap.size, 25, #[.slice (some ⟨G0, 0, none⟩) ns.length c])] w3 := ⟨S3.below, by omega, fun x hx => by
          simp only [List.mem_cons, List.not_mem_nil, or_false] at hx
          rcases hx with rfl | rfl
          · exact ⟨by simp, by simp, S3.nth 1 rfl⟩
          · exact ⟨Nat.le_refl _, by simp only; omega, S3.nth 2 rfl⟩⟩
        have B3 := S3.nth 0 rfl
        clear S2 CR k2 hb3
        go_wp2_with fail
        refine wp_region_noPanic ?_
        refine wp_region_held_drew (S := (fun w' => w'.cell? ⟨w.heap.size, 0, none⟩ = some (.slice (some ⟨G0, 0, none⟩) ns.length c) ∧ (w'.cell? ⟨w.heap.size + 1, 0, none⟩ = some (.int .i64 v.k) ∧ w'.cell? ⟨w.heap.size + 1, 1, none⟩ = some (.int .i64 v.t) ∧ w'.cell? ⟨w.heap.size + 1, 2, none⟩ = some (.int .i64 v.u) ∧ w'.cell? ⟨w.heap.size + 1, 3, none⟩ = some (.slice v.a v.ts.length v.c) ∧ w'.cell? ⟨w.heap.size + 1, 4, none⟩ = some (.string v.s) ∧ w'.cell? ⟨w.heap.size + 1, 5, none⟩ = some (.bool v.g)) ∧ Inv w (w.heap.size + 1 + 1) [(w.heap.size + 1, 32, (verC v.k v.t v.u v.a v.ts.length v.c v.s v.g)), (w.heap.size, 25, #[.slice (some ⟨G0, 0, none⟩) ns.length c])] w' ∧ (∃ y, Blk w' (w.heap.size + 1 + 1) 25 #[y]) ∧ w3.heap.size ≤ w'.heap.size)) (by kernel_rfl) (by exact ⟨(J3.drew.nth 1 rfl).at 0, (J3.drew.nth 0 rfl).six.1, J3.drew, ⟨_, B3.drew⟩, Nat.le_refl _⟩) (fun hHeld => ?_)
        refine take_run 0 (some 20) (v := ?_) rfl rfl (by kernel_rfl) (by kernel_rfl) (by kernel_rfl) (fun _ _ _ h => h) (by rfl) ?_ hHeld ?_
        rotate_left
        · ((intro w hSw); (try dsimp only at hSw); go_simp <;> with_reducible rfl)
        simp only [Act.put, List.setIfInBounds_toArray, List.set_cons_zero, List.set_cons_succ]
        refine take_run 2 (some 22) (v := ?_) rfl rfl (by kernel_rfl) (by kernel_rfl) (by kernel_rfl) (fun _ _ _ h => h) (by rfl) ?_ hHeld ?_
        rotate_left
        · ((intro w hSw); (try dsimp only at hSw); go_simp <;> with_reducible rfl)
        simp only [Act.put, List.setIfInBounds_toArray, List.set_cons_zero, List.set_cons_succ]
        refine take_one 1 (by kernel_rfl) rfl (fun K hK => ?_)
        go_simp
        ((with_reducible refine (CC.out _ hHeld.2.2.1.below).mono ?_); rintro e w4 hcl; obtain ⟨G, xc, us, rfl, hul, hu4, hB, hu1, hgr, hb⟩ := cloned_at hcl HOK.out; obtain ⟨m, hm0⟩ : ∃ m, us[0]? = some m := ⟨_, List.getElem?_eq_getElem (by omega)⟩; have HUL := hide hul; have CA := l3Add_any _ G xc 0 us m v w4 hgr hm0 hu4 (hB 0 m hm0) HVB.out ((HV.out.on (hHeld.2.2.1.on hb).below).wide (hHeld.2.2.1.on hb).base); change Calls _ _ #[_, .int .i64 0, _] _ _ at CA; have CA := hide CA; have HB := hide hb; clear hcl hul hB hgr hm0)
        try go_wp2_with fail
        refine hK.out _ _ (by exact ⟨((hHeld.2.2.1.on HB.out).nth 1 rfl).at 0, ((hHeld.2.2.1.on HB.out).nth 0 rfl).six.1, hHeld.2.2.1.on HB.out, hHeld.2.2.2.1.elim (fun y h => ⟨y, h.on HB.out⟩), Nat.le_trans hHeld.2.2.2.2 HB.out.size⟩) (fun hHeld => ?_)
        clear hK K
        refine take_one 3 (by kernel_rfl) rfl (fun K hK => ?_)
        go_simp
        ((with_reducible refine CA.out.mono ?_); rintro e w5 ⟨us', rfl, hul', hg5, hT⟩; have HUL5 := hide hul'; have HG5 := hide hg5; have HT5 := hide hT; have I5 := hHeld.2.2.1.turned hT (fun g e => by have e' : w3.drew.heap.size ≤ g := e.1; have : w3.drew.heap.size = w3.heap.size := rfl; omega) (fun x hx e => by have e' : w3.drew.heap.size ≤ x.1 := e.1; have : w3.drew.heap.size = w3.heap.size := rfl; simp only [List.mem_cons, List.not_mem_nil, or_false] at hx; rcases hx with rfl | rfl <;> simp only at e' <;> omega); obtain ⟨y5, hy5⟩ := hHeld.2.2.2.1; have B5 := hy5.turned hT (fun e => by have e' : w3.drew.heap.size ≤ w.heap.size + 1 + 1 := e.1; have : w3.drew.heap.size = w3.heap.size := rfl; omega); have HB9 := hide B5; have q5 := B5.one; have zT := hT.size; clear hul' hg5 hT)
        try go_wp2_with fail
        refine hK.out _ _ (by exact ⟨((I5).nth 1 rfl).at 0, ((I5).nth 0 rfl).six.1, I5, ⟨y5, B5⟩, Nat.le_trans hHeld.2.2.2.2 zT⟩) (fun hHeld => ?_)
        clear hK K
        refine take_one 4 (by kernel_rfl) rfl (fun K hK => ?_)
        go_simp
        refine hK.out _ _ (by exact ⟨((I5.set (p := ⟨w.heap.size + 1 + 1, 0, none⟩) (by simp) (by simp; omega) _).nth 1 rfl).at 0, ((I5.set (p := ⟨w.heap.size + 1 + 1, 0, none⟩) (by simp) (by simp; omega) _).nth 0 rfl).six.1, I5.set (p := ⟨w.heap.size + 1 + 1, 0, none⟩) (by simp) (by simp; omega) _, ⟨_, B5.put 0 _⟩, by simpa [World.setCell] using hHeld.2.2.2.2⟩) (fun hHeld => ?_)
        clear hK K
        refine take_run 5 (some 5) (v := ?_) rfl rfl (by kernel_rfl) (by kernel_rfl) (by kernel_rfl) (fun _ _ _ h => h) (by rfl) ?_ hHeld ?_
        rotate_left
        · ((intro w hSw); (try dsimp only at hSw); go_simp <;> with_reducible rfl)
        simp only [Act.put, List.setIfInBounds_toArray, List.set_cons_zero, List.set_cons_succ]
        refine wpAnyH_done (by kernel_rfl) ?_ _
        refine NoPanic.normal ?_
        obtain ⟨-, -, I9, -, z9⟩ := hHeld
        have B9 := HB9.out.put 0 (.slice (some ⟨G, 0, none⟩) us.length xc)
        simp only [List.setIfInBounds_toArray, List.set_cons_zero] at B9
        have q9 := B9.one
        have hbz : w3.drew.heap.size = w3.heap.size := rfl
        have HG9 := hide (HG5.out.aside (p := ⟨w.heap.size + 1 + 1, 0, none⟩) (by simp only; omega) (.slice (some ⟨G, 0, none⟩) us.length xc))
        clear S3 J3 B3 I5 hy5 B5 q5 hbz
        go_wp2
        refine bodyPost_ret (v := .tuple #[.agg #[.slice (some ⟨G, 0, none⟩) us.length xc], .bool true]) (by simp [results, Try.results9, go_sem, q9]) rfl ?_
        rw [HE.out.1, HE.out.2]
        exact answerCB_row (HG9.out.down zb) (nl_trans HUL5.out (addN_like HUL.out (vlike_refl v) 0)) I9.below
      · have HE := hide (putN_full (v := v) HOK.out HVB.out (by rw [HRN.out]; simp; omega))
        rw [decide_eq_false h6] at CR
        clear h6
        go_wp2_with fail
        with_reducible refine CR.out.mono ?_
        rintro e w3 ⟨rfl, hb3⟩
        have S3 := S2.on hb3
        have k3 := (S3.nth 2 rfl).one.1
        have zr := S3.room
        have zb := S3.base
        clear S2 CR k2 hb3
        go_wp2_with fail
        with_reducible refine (CC.out _ S3.below).mono ?_
        rintro e w4 hcl
        obtain ⟨G, xc, us, rfl, hul, hu4, hB, hu1, hgr, hb⟩ := cloned_at hcl HOK.out
        have HUL := hide hul
        have HGR := hide hgr
        have S4 := S3.on hb
        have q4 := (S4.nth 0 rfl).one
        clear S3 k3 hb hul hgr hcl hB
        go_wp2
        refine bodyPost_ret (v := .tuple #[.agg #[.slice (some ⟨G, 0, none⟩) us.length xc], .bool false]) (by simp [results, Try.results9, go_sem, q4]) rfl ?_
        rw [HE.out.1, HE.out.2]
        exact answerCB_row ((HGR.out.aside (p := ⟨w.heap.size + 1 + 1, 0, none⟩) (by simp only; omega) _).down zb) HUL.out (S4.below.setCell (by simp only; omega) _)
end Go.Proofs.Ytjnloillcgeodaa
/- What ChainPass answers, said plainly; what waits at a node replaced, in memory. No condition. -/
namespace Go.Proofs.Ytjnloillcgeodaa
open Go.RowKit Go.Joins

/-- A node without the first that waits there. -/
def tailNd (n : Nd) : Nd := ⟨n.sa, n.sc, n.ss, n.wa, n.wc, n.ws.tail⟩
/-- Whether a node can pass something on. -/
def canB (ns : List Nd) (k : Nat) : Bool := match ns[k]?, ns[k + 1]? with | some n, some m => decide (0 < n.ws.length) && decide (m.ws.length < 6) | _, _ => false
/-- The first that waits at a node comes to the next one. -/
def goN (ns : List Nd) (k : Nat) : List Nd := match ns[k]? with | some n => (match n.ws with | v :: _ => addN (ns.set k (tailNd n)) (k + 1) v | [] => ns) | none => ns
/-- What ChainPass answers. -/
def passN (ns : List Nd) (k : Int) : List Nd := if chainB ns = true then (if 0 ≤ k ∧ canB ns k.toNat = true then goN ns k.toNat else ns) else []
def passK (ns : List Nd) (k : Int) : Bool := chainB ns && (decide (0 ≤ k) && canB ns k.toNat)
theorem passN_no {ns : List Nd} {k : Int} (h : chainB ns = false) : passN ns k = [] ∧ passK ns k = false := by unfold passN passK; rw [h]; exact ⟨rfl, rfl⟩
theorem passN_not {ns : List Nd} {k : Int} (h : chainB ns = true) (hc : ¬ (0 ≤ k ∧ canB ns k.toNat = true)) : passN ns k = ns ∧ passK ns k = false := by
  refine ⟨by unfold passN; rw [if_pos h, if_neg hc], ?_⟩
  unfold passK
  rw [h, Bool.true_and]
  by_cases h0 : 0 ≤ k
  · cases hb : canB ns k.toNat
    · simp
    · exact absurd ⟨h0, hb⟩ hc
  · rw [decide_eq_false h0]; rfl
theorem passN_yes {ns : List Nd} {k : Int} (h : chainB ns = true) (h0 : 0 ≤ k) (hc : canB ns k.toNat = true) : passN ns k = goN ns k.toNat ∧ passK ns k = true := by
  refine ⟨by unfold passN; rw [if_pos h, if_pos ⟨h0, hc⟩], ?_⟩
  unfold passK
  rw [h, hc, decide_eq_true h0]
  rfl
theorem canB_at {ns : List Nd} {k : Nat} {n m : Nd} (hk : ns[k]? = some n) (hm : ns[k + 1]? = some m) : canB ns k = (decide (0 < n.ws.length) && decide (m.ws.length < 6)) := by unfold canB; rw [hk, hm]
theorem canB_end {ns : List Nd} {k : Nat} (h : ns.length ≤ k + 1) : canB ns k = false := by
  unfold canB
  rw [List.getElem?_eq_none (i := k + 1) h]
  cases ns[k]? <;> rfl
theorem goN_at {ns : List Nd} {k : Nat} {n : Nd} {v : V} {r : List V} (hk : ns[k]? = some n) (hw : n.ws = v :: r) : goN ns k = addN (ns.set k (tailNd n)) (k + 1) v := by
  unfold goN
  rw [hk]
  simp only [hw]
theorem addN_set {us : List Nd} {j k : Nat} {v : V} {n : Nd} (h : k ≠ j) : (addN us j v).set k n = addN (us.set k n) j v := by
  unfold addN
  rw [List.getElem?_set_ne h, List.length_set]
  cases us[j]? with
  | none => rfl
  | some m => exact List.set_comm _ _ (fun e => h e.symm)
theorem ll_tail {us vs : List V} (h : LL us vs) : LL us.tail vs.tail := by
  refine ⟨by simp [h.1], fun i x y hx hy => ?_⟩
  rw [List.getElem?_tail] at hx hy
  exact h.2 (i + 1) x y hx hy
theorem tailNd_like {n m : Nd} (h : Nd.like n m) : Nd.like (tailNd n) (tailNd m) := by
  have := ll_tail (us := n.ws) (vs := m.ws) ⟨h.2.2.1, h.2.2.2⟩
  exact ⟨h.1, h.2.1, this.1, this.2⟩
theorem canB_like {us ns : List Nd} (h : NL us ns) (k : Nat) : canB us k = canB ns k := by
  unfold canB
  cases hx : us[k]? with
  | none => rw [nl_none h hx]
  | some n =>
    obtain ⟨m, hm, hl⟩ := nl_at h hx
    rw [hm]
    cases hy : us[k + 1]? with
    | none => rw [nl_none h hy]
    | some n' =>
      obtain ⟨m', hm', hl'⟩ := nl_at h hy
      rw [hm']
      simp only [hl.2.2.1, hl'.2.2.1]
theorem goN_like {us ns : List Nd} (h : NL us ns) (k : Nat) : NL (goN us k) (goN ns k) := by
  cases hx : us[k]? with
  | none =>
    have h1 : goN us k = us := by unfold goN; rw [hx]
    have h2 : goN ns k = ns := by unfold goN; rw [nl_none h hx]
    rw [h1, h2]
    exact h
  | some n =>
    obtain ⟨m, hm, hl⟩ := nl_at h hx
    cases hw : n.ws with
    | nil =>
      have hw' : m.ws = [] := by
        have := hl.2.2.1
        rw [hw] at this
        exact List.length_eq_zero_iff.1 this.symm
      have h1 : goN us k = us := by unfold goN; rw [hx]; simp only [hw]
      have h2 : goN ns k = ns := by unfold goN; rw [hm]; simp only [hw']
      rw [h1, h2]
      exact h
    | cons v r =>
      obtain ⟨u, s, hw'⟩ : ∃ u s, m.ws = u :: s := by
        cases hq : m.ws with
        | nil => have := hl.2.2.1; rw [hw, hq] at this; simp at this
        | cons u s => exact ⟨u, s, rfl⟩
      rw [goN_at hx hw, goN_at hm hw']
      exact addN_like (nl_set h (tailNd_like hl)) (hl.2.2.2 0 v u (by rw [hw]; rfl) (by rw [hw']; rfl)) (k + 1)
theorem passN_like {us ns : List Nd} (h : NL us ns) (k : Int) : NL (passN us k) (passN ns k) ∧ passK us k = passK ns k := by
  refine ⟨?_, by unfold passK; rw [chainB_like h, canB_like h]⟩
  unfold passN
  rw [chainB_like h, canB_like h]
  split
  · split
    · exact goN_like h _
    · exact h
  · exact ⟨rfl, fun i x y hx => by simp at hx⟩
theorem tailNd_ok {n : Nd} (h : nodeB n = true) : nodeB (tailNd n) = true := by
  obtain ⟨h1, h2, h3⟩ := nodeB_parts h
  refine nodeB_mk h1 (by simp [tailNd]; omega) (fun i v hv => h3 v (List.mem_of_mem_tail (List.mem_of_getElem? hv)))
theorem fine_set {ns : List Nd} {k : Nat} {n : Nd} (h : FineN ns) (hn : nodeB n = true) : FineN (ns.set k n) := by
  refine ⟨by rw [List.length_set]; exact h.1, fun i y hy => ?_⟩
  have hx := List.mem_of_getElem? hy
  rcases List.mem_or_eq_of_mem_set hx with hx | rfl
  · obtain ⟨j, hj⟩ := List.getElem?_of_mem hx
    exact h.2 j y hj
  · exact hn
theorem goN_fine {ns : List Nd} {k : Nat} (h : FineN ns) (hc : canB ns k = true) : FineN (goN ns k) := by
  cases hx : ns[k]? with
  | none => unfold goN; rw [hx]; exact h
  | some n =>
    cases hw : n.ws with
    | nil => unfold goN; rw [hx]; simp only [hw]; exact h
    | cons v r =>
      rw [goN_at hx hw]
      obtain ⟨h1, h2, h3⟩ := nodeB_parts (h.2 k n hx)
      refine addN_fine (fine_set h (tailNd_ok (h.2 k n hx))) (h3 v (by rw [hw]; exact List.mem_cons_self)) (fun m hm => ?_)
      rw [List.getElem?_set_ne (by omega)] at hm
      rw [canB_at hx hm, Bool.and_eq_true, decide_eq_true_eq, decide_eq_true_eq] at hc
      exact .inr hc.2
theorem passN_fine (ns : List Nd) (k : Int) : FineN (passN ns k) := by
  unfold passN
  split
  · rename_i hc
    obtain ⟨⟨h1, h4⟩, hB, _⟩ := chainB_parts hc
    split
    · rename_i hr
      exact goN_fine ⟨h4, hB⟩ hr.2
    · exact ⟨h4, hB⟩
  · exact ⟨by simp, fun i n hi => by simp at hi⟩
theorem Vg.tail {w : World} {B b off : Nat} {v : V} {r : List V} (h : Vg w B (some ⟨b, off, none⟩) (v :: r)) : Vg w B (some ⟨b, off + 6, none⟩) r := by
  rcases h with h | ⟨b', off', e, hb, hx⟩
  · cases h
  · injection e with e
    injection e with e1 e2
    subst e1 e2
    refine .inr ⟨b, off + 6, rfl, hb, fun i x hi => ?_⟩
    have := hx (i + 1) x (by simpa using hi)
    rw [show off + (i + 1) * 6 = off + 6 + i * 6 by omega] at this
    exact this
theorem CRow.footLo {base : Nat} {w : World} {A : Option Addr} {c : Nat} {us : List V} {sa : Option Addr} {sc : Nat} {ss : List V} {g : Nat} (h : CRow base w (.slice A us.length c) us) (hg : FootW ⟨sa, sc, ss, A, c, us⟩ g) : base ≤ g := by
  rcases hg with hf | e
  · obtain ⟨A', cap', e', hR⟩ := h.resS
    injection e' with e'
    subst e'
    obtain ⟨_, _, _, _, q, _⟩ := hR.typed hf
    exact q
  · obtain ⟨_, _, q, _⟩ := h.typed g e
    exact q
/-- What waits at a node is another row now: one of new blocks, or of what was the node's own. -/
theorem GRow.newWait {base : Nat} {wr w1 : World} {G xc k cap : Nat} {A : Option Addr} {us : List Nd} {n : Nd} {ws : List V} (h : GRow base wr (.slice (some ⟨G, 0, none⟩) us.length xc) us) (hk : us[k]? = some n) (hb : Below wr.heap.size wr w1)
    (hc : CRow base w1 (.slice A ws.length cap) ws) (hf : ∀ y, FootW ⟨n.sa, n.sc, n.ss, A, cap, ws⟩ y → FootW n y ∨ wr.heap.size ≤ y) :
    GRow base (w1.setCell ⟨G, k * 2 + 1, none⟩ (.slice A ws.length cap)) (.slice (some ⟨G, 0, none⟩) us.length xc) (us.set k ⟨n.sa, n.sc, n.ss, A, cap, ws⟩) := by
  have hT := (Turn.below (P := fun y => y = G) hb).set (p := ⟨G, k * 2 + 1, none⟩) rfl (.slice A ws.length cap)
  refine h.set hk hT ?_ ?_ ?_ (fun y h1 h2 => ?_) (fun y e => .inr (by rw [e]; rfl)) (fun y hy => ?_)
  · rw [flatN_set2 hk (u := .slice A ws.length cap) (by simp [cellsN])]
    refine ⟨by rw [List.length_set]; exact h.row.1, ?_⟩
    rcases h.row.2 with ⟨q, _⟩ | ⟨G', cap', cr, h1, h2, h3, h4, h5, h6, h7⟩
    · cases q
    · injection h1 with h1 _ h1'
      injection h1 with h1
      injection h1 with h1
      subst h1 h1'
      have B2 : Blk w1 G 45 cr := (show Blk wr G 45 cr from h3).on hb
      refine .inr ⟨G, xc, _, rfl, h2, B2.put (k * 2 + 1) _, h4, h5, by simpa using h6, ?_⟩
      rw [Array.toList_setIfInBounds, List.take_set, h7]
  · exact ((h.store k n hk).turnF hT (fun y hf hp => by
      obtain ⟨T, cs, b1, b2, _⟩ := (h.store k n hk).typed hf
      obtain ⟨cs', b3, _⟩ := h.typed G rfl
      subst hp
      exact b2 (blk_one b1 b3))).wide hT.size
  · exact hc.turnedT (P := fun y => y = G) ((Turn.refl (fun y => y = G) w1).set (p := ⟨G, k * 2 + 1, none⟩) rfl _) (fun y e => by
      obtain ⟨cs', b3, _⟩ := h.typed G rfl
      subst e
      exact ⟨_, cs', b3.on hb, node_ne_ver, node_ne_tag⟩)
  · rcases hf y h2 with q | q
    · exact h.two k n hk y h1 q
    · have := h.foot hk (g := y) (.inl h1)
      omega
  · rcases hy with hy | hy
    · exact .inl (.inl hy)
    · rcases hf y hy with q | q
      · exact .inl (.inr q)
      · exact .inr q
/-- A row without its first, laid anew: the causes stay where they are. -/
theorem CRow.tail {base : Nat} {wr w1 : World} {A : Option Addr} {m c : Nat} {x : Value} {v : V} {r : List V} (h : CRow base wr (.slice A m c) (v :: r)) (hb : Below wr.heap.size wr w1) (hrow : w1.ownsRow base 32 6 x r.length (flat6 r)) : CRow base w1 x r :=
  ⟨hrow, fun i y hi => ((h.own (i + 1) y (by simpa using hi)).on hb).wide hb.size, fun i j y y' hne hi hj => h.apart (i + 1) (j + 1) y y' (by omega) (by simpa using hi) (by simpa using hj), Nat.le_trans h.lo hb.size⟩
theorem CRow.tailFoot {base : Nat} {wr : World} {n : Nd} {g cap : Nat} {v : V} {r : List V} (h : CRow base wr (.slice n.wa n.ws.length n.wc) n.ws) (hw : n.ws = v :: r) (hg : wr.heap.size ≤ g) : ∀ y, FootW ⟨n.sa, n.sc, n.ss, some ⟨g, 0, none⟩, cap, r⟩ y → FootW n y ∨ wr.heap.size ≤ y := fun y hy => by
  rcases hy with ⟨_, G', e, hf⟩ | e
  · injection e with e
    injection e with e
    subst e
    rcases hf with rfl | ⟨i, z, hi, hn, ha⟩
    · exact .inr hg
    · exact .inl (.inl (h.tagFoot (i := i + 1) (by rw [hw]; simpa using hi) hn ha))
  · simp only [Value.ownBlock] at e
    injection e with e
    subst e
    exact .inr hg
/-- What turns after a step that only adds. -/
theorem Turn.touch {w w1 w2 : World} {base : Nat} (hb : Below w.heap.size w w1) (ht : Turn (TouchC w1 base) w1 w2) : Turn (TouchC w base) w w2 := by
  refine ⟨ht.os.trans hb.os, ht.tape.trans hb.tape, ht.output.trans hb.output, Nat.le_trans hb.size ht.size, fun k hk hn => (ht.block k (Nat.lt_of_lt_of_le hk hb.size) (fun q => hn ?_)).trans (hb.block k hk)⟩
  obtain ⟨q1, cs, q2⟩ := q
  refine ⟨q1, cs, ?_⟩
  rcases q2 with q2 | q2
  · exact .inl ((hb.block k hk).symm.trans q2)
  · exact .inr ((hb.block k hk).symm.trans q2)
end Go.Proofs.Ytjnloillcgeodaa
/- Contract of the program's pass: the first that waits at a node of a chain of the caller's own comes to the next one, if that has room. Condition: at most four nodes, all valid. -/
namespace Go.Proofs.Ytjnloillcgeodaa
open Go.RowKit Go.Joins
attribute [local go_sem ↓] Go.wp_at_zero Go.wp_at_succ

/-- What pass leaves. -/
def PassedP (w : World) (base G xc : Nat) (us : List Nd) (k : Nat) (e : Ending) (w' : World) : Prop :=
  ∃ us' : List Nd, e = .returned (.bool (canB us k)) ∧ NL us' (if canB us k = true then goN us k else us) ∧ GRow base w' (.slice (some ⟨G, 0, none⟩) us.length xc) us' ∧ Turn (TouchC w base) w w'
theorem passed_no {w w' : World} {base G xc : Nat} {us : List Nd} {k : Nat} (hG : GRow base w (.slice (some ⟨G, 0, none⟩) us.length xc) us) (hc : canB us k = false) (hb : Below w.heap.size w w') : PassedP w base G xc us k (.returned (.bool false)) w' :=
  ⟨us, by rw [hc], by rw [hc]; exact nl_refl us, hG.on hb, .below hb⟩
theorem GRow.cgs {base : Nat} {w : World} {G xc : Nat} {us : List Nd} (hG : GRow base w (.slice (some ⟨G, 0, none⟩) us.length xc) us) (h1 : 0 < us.length) : ∃ cur, Cg w G us cur := by
  obtain ⟨_, hR⟩ := hG.res
  rcases hR with h0 | ⟨G', cur, e, hR⟩
  · rw [h0] at h1; simp at h1
  · injection e with e
    injection e with e
    subst e
    exact ⟨cur, hR.cg⟩
/-- What waits, where something does. -/
theorem CRow.first {base : Nat} {w : World} {A : Option Addr} {c : Nat} {v : V} {r : List V} (h : CRow base w (.slice A (r.length + 1) c) (v :: r)) : ∃ g : Nat, A = some ⟨g, 0, none⟩ ∧ g < w.heap.size ∧ r.length + 1 ≤ c ∧ Six w g 0 v ∧ Vg w w.heap.size (some ⟨g, 6, none⟩) r ∧ Own1 w 0 w.heap.size v := by
  obtain ⟨A', cap', e', hR⟩ := h.resS
  injection e' with e' _ _
  subst e'
  have hvg := hR.vg
  rcases h.row.2 with ⟨_, e⟩ | ⟨g, cap, cr, e, q1, q2, q3, _⟩
  · simp at e
  · injection e with e _ e2
    subst e2
    subst e
    have hlt : g < w.heap.size := Blk.inside (show Blk w g 32 cr from q2)
    refine ⟨g, rfl, hlt, q3, ?_, by have := hvg.tail; simpa using this, (h.own 0 v rfl).low (Nat.zero_le _)⟩
    rcases hvg with q | ⟨b, off, e, _, hx⟩
    · cases q
    · injection e with e
      injection e with e1 e2
      subst e1 e2
      exact (hx 0 v rfl).1
set_option maxRecDepth 100000 in
set_option maxHeartbeats 4000000 in
theorem pass_any (B L base G xc k : Nat) (us : List Nd) (n : Nd) (w : World) (hG : GRow base w (.slice (some ⟨G, 0, none⟩) us.length xc) us) (hL : LinkAt w B L (some ⟨G, 0, none⟩) G us.length xc k) (hk : us[k]? = some n) (hl : us.length ≤ 4) (hB : ∀ (i : Nat) m, us[i]? = some m → nodeB m = true) :
    Calls Try.prog 51 #[.pointer (some ⟨L, 0, none⟩)] w (PassedP w base G xc us k) := by
  have hkl := (List.getElem?_eq_some_iff.1 hk).1
  obtain ⟨cur, hcg⟩ := hG.cgs (by omega)
  obtain ⟨b1, b2, -, -, -, hL1, hL2, hL3⟩ := hL
  have CT := hide (next_any G us.length xc k b1 b2 w (by omega) (by omega) hL2 hL3)
  have q0 := hL1.two.1
  have q1 : w.cell? ⟨L, 1, none⟩ = some (.func (.func 70) #[] #[.pointer (some ⟨b1, 0, none⟩), .pointer (some ⟨b2, 0, none⟩)]) := hL1.at 1
  have HL1 := hide hL1
  have HG := hide hG
  have HCG := hide hcg
  have HK := hide hk
  have HB := hide hB
  clear hG hcg hk hB hL1 hL2 hL3
  go_enter Try.func51, Try.ntmps51
  go_wp2_with fail
  with_reducible refine CT.out.mono ?_
  rintro e w1 ⟨hE, hb1⟩
  have HE := hide hE
  have HB1 := hide hb1
  clear hE hb1 CT q0 q1
  by_cases hlt : k + 1 < us.length
  · have hq := HE.out
    rw [if_pos hlt] at hq
    obtain ⟨L', rfl, hL'⟩ := hq
    have HL' := hide hL'
    clear hL' HE
    obtain ⟨m, hm⟩ : ∃ m, us[k + 1]? = some m := ⟨_, List.getElem?_eq_getElem hlt⟩
    have HCA := hide (canB_at HK.out hm)
    have HMM := hide hm
    have p0 : w1.cell? ⟨L, 0, none⟩ = some (.pointer (some ⟨G, k * 2, none⟩)) := (HL1.out.on HB1.out).two.1
    have HC1 := hide (HCG.out.on HB1.out)
    have n1 : w1.cell? ⟨G, k * 2 + 1, none⟩ = some (.slice n.wa n.ws.length n.wc) := (HC1.out.blk.at _).trans (HC1.out.at' k n HK.out).2
    clear hm
    by_cases h0 : n.ws.length = 0
    · have HNO : Hid (canB us k = false) := by unfold Hid; rw [HCA.out, h0]; rfl
      have e0 : ((n.ws.length : Int) == 0) = true := by rw [h0]; rfl
      clear h0
      go_wp2
      go_ret
      exact passed_no HG.out HNO.out HB1.out
    · have e0 : ((n.ws.length : Int) == 0) = false := by rw [beq_eq_false_iff_ne]; omega
      obtain ⟨v, r, hw⟩ : ∃ v r, n.ws = v :: r := by
        cases hq : n.ws with
        | nil => rw [hq] at h0; simp at h0
        | cons v r => exact ⟨v, r, rfl⟩
      have CF := hide (linkFull_any w.heap.size L' G xc (k + 1) us.length us cur m w1 HC1.out HL'.out HMM.out)
      have hcr := (HG.out.on HB1.out).own k n HK.out
      rw [hw] at hcr n1 e0
      simp only [List.length_cons] at hcr n1 e0
      obtain ⟨gw, hwa, hgl, hc1, hsix, -, hov⟩ := hcr.first
      rw [hwa] at n1
      have HV := hide hov
      have HW := hide hw
      have HVV := hide ((nodeB_parts (HB.out k n HK.out)).2.2 v (by rw [hw]; exact List.mem_cons_self))
      clear hcr hwa hov hw h0
      by_cases h6 : m.ws.length ≥ 6
      · have HNO : Hid (canB us k = false) := by unfold Hid; rw [HCA.out, decide_eq_false (p := m.ws.length < 6) (by omega), Bool.and_false]
        rw [decide_eq_true h6] at CF
        clear h6
        go_wp2_with fail
        with_reducible refine CF.out.mono ?_
        rintro e w2 ⟨rfl, rfl⟩
        clear CF
        go_wp2
        go_ret
        exact passed_no HG.out HNO.out HB1.out
      · have HYES : Hid (canB us k = true) := by unfold Hid; rw [HCA.out, HW.out, decide_eq_true (p := m.ws.length < 6) (by omega)]; simp
        rw [decide_eq_false h6] at CF
        clear h6
        have CA := hide (apply_any w.heap.size L' base G xc (k + 1) us m v w1 (HG.out.on HB1.out) HL'.out HMM.out hl (HB.out (k + 1) m HMM.out) HVV.out HV.out)
        have i1 : (0 : Int) < ((r.length + 1 : Nat) : Int) := by omega
        obtain ⟨s0, s1, s2, s3, s4, s5⟩ := hsix
        simp only [Nat.zero_add] at s1 s2 s3 s4 s5
        go_wp2_with fail
        with_reducible refine CF.out.mono ?_
        rintro e w2 ⟨rfl, rfl⟩
        clear CF
        go_wp2_with fail
        with_reducible refine CA.out.mono ?_
        rintro e w3 ⟨us', rfl, hul3, hg3, hT3⟩
        have HT3 := hide (Turn.touch HB1.out hT3)
        have BL3 := (HL1.out.on HB1.out).turned hT3 (touch_no (HL1.out.on HB1.out) (by decide) (by decide))
        have hadd : (addN us (k + 1) v)[k]? = some n := by rw [addN_at HMM.out, List.getElem?_set_ne (by omega)]; exact HK.out
        obtain ⟨n2, hn2⟩ : ∃ n2, us'[k]? = some n2 := ⟨_, List.getElem?_eq_getElem (by rw [hul3.1]; exact (List.getElem?_eq_some_iff.1 hadd).1)⟩
        have hln := hul3.2 k n2 n hn2 hadd
        obtain ⟨v2, r2, hw2⟩ : ∃ v2 r2, n2.ws = v2 :: r2 := by
          cases hq : n2.ws with
          | nil => have := hln.2.2.1; rw [hq, HW.out] at this; simp at this
          | cons v r => exact ⟨v, r, rfl⟩
        have hlen : us'.length = us.length := by rw [hul3.1, addN_at HMM.out, List.length_set]
        have hg3' : GRow base w3 (.slice (some ⟨G, 0, none⟩) us'.length xc) us' := by rw [hlen]; exact hg3
        obtain ⟨cur3, hcg3⟩ := hg3'.cgs (by omega)
        have hcr3 := hg3.own k n2 hn2
        have c3 := (hcg3.at' k n2 hn2).2
        rw [hw2] at hcr3 c3
        simp only [List.length_cons] at hcr3 c3
        obtain ⟨g2, hwa2, hgl2, hc2, -, hvg2, -⟩ := hcr3.first
        rw [hwa2] at c3
        have hnb2 : nodeB n2 = true := (nodeB_like hln).trans (HB.out k n HK.out)
        have hsm : r2.length ≤ 5 ∧ ∀ x ∈ r2, x.ts.length ≤ 1048576 := by
          obtain ⟨_, h6, h3⟩ := nodeB_parts hnb2
          rw [hw2] at h6 h3
          simp only [List.length_cons] at h6
          exact ⟨by omega, fun x hx => by have := pastB_len4 (verB_parts (h3 x (List.mem_cons_of_mem _ hx))).2.2.2; omega⟩
        have HC3 := hide c3
        have BG3 := hcg3.blk
        have HG3 := hide hg3'
        have HN2 := hide hn2
        have HLN := hide hln
        have HW2 := hide hw2
        have HUL3 := hide hul3
        have HLEN := hide hlen
        have HVG := hide (Vg.on hvg2 ((Below.refl w3.heap.size w3).drew))
        have HVE : Hid (r2.length = 0 → ∀ a : Option Addr, Vg w3.drew w3.drew.heap.size a r2) := fun h0 a => .inl (List.length_eq_zero_iff.1 h0)
        clear s0 s1 s2 s3 s4 s5 i1 CA hcr3 c3 hg3 hg3' hcg3 hn2 hln hw2 hul3 hlen hvg2 hnb2 hT3 hadd n1 p0 e0 HC1 hwa2
        obtain ⟨aT, haT⟩ : ∃ aT, (if n2.wc = 1 then some (⟨g2, 0, none⟩ : Addr) else some ⟨g2, 6, none⟩) = aT := ⟨_, rfl⟩
        have HVT : Hid (Vg w3.drew w3.drew.heap.size aT r2) := by
          unfold Hid
          rw [← haT]
          split
          · exact HVE.out (by omega) _
          · exact HVG.out
        have CCV := hide (copyVers_any aT (n2.wc - 1) r2 w3.drew (by omega) hsm.2 HVT.out)
        have j1 : (1 : Int) ≤ (r2.length : Int) + 1 := by omega
        have q1 : w3.drew.cell? ⟨G, k * 2 + 1, none⟩ = some (.slice (some ⟨g2, 0, none⟩) (r2.length + 1) n2.wc) := (BG3.drew.at _).trans HC3.out
        have hLG : L ≠ G := fun e => by subst e; exact absurd (blk_one BL3 BG3) (by decide)
        go_wp2_with fail
        refine wp_region_noPanic ?_
        refine wp_region_held_drew (S := (fun w' => w'.cell? ⟨L, 0, none⟩ = some (.pointer (some ⟨G, k * 2, none⟩)) ∧ Blk w' L 75 #[.pointer (some ⟨G, k * 2, none⟩), .func (.func 70) #[] #[.pointer (some ⟨b1, 0, none⟩), .pointer (some ⟨b2, 0, none⟩)]])) (by kernel_rfl) (by exact ⟨BL3.drew.at 0, BL3.drew⟩) (fun hHeld => ?_)
        refine take_run 0 (some 37) (v := ?_) rfl rfl (by kernel_rfl) (by kernel_rfl) (by kernel_rfl) (fun _ _ _ h => h) (by rfl) ?_ hHeld ?_
        rotate_left
        · ((intro w hSw); (try dsimp only at hSw); go_simp <;> with_reducible rfl)
        simp only [Act.put, List.setIfInBounds_toArray, List.set_cons_zero, List.set_cons_succ]
        refine take_run 1 (some 38) (v := ?_) rfl rfl (by kernel_rfl) (by kernel_rfl) (by kernel_rfl) (fun _ _ _ h => h) (by rfl) ?_ hHeld ?_
        rotate_left
        · ((intro w hSw); (try dsimp only at hSw); go_simp <;> with_reducible rfl)
        simp only [Act.put, List.setIfInBounds_toArray, List.set_cons_zero, List.set_cons_succ]
        refine take_run 2 (some 39) (v := ?_) rfl rfl (by kernel_rfl) (by kernel_rfl) (by kernel_rfl) (fun _ _ _ h => h) (by rfl) ?_ hHeld ?_
        rotate_left
        · ((intro w hSw); (try dsimp only at hSw); go_simp <;> with_reducible rfl)
        simp only [Act.put, List.setIfInBounds_toArray, List.set_cons_zero, List.set_cons_succ]
        refine take_run 3 (some 40) (v := ?_) rfl rfl (by kernel_rfl) (by kernel_rfl) (by kernel_rfl) (fun _ _ _ h => h) (by rfl) ?_ hHeld ?_
        rotate_left
        · ((intro w hSw); (try dsimp only at hSw); go_simp <;> with_reducible rfl)
        simp only [Act.put, List.setIfInBounds_toArray, List.set_cons_zero, List.set_cons_succ]
        refine take_run 4 (some 41) (v := ?_) rfl rfl (by kernel_rfl) (by kernel_rfl) (by kernel_rfl) (fun _ _ _ h => h) (by rfl) ?_ hHeld ?_
        rotate_left
        · ((intro w hSw); (try dsimp only at hSw); go_simp <;> with_reducible rfl)
        simp only [Act.put, List.setIfInBounds_toArray, List.set_cons_zero, List.set_cons_succ]
        refine take_run 5 (some 42) (v := ?_) rfl rfl (by kernel_rfl) (by kernel_rfl) (by kernel_rfl) (fun _ _ _ h => h) (by rfl) ?_ hHeld ?_
        rotate_left
        · ((intro w hSw); (try dsimp only at hSw); go_simp <;> with_reducible rfl)
        simp only [Act.put, List.setIfInBounds_toArray, List.set_cons_zero, List.set_cons_succ]
        refine take_run 6 (some 43) (v := ?_) rfl rfl (by kernel_rfl) (by kernel_rfl) (by kernel_rfl) (fun _ _ _ h => h) (by rfl) ?_ hHeld ?_
        rotate_left
        · ((intro w hSw); (try dsimp only at hSw); go_simp <;> with_reducible rfl)
        simp only [Act.put, List.setIfInBounds_toArray, List.set_cons_zero, List.set_cons_succ]
        refine take_run 7 (some 44) (v := ?_) rfl rfl (by kernel_rfl) (by kernel_rfl) (by kernel_rfl) (fun _ _ _ h => h) (by rfl) ?_ hHeld ?_
        rotate_left
        · ((intro w hSw); (try dsimp only at hSw); go_simp <;> with_reducible rfl)
        simp only [Act.put, List.setIfInBounds_toArray, List.set_cons_zero, List.set_cons_succ]
        refine take_run 8 (some 45) (v := ?_) rfl rfl (by kernel_rfl) (by kernel_rfl) (by kernel_rfl) (fun _ _ _ h => h) (by rfl) ?_ hHeld ?_
        rotate_left
        · ((intro w hSw); (try dsimp only at hSw); go_simp <;> with_reducible rfl)
        simp only [Act.put, List.setIfInBounds_toArray, List.set_cons_zero, List.set_cons_succ]
        refine take_run 9 (some 46) (v := ?_) rfl rfl (by kernel_rfl) (by kernel_rfl) (by kernel_rfl) (fun _ _ _ h => h) (by rfl) ?_ hHeld ?_
        rotate_left
        · ((intro w hSw); (try dsimp only at hSw); go_simp <;> with_reducible rfl)
        simp only [Act.put, List.setIfInBounds_toArray, List.set_cons_zero, List.set_cons_succ]
        refine take_one 10 (by kernel_rfl) rfl (fun K hK => ?_)
        go_simp
        refine hK.out _ _ (by exact hHeld) (fun hHeld => ?_)
        clear hK K
        refine take_run 11 (some 48) (v := ?_) rfl rfl (by kernel_rfl) (by kernel_rfl) (by kernel_rfl) (fun _ _ _ h => h) (by rfl) ?_ hHeld ?_
        rotate_left
        · ((intro w hSw); (try dsimp only at hSw); go_simp <;> with_reducible rfl)
        simp only [Act.put, List.setIfInBounds_toArray, List.set_cons_zero, List.set_cons_succ]
        refine take_one 12 (by kernel_rfl) rfl (fun K hK => ?_)
        go_simp
        ((with_reducible refine CCV.out.mono ?_); rintro e w4 ⟨x, ws, rfl, hl4, hli4, hcr4, hb4⟩; obtain ⟨A4, cap4, rfl, -⟩ := hcr4.resS; have HLL : Hid (LL ws r2) := ⟨hl4, hli4⟩; have HCR4 := hide hcr4; have HB4 := hide hb4; have N4 := BG3.drew.on hb4; have q5 := (N4.at (k * 2 + 1)).trans HC3.out; have f5 := N4.loose (k * 2 + 1); clear hl4 hli4 hcr4)
        try go_wp2_with fail
        refine hK.out _ _ (by exact ⟨(hHeld.2.on HB4.out).at 0, hHeld.2.on HB4.out⟩) (fun hHeld => ?_)
        clear hK K
        refine take_run 13 (some 50) (v := ?_) rfl rfl (by kernel_rfl) (by kernel_rfl) (by kernel_rfl) (fun _ _ _ h => h) (by rfl) ?_ hHeld ?_
        rotate_left
        · ((intro w hSw); (try dsimp only at hSw); go_simp <;> with_reducible rfl)
        simp only [Act.put, List.setIfInBounds_toArray, List.set_cons_zero, List.set_cons_succ]
        refine take_run 14 (some 51) (v := ?_) rfl rfl (by kernel_rfl) (by kernel_rfl) (by kernel_rfl) (fun _ _ _ h => h) (by rfl) ?_ hHeld ?_
        rotate_left
        · ((intro w hSw); (try dsimp only at hSw); go_simp <;> with_reducible rfl)
        simp only [Act.put, List.setIfInBounds_toArray, List.set_cons_zero, List.set_cons_succ]
        refine take_one 15 (by kernel_rfl) rfl (fun K hK => ?_)
        go_simp
        refine hK.out _ _ (by exact ⟨(hHeld.2.aside (by show L ≠ G; exact hLG) _).at 0, hHeld.2.aside (by show L ≠ G; exact hLG) _⟩) (fun hHeld => ?_)
        clear hK K
        refine wpAnyH_done (by kernel_rfl) ?_ _
        refine NoPanic.normal ?_
        have GG := (HG3.out.on (Below.refl _ _).drew).newWait (A := A4) (cap := cap4) (ws := ws) HN2.out HB4.out (HCR4.out.down (by have := HG3.out.lo; exact this)) (fun y hy => .inr (HCR4.out.footLo hy))
        rw [HLEN.out] at GG
        have HGG := hide GG
        have HT9 := hide ((HT3.out.trans ((Turn.below (P := TouchC w base) (Below.refl _ _).drew).trans (.below HB4.out))).set (p := ⟨G, k * 2 + 1, none⟩) (by obtain ⟨cs, b1, b2, _⟩ := HG.out.typed G rfl; exact ⟨b2, cs, .inr b1⟩) (.slice A4 ws.length cap4))
        clear GG N4 q1 q5 f5 hHeld BL3 BG3
        generalize w4.setCell ⟨G, k * 2 + 1, none⟩ (.slice A4 ws.length cap4) = W9 at HGG HT9 ⊢
        go_wp2
        go_ret
        refine ⟨_, by rw [HYES.out]; rfl, ?_, HGG.out, HT9.out⟩
        rw [if_pos HYES.out, goN_at HK.out HW.out, ← addN_set (by omega)]
        have ht := ll_tail (us := n2.ws) (vs := n.ws) ⟨HLN.out.2.2.1, HLN.out.2.2.2⟩
        rw [HW2.out] at ht
        have hl := ll_trans HLL.out ht
        exact nl_set HUL3.out ⟨HLN.out.1, HLN.out.2.1, hl.1, hl.2⟩
  · have hq := HE.out
    rw [if_neg hlt] at hq
    subst hq
    have HNO := hide (canB_end (ns := us) (k := k) (by omega))
    clear HE
    go_wp2
    go_ret
    exact passed_no HG.out HNO.out HB1.out
end Go.Proofs.Ytjnloillcgeodaa
/- Contract of the program's ChainPass. Condition: sizes that memory holds. -/
namespace Go.Proofs.Ytjnloillcgeodaa
open Go.RowKit Go.Joins
attribute [local go_sem ↓] Go.wp_at_zero Go.wp_at_succ

set_option maxRecDepth 100000 in
set_option maxHeartbeats 2000000 in
/-- There is no such node. -/
theorem linkAt_out (G n c : Nat) (k : Int) (w : World) (hk : k < 0 ∨ (n : Int) ≤ k) :
    Calls Try.prog 30 #[.slice (some ⟨G, 0, none⟩) n c, .int .i64 k] w fun e w' => e = .returned (.pointer none) ∧ Below w.heap.size w w' := by
  have S0 := ((Inv.start w).box 23 #[.slice (some ⟨G, 0, none⟩) n c]).box 3 #[.int .i64 k]
  simp only [World.size_alloc] at S0
  by_cases h0 : k < 0
  · go_enter Try.func30, Try.ntmps30
    go_wp2
    go_ret
    exact ⟨rfl, S0.below⟩
  · have h1 : k ≥ (n : Int) := by omega
    go_enter Try.func30, Try.ntmps30
    go_wp2
    go_ret
    exact ⟨rfl, S0.below⟩
set_option maxRecDepth 100000 in
set_option maxHeartbeats 4000000 in
theorem implChainPass_any (A : Option Addr) (c : Nat) (ns : List Nd) (k : Int) (w : World) (hn : ns.length ≤ 1048576) (hm : SmN ns) (hC : CgA w A ns) :
    Calls Try.prog 17 #[.agg #[.slice A ns.length c], .int .i64 k] w (AnswerCB w (passN ns k) (passK ns k)) := by
  have S0 := ((Inv.start w).box 25 #[.slice A ns.length c]).box 25 #[.slice none 0 0]
  simp only [World.size_alloc] at S0
  have C0 := hide (implChainOk_any A c ns ((w.alloc (.cells #[.slice A ns.length c] 25)).alloc (.cells #[.slice none 0 0] 25)) hn hm (hC.on S0.below))
  have CC : Hid (∀ W, Below w.heap.size w W → Calls Try.prog 29 #[.agg #[.slice A ns.length c]] W (ClonedC W ns)) := fun W hW => chainClone_any A c ns W hn hm (hC.on hW)
  have k0 := (S0.nth 1 rfl).one.1
  clear hm hC
  cases ho : chainB ns
  · have HE := hide (passN_no (k := k) ho)
    rw [ho] at C0
    clear ho
    go_enter Try.func17, Try.ntmps17
    go_wp2_with fail
    with_reducible refine C0.out.mono ?_
    rintro e w1 ⟨rfl, hb1⟩
    have S1 := S0.on hb1
    have q1 := (S1.nth 0 rfl).one
    clear S0 C0 k0
    go_wp2
    refine bodyPost_ret (v := .tuple #[.agg #[.slice none 0 0], .bool false]) (by simp [results, Try.results17, go_sem, q1]) rfl ?_
    exact answerCB_none HE.out (S1.below.setCell (by simp only; omega) _)
  · have HOK := hide ho
    rw [ho] at C0
    clear ho
    go_enter Try.func17, Try.ntmps17
    go_wp2_with fail
    with_reducible refine C0.out.mono ?_
    rintro e w2 ⟨rfl, hb1⟩
    have S2 := S0.on hb1
    have k2 := (S2.nth 1 rfl).one.1
    have zr := S2.room
    have zb := S2.base
    clear S0 C0 k0 hb1
    go_wp2_with fail
    with_reducible refine (CC.out _ S2.below).mono ?_
    rintro e w3 hcl
    obtain ⟨G, xc, us, rfl, hul, hu4, hB, hu1, hgr, hb3⟩ := cloned_at hcl HOK.out
    have HUL := hide hul
    have HB := hide hB
    have HLN := hide hul.1
    have HCB := hide (canB_like hul k.toNat)
    have z3 := hb3.size
    have S3 := (S2.on hb3).alloc (.cells #[.slice (some ⟨G, 0, none⟩) us.length xc] 25)
    have V0 := Blk.made w3 25 #[.slice (some ⟨G, 0, none⟩) us.length xc]
    have HGR := hide (hgr.on (below_alloc1 w3 (.cells #[.slice (some ⟨G, 0, none⟩) us.length xc] 25)))
    have v0 := V0.one.1
    clear S2 k2 hb3 hul hgr hcl hB CC
    by_cases hin : 0 ≤ k ∧ k < (us.length : Int)
    · obtain ⟨kn, rfl⟩ : ∃ kn : Nat, k = (kn : Int) := ⟨k.toNat, by omega⟩
      obtain ⟨n, hn0⟩ : ∃ n, us[kn]? = some n := ⟨_, List.getElem?_eq_getElem (by omega)⟩
      have HN0 := hide hn0
      clear hn0
      go_wp2_with fail
      generalize hW0 : w3.alloc (.cells #[.slice (some ⟨G, 0, none⟩) us.length xc] 25) = W0 at V0 v0 HGR S3 ⊢
      have zA : w3.heap.size < W0.heap.size := by rw [← hW0]; simp
      clear hW0
      have CT := hide (linkAt_any G us.length xc kn W0 (by omega) (by omega))
      with_reducible refine CT.out.mono ?_
      rintro e w4 ⟨hE, hb4⟩
      rw [if_pos (by omega)] at hE
      obtain ⟨L, rfl, hL⟩ := hE
      have HL := hide hL
      have HGR4 := hide (HGR.out.on hb4)
      have V4 := V0.on hb4
      have S4 := S3.on hb4
      have z4 := hb4.size
      have CP := hide (pass_any W0.heap.size L w2.heap.size G xc kn us n w4.drew (HGR4.out.on (Below.refl _ _).drew) (HL.out.on (Below.refl _ _).drew) HN0.out hu4 HB.out)
      have J4 : Inv w (w.heap.size + 1) [(w.heap.size, 25, #[.slice A ns.length c])] w4 := ⟨S4.below, by omega, fun x hx => by
        simp only [List.mem_cons, List.not_mem_nil, or_false] at hx
        subst hx
        exact ⟨Nat.le_refl _, by simp, S4.nth 1 rfl⟩⟩
      have B4 := S4.nth 0 rfl
      have hz4 : w4.drew.heap.size = w4.heap.size := rfl
      have HEN : Hid ((canB us kn = true → passN ns (kn : Int) = goN ns kn ∧ passK ns (kn : Int) = true) ∧ (canB us kn = false → passN ns (kn : Int) = ns ∧ passK ns (kn : Int) = false)) := by
        have hq := HCB.out
        simp only [Int.toNat_natCast] at hq
        refine ⟨fun h => ?_, fun h => ?_⟩
        · have := passN_yes (k := (kn : Int)) HOK.out (by omega) (by simpa using hq.symm.trans h)
          simpa using this
        · exact passN_not (k := (kn : Int)) HOK.out (fun q => by
            have q2 := q.2
            simp only [Int.toNat_natCast] at q2
            rw [hq, q2] at h
            cases h)
      clear CT HGR V0 v0 S3 hb4 hL S4
      go_wp2_with fail
      refine wp_region_noPanic ?_
      refine wp_region_held_drew (S := (fun w' => w'.cell? ⟨w3.heap.size, 0, none⟩ = some (.slice (some ⟨G, 0, none⟩) us.length xc) ∧ Blk w' w3.heap.size 25 #[.slice (some ⟨G, 0, none⟩) us.length xc] ∧ Inv w (w.heap.size + 1) [(w.heap.size, 25, #[.slice A ns.length c])] w' ∧ (∃ y, Blk w' (w.heap.size + 1) 25 #[y]))) (by kernel_rfl) (by exact ⟨V4.drew.at 0, V4.drew, J4.drew, ⟨_, B4.drew⟩⟩) (fun hHeld => ?_)
      refine take_run 0 (some 21) (v := ?_) rfl rfl (by kernel_rfl) (by kernel_rfl) (by kernel_rfl) (fun _ _ _ h => h) (by rfl) ?_ hHeld ?_
      rotate_left
      · ((intro w hSw); (try dsimp only at hSw); go_simp <;> with_reducible rfl)
      simp only [Act.put, List.setIfInBounds_toArray, List.set_cons_zero, List.set_cons_succ]
      refine take_run 1 (some 22) (v := ?_) rfl rfl (by kernel_rfl) (by kernel_rfl) (by kernel_rfl) (fun _ _ _ h => h) (by rfl) ?_ hHeld ?_
      rotate_left
      · ((intro w hSw); (try dsimp only at hSw); go_simp <;> with_reducible rfl)
      simp only [Act.put, List.setIfInBounds_toArray, List.set_cons_zero, List.set_cons_succ]
      refine take_one 2 (by kernel_rfl) rfl (fun K hK => ?_)
      go_simp
      ((with_reducible refine CP.out.mono ?_); rintro e w5 ⟨us', rfl, hul5, hg5, hT5⟩; have HUL5 := hide hul5; have HG5 := hide hg5; have HT5 := hide hT5; have I5 := hHeld.2.2.1.turned hT5 (fun g h => by have h' := h.1; omega) (fun x hx h => by have h' := h.1; simp only [List.mem_cons, List.not_mem_nil, or_false] at hx; subst hx; simp only at h'; omega); obtain ⟨y5, hy5⟩ := hHeld.2.2.2; have B5 := hy5.turned hT5 (fun h => by have h' := h.1; omega); have V5 := hHeld.2.1.turned hT5 (touch_no hHeld.2.1 (by decide) (by decide)); have HB9 := hide B5; have q5 := B5.one; have z5 := hT5.size; clear hul5 hg5 hT5)
      try go_wp2_with fail
      refine hK.out _ _ (by exact ⟨V5.at 0, V5, I5, ⟨y5, B5⟩⟩) (fun hHeld => ?_)
      clear hK K
      refine take_one 3 (by kernel_rfl) rfl (fun K hK => ?_)
      go_simp
      refine hK.out _ _ (by exact ⟨(V5.aside (by show w3.heap.size ≠ w.heap.size + 1; omega) _).at 0, V5.aside (by show w3.heap.size ≠ w.heap.size + 1; omega) _, I5.set (p := ⟨w.heap.size + 1, 0, none⟩) (by simp) (by simp) _, ⟨_, B5.put 0 _⟩⟩) (fun hHeld => ?_)
      clear hK K
      refine take_run 4 (some 5) (v := ?_) rfl rfl (by kernel_rfl) (by kernel_rfl) (by kernel_rfl) (fun _ _ _ h => h) (by rfl) ?_ hHeld ?_
      rotate_left
      · ((intro w hSw); (try dsimp only at hSw); go_simp <;> with_reducible rfl)
      simp only [Act.put, List.setIfInBounds_toArray, List.set_cons_zero, List.set_cons_succ]
      refine wpAnyH_done (by kernel_rfl) ?_ _
      refine NoPanic.normal ?_
      obtain ⟨-, -, I9, -⟩ := hHeld
      have B9 := HB9.out.put 0 (.slice (some ⟨G, 0, none⟩) us.length xc)
      simp only [List.setIfInBounds_toArray, List.set_cons_zero] at B9
      have q9 := B9.one
      have HG9 := hide (HG5.out.aside (p := ⟨w.heap.size + 1, 0, none⟩) (by simp only; omega) (.slice (some ⟨G, 0, none⟩) us.length xc))
      clear V4 J4 B4 I5 hy5 B5 q5 V5
      generalize w5.setCell ⟨w.heap.size + 1, 0, none⟩ (.slice (some ⟨G, 0, none⟩) us.length xc) = W9 at I9 B9 q9 HG9 ⊢
      cases hcan : canB us kn
      · have HE := hide (HEN.out.2 hcan)
        have HNL := hide (show NL us' us by have := HUL5.out; rw [hcan] at this; simpa using this)
        clear hcan
        go_wp2
        refine bodyPost_ret (v := .tuple #[.agg #[.slice (some ⟨G, 0, none⟩) us.length xc], .bool false]) (by simp [results, Try.results17, go_sem, q9]) rfl ?_
        rw [HE.out.1, HE.out.2]
        exact answerCB_row (HG9.out.down zb) (nl_trans HNL.out HUL.out) I9.below
      · have HE := hide (HEN.out.1 hcan)
        have HNL := hide (show NL us' (goN us kn) by have := HUL5.out; rw [hcan] at this; simpa using this)
        clear hcan
        go_wp2
        refine bodyPost_ret (v := .tuple #[.agg #[.slice (some ⟨G, 0, none⟩) us.length xc], .bool true]) (by simp [results, Try.results17, go_sem, q9]) rfl ?_
        rw [HE.out.1, HE.out.2]
        exact answerCB_row (HG9.out.down zb) (nl_trans HNL.out (goN_like HUL.out kn)) I9.below
    · have HE := hide (passN_not (k := k) HOK.out (fun q => hin ⟨q.1, by
        by_cases h9 : k < (us.length : Int)
        · exact h9
        · have := canB_end (ns := ns) (k := k.toNat) (by have := HLN.out; omega)
          rw [this] at q
          cases q.2⟩))
      have CT := hide (linkAt_out G us.length xc k (w3.alloc (.cells #[.slice (some ⟨G, 0, none⟩) us.length xc] 25)) (by omega))
      clear hin
      go_wp2_with fail
      with_reducible refine CT.out.mono ?_
      rintro e w4 ⟨rfl, hb4⟩
      have HGR4 := hide (HGR.out.on hb4)
      have V4 := V0.on hb4
      have S4 := S3.on hb4
      have z4 := hb4.size
      have v4 := V4.one.1
      have q4 := (S4.nth 0 rfl).one
      clear CT HGR V0 v0 S3 hb4
      go_wp2
      refine bodyPost_ret (v := .tuple #[.agg #[.slice (some ⟨G, 0, none⟩) us.length xc], .bool false]) (by simp [results, Try.results17, go_sem, q4]) rfl ?_
      rw [HE.out.1, HE.out.2]
      exact answerCB_row ((HGR4.out.aside (p := ⟨w.heap.size + 1, 0, none⟩) (by simp only; omega) _).down zb) HUL.out (S4.below.setCell (by simp only; omega) _)
end Go.Proofs.Ytjnloillcgeodaa
/- A slice put behind one that is the call's own: it may be empty. No condition. -/
namespace Go.Proofs.Ytjnloillcgeodaa
open Go.RowKit Go.Joins
attribute [local go_sem ↓] Go.wp_at_zero Go.wp_at_succ

section
variable {P : Program} (w : World)
theorem run_append_more (t ty : TypeId) (base : Nat) (e : TypeId) (i : TypeInfo) (z : Value) (size bytes : Nat) (ht : P.underlying t = some (.slice e)) (hi : P.info? e = some i) (hz : i.zero = some z)
    (hsize : i.size = size) (hby : i.bytes = bytes) (hzs : z.cells.size = size) (hsz : 0 < size)
    (g0 n c0 : Nat) (xs : List Value) (hown : w.ownsRow base e size (.slice (some ⟨g0, 0, none⟩) n c0) n xs)
    (ax : Option Addr) (m c : Nat) (news : List Value) (hl : news.length = m * size) (hax : m ≠ 0 → ∃ ad, ax = some ad ∧ ∀ j u, news[j]? = some u → w.cell? (ad.add j) = some u) (h1 : ∀ u ∈ news, u.oneCell' = true)
    (h63 : n + m ≤ maxLen) (hbytes : (n + m) * bytes ≤ 140737488355328) (hbase : base ≤ w.heap.size) (H : Nat) (hH : w.heap.size = H) :
    ∃ g cap w', (Builtin.append_ #[t, t] ty #[.slice (some ⟨g0, 0, none⟩) n c0, .slice ax m c]).run P w = .ok (.slice (some ⟨g, 0, none⟩) (n + m) cap) w' ∧
      w'.ownsRow base e size (.slice (some ⟨g, 0, none⟩) (n + m) cap) (n + m) (xs ++ news) ∧ w.grownBy w' (some g0) ∧ (g = g0 ∨ g = H) := by
  by_cases h0 : m = 0
  · subst h0
    have hn : news = [] := List.length_eq_zero_iff.1 (by omega)
    subst hn
    have hc : n ≤ c0 := by
      rcases hown.2 with ⟨q, _⟩ | ⟨g, cap, cr, q, _, _, h3, _⟩
      · cases q
      · injection q with _ _ q
        omega
    refine ⟨g0, c0, w, ?_, by simpa using hown, ⟨rfl, rfl, rfl, Nat.le_refl _, fun _ _ _ => rfl⟩, .inl rfl⟩
    cases ax <;> simp [Builtin.append_, run_underlying ht, sizeOf, typeInfo, hi, Builtin.lenOf, Builtin.firstCells, storeCells, loadCells, loadCellsFrom, hc]
  · obtain ⟨ad, rfl, hnews⟩ := hax h0
    obtain ⟨g, cap, w', hr, h2, h3, h4, _⟩ := run_append_lies (P := P) w t ty base e i z size bytes ht hi hz hsize hby hzs hsz _ n xs hown ad m c news hl hnews h1 (by omega) h63 hbytes hbase H hH
    refine ⟨g, cap, w', hr, h2, h3, ?_⟩
    rcases h4 with h4 | h4
    · simp only [Value.ownBlock] at h4
      injection h4 with h4
      exact .inl h4.symm
    · exact .inr h4
theorem wp_append_more {o : Oper} {a : Act} {K : Act → World → Prop} {Q : Exit → Act → World → Prop} (s x : Operand) (t : TypeId)
    (ho : o.op = .call { callee := .builtin .append, args := #[s, x], argTypes := #[t, t] })
    (base : Nat) (e : TypeId) (i : TypeInfo) (z : Value) (size bytes : Nat) (ht : P.underlying t = some (.slice e)) (hi : P.info? e = some i) (hz : i.zero = some z)
    (hsize : i.size = size) (hby : i.bytes = bytes) (hzs : z.cells.size = size) (hsz : 0 < size)
    (g0 n c0 : Nat) (xs : List Value) (hs : a.eval s = .slice (some ⟨g0, 0, none⟩) n c0) (hown : w.ownsRow base e size (.slice (some ⟨g0, 0, none⟩) n c0) n xs)
    (ax : Option Addr) (m c : Nat) (news : List Value) (hx : a.eval x = .slice ax m c) (hl : news.length = m * size) (hax : m ≠ 0 → ∃ ad, ax = some ad ∧ ∀ j u, news[j]? = some u → w.cell? (ad.add j) = some u) (h1 : ∀ u ∈ news, u.oneCell' = true)
    (h63 : n + m ≤ maxLen) (hbytes : (n + m) * bytes ≤ 140737488355328) (hbase : base ≤ w.heap.size) (H : Nat) (hH : w.heap.size = H)
    (h : ∀ g cap w', w'.ownsRow base e size (.slice (some ⟨g, 0, none⟩) (n + m) cap) (n + m) (xs ++ news) → w.grownBy w' (some g0) → (g = g0 ∨ g = H) → K (a.put o.dst (.slice (some ⟨g, 0, none⟩) (n + m) cap)) w') : o.wp P a w K Q := by
  obtain ⟨g, cap, w', hr, h2, h3, h4⟩ := run_append_more (P := P) w t o.type base e i z size bytes ht hi hz hsize hby hzs hsz g0 n c0 xs hown ax m c news hl hax h1 h63 hbytes hbase H hH
  unfold Oper.wp execOp
  simp only [ho, resolve, invoke, builtin, Sem.run_bind, Sem.run_pure, Result.andThen_ok, List.map_toArray, List.map_cons, List.map_nil, hs, hx, hr]
  exact h g cap w' h2 h3 h4
theorem wpList_append_more {ops : Array Oper} {rest : List Oper} {o : Oper} {a : Act} {Q : Exit → Act → World → Prop} (hgd : o.guard = none) (s x : Operand) (t : TypeId)
    (ho : o.op = .call { callee := .builtin .append, args := #[s, x], argTypes := #[t, t] })
    (base : Nat) (e : TypeId) (i : TypeInfo) (z : Value) (size bytes : Nat) (ht : P.underlying t = some (.slice e)) (hi : P.info? e = some i) (hz : i.zero = some z)
    (hsize : i.size = size) (hby : i.bytes = bytes) (hzs : z.cells.size = size) (hsz : 0 < size)
    (g0 n c0 : Nat) (xs : List Value) (hs : a.eval s = .slice (some ⟨g0, 0, none⟩) n c0) (hown : w.ownsRow base e size (.slice (some ⟨g0, 0, none⟩) n c0) n xs)
    (ax : Option Addr) (m c : Nat) (news : List Value) (hx : a.eval x = .slice ax m c) (hl : news.length = m * size) (hax : m ≠ 0 → ∃ ad, ax = some ad ∧ ∀ j u, news[j]? = some u → w.cell? (ad.add j) = some u) (h1 : ∀ u ∈ news, u.oneCell' = true)
    (h63 : n + m ≤ maxLen) (hbytes : (n + m) * bytes ≤ 140737488355328) (hbase : base ≤ w.heap.size) (H : Nat) (hH : w.heap.size = H)
    (h : ∀ g cap w', w'.ownsRow base e size (.slice (some ⟨g, 0, none⟩) (n + m) cap) (n + m) (xs ++ news) → w.grownBy w' (some g0) → (g = g0 ∨ g = H) → wpList P ops Q rest (a.put o.dst (.slice (some ⟨g, 0, none⟩) (n + m) cap)) w') : wpList P ops Q (o :: rest) a w :=
  wpList_plain hgd fun _ hK => wp_append_more w s x t ho base e i z size bytes ht hi hz hsize hby hzs hsz g0 n c0 xs hs hown ax m c news hx hl hax h1 h63 hbytes hbase H hH fun g cap w' h2 h3 h4 => hK _ _ (h g cap w' h2 h3 h4)
theorem step_append_more {ops : Array Oper} {o : Oper} {a : Act} {K : Act → World → Prop} {Q : Exit → Act → World → Prop} {E : Prop} (hgd : o.guard = none) (s x : Operand) (t : TypeId)
    (ho : o.op = .call { callee := .builtin .append, args := #[s, x], argTypes := #[t, t] })
    (base : Nat) (e : TypeId) (i : TypeInfo) (z : Value) (size bytes : Nat) (ht : P.underlying t = some (.slice e)) (hi : P.info? e = some i) (hz : i.zero = some z)
    (hsize : i.size = size) (hby : i.bytes = bytes) (hzs : z.cells.size = size) (hsz : 0 < size)
    (g0 n c0 : Nat) (xs : List Value) (hs : a.eval s = .slice (some ⟨g0, 0, none⟩) n c0) (hown : w.ownsRow base e size (.slice (some ⟨g0, 0, none⟩) n c0) n xs)
    (ax : Option Addr) (m c : Nat) (news : List Value) (hx : a.eval x = .slice ax m c) (hl : news.length = m * size) (hax : m ≠ 0 → ∃ ad, ax = some ad ∧ ∀ j u, news[j]? = some u → w.cell? (ad.add j) = some u) (h1 : ∀ u ∈ news, u.oneCell' = true)
    (h63 : n + m ≤ maxLen) (hbytes : (n + m) * bytes ≤ 140737488355328) (hbase : base ≤ w.heap.size) (H : Nat) (hH : w.heap.size = H)
    (h : ∀ g cap w', w'.ownsRow base e size (.slice (some ⟨g, 0, none⟩) (n + m) cap) (n + m) (xs ++ news) → w.grownBy w' (some g0) → (g = g0 ∨ g = H) → K (a.put o.dst (.slice (some ⟨g, 0, none⟩) (n + m) cap)) w') :
    if Region.wanted o (yielded ops a.tmps) = true then Oper.wp P o a w K Q else E := by
  have hw : Region.wanted o (yielded ops a.tmps) = true := by simp [Region.wanted, hgd]
  rw [if_pos hw]
  exact wp_append_more w s x t ho base e i z size bytes ht hi hz hsize hby hzs hsz g0 n c0 xs hs hown ax m c news hx hl hax h1 h63 hbytes hbase H hH h
end
end Go.Proofs.Ytjnloillcgeodaa
