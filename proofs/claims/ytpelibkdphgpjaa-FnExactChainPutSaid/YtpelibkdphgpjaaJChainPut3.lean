/- Contract of the model's ChainPut. Condition: sizes that memory holds. -/
import Derived.Test.YtpelibkdphgpjaaJChainPut2
namespace Go.Proofs.Ytpelibkdphgpjaa
open Go.RowKit Go.Joins
attribute [local go_sem ↓] Go.wp_at_zero Go.wp_at_succ

theorem ResN.set {w : World} {B U : Nat} {A : Option Addr} {us : List Nd} (h : ResN w B U A us) {p : Addr} (hp : p.block < B ∨ U ≤ p.block) (u : Value) : ResN (w.setCell p u) B U A us :=
  h.turn (P := fun g => g = p.block) ((Turn.refl (fun g => g = p.block) w).set (p := p) rfl u) (fun g h1 h2 e => by omega)
theorem ResN.swap {w : World} {B U : Nat} {A : Option Addr} {us : List Nd} {o o' : Obj} (h : ResN (w.alloc o) B U A us) (hU : U ≤ w.heap.size) : ResN (w.alloc o') B U A us := by
  have ht : Turn (fun g => g = w.heap.size) (w.alloc o) (w.alloc o') := ⟨rfl, rfl, rfl, by simp, fun k hk hn => by
    have hk' : k < w.heap.size := by simp at hk; omega
    rw [Below.heap_alloc w o' k hk', Below.heap_alloc w o k hk']⟩
  exact h.turn ht (fun g h1 h2 e => by omega)
theorem NRow.low {w : World} {B B' U G : Nat} {ns : List Nd} {cur : Array Value} (h : NRow w B U G ns cur) (hb : B' ≤ B) : NRow w B' U G ns cur :=
  ⟨h.blk, Nat.le_trans hb h.lo, h.hi, h.size, h.at', fun i n hi => (h.store i n hi).low hb, fun i n hi => (h.wait i n hi).low hb, h.two, h.apart⟩
theorem cloned_at {W w' : World} {ns : List Nd} {e : Ending} (h : ClonedC W ns e w') (hok : chainB ns = true) : ∃ (G xc : Nat) (us : List Nd), e = .returned (.agg #[.slice (some ⟨G, 0, none⟩) us.length xc]) ∧ NL us ns ∧ us.length ≤ 4 ∧ (∀ (i : Nat) n, us[i]? = some n → nodeB n = true) ∧ 1 ≤ us.length ∧ GRow W.heap.size w' (.slice (some ⟨G, 0, none⟩) us.length xc) us ∧ Below W.heap.size W w' := by
  obtain ⟨x, us, rfl, hul, hgr, hb⟩ := h
  obtain ⟨xa, xc, rfl⟩ := hgr.form
  have hcu : chainB us = true := (chainB_like hul).trans hok
  obtain ⟨⟨h1, h4⟩, hB, -⟩ := chainB_parts hcu
  obtain ⟨_, hR⟩ := hgr.res
  rcases hR with h0 | ⟨G, cur, rfl, hR⟩
  · rw [h0] at h1; simp at h1
  exact ⟨G, xc, us, rfl, hul, h4, hB, h1, hgr, hb⟩
set_option maxRecDepth 100000 in
set_option maxHeartbeats 4000000 in
theorem specChainPut_any (A : Option Addr) (c : Nat) (ns : List Nd) (v : V) (w : World) (hn : ns.length ≤ 1048576) (hm : SmN ns) (hC : CgA w A ns) (hn1 : v.ts.length ≤ 1048576) (hs1 : v.s.size ≤ 9223372036854775807) (hv : Own1 w 0 w.heap.size v) :
    Calls Try.prog 23 #[.agg #[.slice A ns.length c], .agg (verC v.k v.t v.u v.a v.ts.length v.c v.s v.g)] w (AnswerCB w (putN ns v) (putK ns v)) := by
  have S0 := (((Inv.start w).box 26 #[.slice A ns.length c]).box 55 (verC v.k v.t v.u v.a v.ts.length v.c v.s v.g)).box 26 #[.slice none 0 0]
  simp only [World.size_alloc] at S0
  have C0 := hide (l3Ok_any A c ns (((w.alloc (.cells #[.slice A ns.length c] 26)).alloc (.cells (verC v.k v.t v.u v.a v.ts.length v.c v.s v.g) 55)).alloc (.cells #[.slice none 0 0] 26)) hn hm (hC.on S0.below))
  have CV : Hid (∀ W, Below w.heap.size w W → Calls Try.prog 59 #[.agg (verC v.k v.t v.u v.a v.ts.length v.c v.s v.g)] W fun e w' => e = .returned (.bool (verV v)) ∧ Below W.heap.size W w') := fun W hW => l2Ok_any v.k v.t v.u v.a v.c v.ts v.s v.g W hn1 hs1 ((hv.on hW).wide hW.size).tg
  have CC : Hid (∀ W, Below w.heap.size w W → Calls Try.prog 61 #[.agg #[.slice A ns.length c]] W (ClonedC W ns)) := fun W hW => l3Copy_any A c ns W hn hm (hC.on hW)
  have k0 := (S0.nth 2 rfl).one.1
  have HV := hide hv
  have HC := hide hC
  clear hm hC hv
  cases ho : chainB ns
  · have HE := hide (putN_no (ns := ns) (v := v) (by rw [ho]; simp))
    rw [ho] at C0
    clear ho
    go_enter Try.func23, Try.ntmps23
    go_wp2_with fail
    with_reducible refine C0.out.mono ?_
    rintro e w1 ⟨rfl, hb1⟩
    have S1 := S0.on hb1
    have q1 := (S1.nth 0 rfl).one
    clear S0 C0 k0
    go_wp2
    refine bodyPost_ret (v := .tuple #[.agg #[.slice none 0 0], .bool false]) (by simp [results, Try.results23, go_sem, q1]) rfl ?_
    exact answerCB_none HE.out (S1.below.setCell (by simp only; omega) _)
  · have HOK := hide ho
    rw [ho] at C0
    clear ho
    cases hvb : verV v
    · have HE := hide (putN_no (ns := ns) (v := v) (by rw [hvb]; simp))
      rw [hvb] at CV
      clear hvb
      go_enter Try.func23, Try.ntmps23
      go_wp2_with fail
      with_reducible refine C0.out.mono ?_
      rintro e w1 ⟨rfl, hb1⟩
      have S1 := S0.on hb1
      have k1 := (S1.nth 1 rfl).six.1
      clear S0 C0 k0
      go_wp2_with fail
      with_reducible refine (CV.out _ S1.below).mono ?_
      rintro e w2 ⟨rfl, hb2⟩
      have S2 := S1.on hb2
      have q1 := (S2.nth 0 rfl).one
      clear S1 k1
      go_wp2
      refine bodyPost_ret (v := .tuple #[.agg #[.slice none 0 0], .bool false]) (by simp [results, Try.results23, go_sem, q1]) rfl ?_
      exact answerCB_none HE.out (S2.below.setCell (by simp only; omega) _)
    · have HVB := hide hvb
      rw [hvb] at CV
      clear hvb
      obtain ⟨⟨h1, h4⟩, -, -⟩ := chainB_parts HOK.out
      obtain ⟨n, hn0⟩ : ∃ n, ns[0]? = some n := ⟨_, List.getElem?_eq_getElem (by omega)⟩
      have HRN : Hid (roomB ns = decide (n.ws.length < 6)) := by unfold Hid roomB; rw [hn0]
      have HN0 := hide hn0
      rcases HC.out with h0 | ⟨G0, cur0, rfl, hG0⟩
      · rw [h0] at h1; simp at h1
      have HG0 := hide hG0
      clear hG0 hn0
      go_enter Try.func23, Try.ntmps23
      go_wp2_with fail
      with_reducible refine C0.out.mono ?_
      rintro e w1 ⟨rfl, hb1⟩
      have S1 := S0.on hb1
      have k1 := (S1.nth 1 rfl).six.1
      clear S0 C0 k0
      go_wp2_with fail
      with_reducible refine (CV.out _ S1.below).mono ?_
      rintro e w2 ⟨rfl, hb2⟩
      have S2 := S1.on hb2
      have k2 := (S2.nth 2 rfl).one.1
      have CR := hide (l3Room_any G0 c ns.length ns cur0 n w2 (HG0.out.on S2.below) HN0.out (by omega))
      clear S1 k1 CV hb1 hb2
      by_cases h6 : n.ws.length < 6
      · have HE := hide (putN_yes (v := v) HOK.out HVB.out (by rw [HRN.out]; simp; omega))
        rw [decide_eq_true h6] at CR
        clear h6
        go_wp2_with fail
        with_reducible refine CR.out.mono ?_
        rintro e w3 ⟨rfl, hb3⟩
        have S3 := S2.on hb3
        have zr := S3.room
        have zb := S3.base
        have J3 : Inv w (w.heap.size + 1 + 1) [(w.heap.size + 1, 55, (verC v.k v.t v.u v.a v.ts.length v.c v.s v.g)), (w.heap.size, 26, #[.slice (some ⟨G0, 0, none⟩) ns.length c])] w3 := ⟨S3.below, by omega, fun x hx => by
          simp only [List.mem_cons, List.not_mem_nil, or_false] at hx
          rcases hx with rfl | rfl
          · exact ⟨by simp, by simp, S3.nth 1 rfl⟩
          · exact ⟨Nat.le_refl _, by simp only; omega, S3.nth 2 rfl⟩⟩
        have B3 := S3.nth 0 rfl
        clear S2 CR k2 hb3
        go_wp2_with fail
        refine wp_region_noPanic ?_
        refine wp_region_held_drew (S := (fun w' => w'.cell? ⟨w.heap.size, 0, none⟩ = some (.slice (some ⟨G0, 0, none⟩) ns.length c) ∧ (w'.cell? ⟨w.heap.size + 1, 0, none⟩ = some (.int .i64 v.k) ∧ w'.cell? ⟨w.heap.size + 1, 1, none⟩ = some (.int .i64 v.t) ∧ w'.cell? ⟨w.heap.size + 1, 2, none⟩ = some (.int .i64 v.u) ∧ w'.cell? ⟨w.heap.size + 1, 3, none⟩ = some (.slice v.a v.ts.length v.c) ∧ w'.cell? ⟨w.heap.size + 1, 4, none⟩ = some (.string v.s) ∧ w'.cell? ⟨w.heap.size + 1, 5, none⟩ = some (.bool v.g)) ∧ Inv w (w.heap.size + 1 + 1) [(w.heap.size + 1, 55, (verC v.k v.t v.u v.a v.ts.length v.c v.s v.g)), (w.heap.size, 26, #[.slice (some ⟨G0, 0, none⟩) ns.length c])] w' ∧ (∃ y, Blk w' (w.heap.size + 1 + 1) 26 #[y]) ∧ w3.heap.size ≤ w'.heap.size)) (by kernel_rfl) (by exact ⟨(J3.drew.nth 1 rfl).at 0, (J3.drew.nth 0 rfl).six.1, J3.drew, ⟨_, B3.drew⟩, Nat.le_refl _⟩) (fun hHeld => ?_)
        refine take_run 0 (some 20) (v := ?_) rfl rfl (by kernel_rfl) (by kernel_rfl) (by kernel_rfl) (fun _ _ _ h => h) (by rfl) ?_ hHeld ?_
        rotate_left
        · ((intro w hSw); (try dsimp only at hSw); go_simp <;> with_reducible rfl)
        simp only [Act.put, List.setIfInBounds_toArray, List.set_cons_zero, List.set_cons_succ]
        refine take_run 2 (some 22) (v := ?_) rfl rfl (by kernel_rfl) (by kernel_rfl) (by kernel_rfl) (fun _ _ _ h => h) (by rfl) ?_ hHeld ?_
        rotate_left
        · ((intro w hSw); (try dsimp only at hSw); go_simp <;> with_reducible rfl)
        simp only [Act.put, List.setIfInBounds_toArray, List.set_cons_zero, List.set_cons_succ]
        refine take_one 1 (by kernel_rfl) rfl (fun K hK => ?_)
        go_simp
        ((with_reducible refine (CC.out _ hHeld.2.2.1.below).mono ?_); rintro e w4 hcl; obtain ⟨G, xc, us, rfl, hul, hu4, hB, hu1, hgr, hb⟩ := cloned_at hcl HOK.out; obtain ⟨m, hm0⟩ : ∃ m, us[0]? = some m := ⟨_, List.getElem?_eq_getElem (by omega)⟩; have HUL := hide hul; have CA := l3Add_any _ G xc 0 us m v w4 hgr hm0 hu4 (hB 0 m hm0) HVB.out ((HV.out.on (hHeld.2.2.1.on hb).below).wide (hHeld.2.2.1.on hb).base); change Calls _ _ #[_, .int .i64 0, _] _ _ at CA; have CA := hide CA; have HB := hide hb; clear hcl hul hB hgr hm0)
        try go_wp2_with fail
        refine hK.out _ _ (by exact ⟨((hHeld.2.2.1.on HB.out).nth 1 rfl).at 0, ((hHeld.2.2.1.on HB.out).nth 0 rfl).six.1, hHeld.2.2.1.on HB.out, hHeld.2.2.2.1.elim (fun y h => ⟨y, h.on HB.out⟩), Nat.le_trans hHeld.2.2.2.2 HB.out.size⟩) (fun hHeld => ?_)
        clear hK K
        refine take_one 3 (by kernel_rfl) rfl (fun K hK => ?_)
        go_simp
        ((with_reducible refine CA.out.mono ?_); rintro e w5 ⟨us', rfl, hul', hg5, hT⟩; have HUL5 := hide hul'; have HG5 := hide hg5; have HT5 := hide hT; have I5 := hHeld.2.2.1.turned hT (fun g e => by have e' : w3.drew.heap.size ≤ g := e; have : w3.drew.heap.size = w3.heap.size := rfl; omega) (fun x hx e => by have e' : w3.drew.heap.size ≤ x.1 := e; have : w3.drew.heap.size = w3.heap.size := rfl; simp only [List.mem_cons, List.not_mem_nil, or_false] at hx; rcases hx with rfl | rfl <;> simp only at e' <;> omega); obtain ⟨y5, hy5⟩ := hHeld.2.2.2.1; have B5 := hy5.turned hT (fun e => by have e' : w3.drew.heap.size ≤ w.heap.size + 1 + 1 := e; have : w3.drew.heap.size = w3.heap.size := rfl; omega); have HB9 := hide B5; have q5 := B5.one; have zT := hT.size; clear hul' hg5 hT)
        try go_wp2_with fail
        refine hK.out _ _ (by exact ⟨((I5).nth 1 rfl).at 0, ((I5).nth 0 rfl).six.1, I5, ⟨y5, B5⟩, Nat.le_trans hHeld.2.2.2.2 zT⟩) (fun hHeld => ?_)
        clear hK K
        refine take_one 4 (by kernel_rfl) rfl (fun K hK => ?_)
        go_simp
        refine hK.out _ _ (by exact ⟨((I5.set (p := ⟨w.heap.size + 1 + 1, 0, none⟩) (by simp) (by simp; omega) _).nth 1 rfl).at 0, ((I5.set (p := ⟨w.heap.size + 1 + 1, 0, none⟩) (by simp) (by simp; omega) _).nth 0 rfl).six.1, I5.set (p := ⟨w.heap.size + 1 + 1, 0, none⟩) (by simp) (by simp; omega) _, ⟨_, B5.put 0 _⟩, by simpa [World.setCell] using hHeld.2.2.2.2⟩) (fun hHeld => ?_)
        clear hK K
        refine take_run 5 (some 5) (v := ?_) rfl rfl (by kernel_rfl) (by kernel_rfl) (by kernel_rfl) (fun _ _ _ h => h) (by rfl) ?_ hHeld ?_
        rotate_left
        · ((intro w hSw); (try dsimp only at hSw); go_simp <;> with_reducible rfl)
        simp only [Act.put, List.setIfInBounds_toArray, List.set_cons_zero, List.set_cons_succ]
        refine wpAnyH_done (by kernel_rfl) ?_ _
        refine NoPanic.normal ?_
        obtain ⟨-, -, I9, -, z9⟩ := hHeld
        have B9 := HB9.out.put 0 (.slice (some ⟨G, 0, none⟩) us.length xc)
        simp only [List.setIfInBounds_toArray, List.set_cons_zero] at B9
        have q9 := B9.one
        have hbz : w3.drew.heap.size = w3.heap.size := rfl
        have HG9 := hide (HG5.out.aside (p := ⟨w.heap.size + 1 + 1, 0, none⟩) (by simp only; omega) (.slice (some ⟨G, 0, none⟩) us.length xc))
        clear S3 J3 B3 I5 hy5 B5 q5 hbz
        go_wp2
        refine bodyPost_ret (v := .tuple #[.agg #[.slice (some ⟨G, 0, none⟩) us.length xc], .bool true]) (by simp [results, Try.results23, go_sem, q9]) rfl ?_
        rw [HE.out.1, HE.out.2]
        exact answerCB_row (HG9.out.down zb) (nl_trans HUL5.out (addN_like HUL.out (vlike_refl v) 0)) I9.below
      · have HE := hide (putN_full (v := v) HOK.out HVB.out (by rw [HRN.out]; simp; omega))
        rw [decide_eq_false h6] at CR
        clear h6
        go_wp2_with fail
        with_reducible refine CR.out.mono ?_
        rintro e w3 ⟨rfl, hb3⟩
        have S3 := S2.on hb3
        have k3 := (S3.nth 2 rfl).one.1
        have zr := S3.room
        have zb := S3.base
        clear S2 CR k2 hb3
        go_wp2_with fail
        with_reducible refine (CC.out _ S3.below).mono ?_
        rintro e w4 hcl
        obtain ⟨G, xc, us, rfl, hul, hu4, hB, hu1, hgr, hb⟩ := cloned_at hcl HOK.out
        have HUL := hide hul
        have HGR := hide hgr
        have S4 := S3.on hb
        have q4 := (S4.nth 0 rfl).one
        clear S3 k3 hb hul hgr hcl hB
        go_wp2
        refine bodyPost_ret (v := .tuple #[.agg #[.slice (some ⟨G, 0, none⟩) us.length xc], .bool false]) (by simp [results, Try.results23, go_sem, q4]) rfl ?_
        rw [HE.out.1, HE.out.2]
        exact answerCB_row ((HGR.out.aside (p := ⟨w.heap.size + 1 + 1, 0, none⟩) (by simp only; omega) _).down zb) HUL.out (S4.below.setCell (by simp only; omega) _)
end Go.Proofs.Ytpelibkdphgpjaa
