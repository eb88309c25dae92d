/- Contract of the model's ChainPut. Condition: sizes that memory holds. -/
import Derived.Test.YtjnloillcgeodaaJChainPut2
namespace Go.Proofs.Ytjnloillcgeodaa
open Go.RowKit Go.Joins
attribute [local go_sem ↓] Go.wp_at_zero Go.wp_at_succ

theorem ResN.set {w : World} {B U : Nat} {A : Option Addr} {us : List Nd} (h : ResN w B U A us) {p : Addr} (hp : p.block < B ∨ U ≤ p.block) (u : Value) : ResN (w.setCell p u) B U A us :=
  h.turn (P := fun g => g = p.block) ((Turn.refl (fun g => g = p.block) w).set (p := p) rfl u) (fun g h1 h2 e => by omega)
theorem ResN.swap {w : World} {B U : Nat} {A : Option Addr} {us : List Nd} {o o' : Obj} (h : ResN (w.alloc o) B U A us) (hU : U ≤ w.heap.size) : ResN (w.alloc o') B U A us := by
  have ht : Turn (fun g => g = w.heap.size) (w.alloc o) (w.alloc o') := ⟨rfl, rfl, rfl, by simp, fun k hk hn => by
    have hk' : k < w.heap.size := by simp at hk; omega
    rw [Below.heap_alloc w o' k hk', Below.heap_alloc w o k hk']⟩
  exact h.turn ht (fun g h1 h2 e => by omega)
theorem NRow.low {w : World} {B B' U G : Nat} {ns : List Nd} {cur : Array Value} (h : NRow w B U G ns cur) (hb : B' ≤ B) : NRow w B' U G ns cur :=
  ⟨h.blk, Nat.le_trans hb h.lo, h.hi, h.size, h.at', fun i n hi => (h.store i n hi).low hb, fun i n hi => (h.wait i n hi).low hb, h.two, h.apart⟩
theorem cloned_at {W w' : World} {ns : List Nd} {e : Ending} (h : ClonedC W ns e w') (hok : chainB ns = true) : ∃ (G xc : Nat) (us : List Nd), e = .returned (.agg #[.slice (some ⟨G, 0, none⟩) us.length xc]) ∧ NL us ns ∧ us.length ≤ 4 ∧ (∀ (i : Nat) n, us[i]? = some n → nodeB n = true) ∧ 1 ≤ us.length ∧ GRow W.heap.size w' (.slice (some ⟨G, 0, none⟩) us.length xc) us ∧ Below W.heap.size W w' := by
  obtain ⟨x, us, rfl, hul, hgr, hb⟩ := h
  obtain ⟨xa, xc, rfl⟩ := hgr.form
  have hcu : chainB us = true := (chainB_like hul).trans hok
  obtain ⟨⟨h1, h4⟩, hB, -⟩ := chainB_parts hcu
  obtain ⟨_, hR⟩ := hgr.res
  rcases hR with h0 | ⟨G, cur, rfl, hR⟩
  · rw [h0] at h1; simp at h1
  exact ⟨G, xc, us, rfl, hul, h4, hB, h1, hgr, hb⟩
set_option maxRecDepth 100000 in
set_option maxHeartbeats 4000000 in
theorem specChainPutT_any (A : Option Addr) (c : Nat) (ns : List Nd) (v : V) (w : World) (hn : ns.length ≤ 1048576) (hm : SmN ns) (hC : CgA w A ns) (hn1 : v.ts.length ≤ 1048576) (hs1 : v.s.size ≤ 9223372036854775807) (htg : Tg w w.heap.size v.a v.ts) (hv : verV v = true → Own1 w 0 w.heap.size v) :
    Calls Try.prog 9 #[.agg #[.slice A ns.length c], .agg (verC v.k v.t v.u v.a v.ts.length v.c v.s v.g)] w (AnswerCB w (putN ns v) (putK ns v)) := by
  have S0 := (((Inv.start w).box 25 #[.slice A ns.length c]).box 32 (verC v.k v.t v.u v.a v.ts.length v.c v.s v.g)).box 25 #[.slice none 0 0]
  simp only [World.size_alloc] at S0
  have C0 := hide (l3Ok_any A c ns (((w.alloc (.cells #[.slice A ns.length c] 25)).alloc (.cells (verC v.k v.t v.u v.a v.ts.length v.c v.s v.g) 32)).alloc (.cells #[.slice none 0 0] 25)) hn hm (hC.on S0.below))
  have CV : Hid (∀ W, Below w.heap.size w W → Calls Try.prog 34 #[.agg (verC v.k v.t v.u v.a v.ts.length v.c v.s v.g)] W fun e w' => e = .returned (.bool (verV v)) ∧ Below W.heap.size W w') := fun W hW => l2Ok_any v.k v.t v.u v.a v.c v.ts v.s v.g W hn1 hs1 ((htg.on hW).up hW.size)
  have CC : Hid (∀ W, Below w.heap.size w W → Calls Try.prog 36 #[.agg #[.slice A ns.length c]] W (ClonedC W ns)) := fun W hW => l3Copy_any A c ns W hn hm (hC.on hW)
  have k0 := (S0.nth 2 rfl).one.1
  have HVF := hide hv
  have HC := hide hC
  clear hm hC hv htg
  cases ho : chainB ns
  · have HE := hide (putN_no (ns := ns) (v := v) (by rw [ho]; simp))
    rw [ho] at C0
    clear ho
    go_enter Try.func9, Try.ntmps9
    go_wp2_with fail
    with_reducible refine C0.out.mono ?_
    rintro e w1 ⟨rfl, hb1⟩
    have S1 := S0.on hb1
    have q1 := (S1.nth 0 rfl).one
    clear S0 C0 k0
    go_wp2
    refine bodyPost_ret (v := .tuple #[.agg #[.slice none 0 0], .bool false]) (by simp [results, Try.results9, go_sem, q1]) rfl ?_
    exact answerCB_none HE.out (S1.below.setCell (by simp only; omega) _)
  · have HOK := hide ho
    rw [ho] at C0
    clear ho
    cases hvb : verV v
    · have HE := hide (putN_no (ns := ns) (v := v) (by rw [hvb]; simp))
      rw [hvb] at CV
      clear hvb
      go_enter Try.func9, Try.ntmps9
      go_wp2_with fail
      with_reducible refine C0.out.mono ?_
      rintro e w1 ⟨rfl, hb1⟩
      have S1 := S0.on hb1
      have k1 := (S1.nth 1 rfl).six.1
      clear S0 C0 k0
      go_wp2_with fail
      with_reducible refine (CV.out _ S1.below).mono ?_
      rintro e w2 ⟨rfl, hb2⟩
      have S2 := S1.on hb2
      have q1 := (S2.nth 0 rfl).one
      clear S1 k1
      go_wp2
      refine bodyPost_ret (v := .tuple #[.agg #[.slice none 0 0], .bool false]) (by simp [results, Try.results9, go_sem, q1]) rfl ?_
      exact answerCB_none HE.out (S2.below.setCell (by simp only; omega) _)
    · have HVB := hide hvb
      have HV := hide (HVF.out hvb)
      rw [hvb] at CV
      clear hvb
      obtain ⟨⟨h1, h4⟩, -, -⟩ := chainB_parts HOK.out
      obtain ⟨n, hn0⟩ : ∃ n, ns[0]? = some n := ⟨_, List.getElem?_eq_getElem (by omega)⟩
      have HRN : Hid (roomB ns = decide (n.ws.length < 6)) := by unfold Hid roomB; rw [hn0]
      have HN0 := hide hn0
      rcases HC.out with h0 | ⟨G0, cur0, rfl, hG0⟩
      · rw [h0] at h1; simp at h1
      have HG0 := hide hG0
      clear hG0 hn0
      go_enter Try.func9, Try.ntmps9
      go_wp2_with fail
      with_reducible refine C0.out.mono ?_
      rintro e w1 ⟨rfl, hb1⟩
      have S1 := S0.on hb1
      have k1 := (S1.nth 1 rfl).six.1
      clear S0 C0 k0
      go_wp2_with fail
      with_reducible refine (CV.out _ S1.below).mono ?_
      rintro e w2 ⟨rfl, hb2⟩
      have S2 := S1.on hb2
      have k2 := (S2.nth 2 rfl).one.1
      have CR := hide (l3Room_any G0 c ns.length ns cur0 n w2 (HG0.out.on S2.below) HN0.out (by omega))
      clear S1 k1 CV hb1 hb2
      by_cases h6 : n.ws.length < 6
      · have HE := hide (putN_yes (v := v) HOK.out HVB.out (by rw [HRN.out]; simp; omega))
        rw [decide_eq_true h6] at CR
        clear h6
        go_wp2_with fail
        with_reducible refine CR.out.mono ?_
        rintro e w3 ⟨rfl, hb3⟩
        have S3 := S2.on hb3
        have zr := S3.room
        have zb := S3.base
        have J3 : Inv w (w.heap.size + 1 + 1) [(w.heap.size + 1, 32, (verC v.k v.t v.u v.a v.ts.length v.c v.s v.g)), (w.heap.size, 25, #[.slice (some ⟨G0, 0, none⟩) ns.length c])] w3 := ⟨S3.below, by omega, fun x hx => by
          simp only [List.mem_cons, List.not_mem_nil, or_false] at hx
          rcases hx with rfl | rfl
          · exact ⟨by simp, by simp, S3.nth 1 rfl⟩
          · exact ⟨Nat.le_refl _, by simp only; omega, S3.nth 2 rfl⟩⟩
        have B3 := S3.nth 0 rfl
        clear S2 CR k2 hb3
        go_wp2_with fail
        refine wp_region_noPanic ?_
        refine wp_region_held_drew (S := (fun w' => w'.cell? ⟨w.heap.size, 0, none⟩ = some (.slice (some ⟨G0, 0, none⟩) ns.length c) ∧ (w'.cell? ⟨w.heap.size + 1, 0, none⟩ = some (.int .i64 v.k) ∧ w'.cell? ⟨w.heap.size + 1, 1, none⟩ = some (.int .i64 v.t) ∧ w'.cell? ⟨w.heap.size + 1, 2, none⟩ = some (.int .i64 v.u) ∧ w'.cell? ⟨w.heap.size + 1, 3, none⟩ = some (.slice v.a v.ts.length v.c) ∧ w'.cell? ⟨w.heap.size + 1, 4, none⟩ = some (.string v.s) ∧ w'.cell? ⟨w.heap.size + 1, 5, none⟩ = some (.bool v.g)) ∧ Inv w (w.heap.size + 1 + 1) [(w.heap.size + 1, 32, (verC v.k v.t v.u v.a v.ts.length v.c v.s v.g)), (w.heap.size, 25, #[.slice (some ⟨G0, 0, none⟩) ns.length c])] w' ∧ (∃ y, Blk w' (w.heap.size + 1 + 1) 25 #[y]) ∧ w3.heap.size ≤ w'.heap.size)) (by kernel_rfl) (by exact ⟨(J3.drew.nth 1 rfl).at 0, (J3.drew.nth 0 rfl).six.1, J3.drew, ⟨_, B3.drew⟩, Nat.le_refl _⟩) (fun hHeld => ?_)
        refine take_run 0 (some 20) (v := ?_) rfl rfl (by kernel_rfl) (by kernel_rfl) (by kernel_rfl) (fun _ _ _ h => h) (by rfl) ?_ hHeld ?_
        rotate_left
        · ((intro w hSw); (try dsimp only at hSw); go_simp <;> with_reducible rfl)
        simp only [Act.put, List.setIfInBounds_toArray, List.set_cons_zero, List.set_cons_succ]
        refine take_run 2 (some 22) (v := ?_) rfl rfl (by kernel_rfl) (by kernel_rfl) (by kernel_rfl) (fun _ _ _ h => h) (by rfl) ?_ hHeld ?_
        rotate_left
        · ((intro w hSw); (try dsimp only at hSw); go_simp <;> with_reducible rfl)
        simp only [Act.put, List.setIfInBounds_toArray, List.set_cons_zero, List.set_cons_succ]
        refine take_one 1 (by kernel_rfl) rfl (fun K hK => ?_)
        go_simp
        ((with_reducible refine (CC.out _ hHeld.2.2.1.below).mono ?_); rintro e w4 hcl; obtain ⟨G, xc, us, rfl, hul, hu4, hB, hu1, hgr, hb⟩ := cloned_at hcl HOK.out; obtain ⟨m, hm0⟩ : ∃ m, us[0]? = some m := ⟨_, List.getElem?_eq_getElem (by omega)⟩; have HUL := hide hul; have CA := l3Add_any _ G xc 0 us m v w4 hgr hm0 hu4 (hB 0 m hm0) HVB.out ((HV.out.on (hHeld.2.2.1.on hb).below).wide (hHeld.2.2.1.on hb).base); change Calls _ _ #[_, .int .i64 0, _] _ _ at CA; have CA := hide CA; have HB := hide hb; clear hcl hul hB hgr hm0)
        try go_wp2_with fail
        refine hK.out _ _ (by exact ⟨((hHeld.2.2.1.on HB.out).nth 1 rfl).at 0, ((hHeld.2.2.1.on HB.out).nth 0 rfl).six.1, hHeld.2.2.1.on HB.out, hHeld.2.2.2.1.elim (fun y h => ⟨y, h.on HB.out⟩), Nat.le_trans hHeld.2.2.2.2 HB.out.size⟩) (fun hHeld => ?_)
        clear hK K
        refine take_one 3 (by kernel_rfl) rfl (fun K hK => ?_)
        go_simp
        ((with_reducible refine CA.out.mono ?_); rintro e w5 ⟨us', rfl, hul', hg5, hT⟩; have HUL5 := hide hul'; have HG5 := hide hg5; have HT5 := hide hT; have I5 := hHeld.2.2.1.turned hT (fun g e => by have e' : w3.drew.heap.size ≤ g := e.1; have : w3.drew.heap.size = w3.heap.size := rfl; omega) (fun x hx e => by have e' : w3.drew.heap.size ≤ x.1 := e.1; have : w3.drew.heap.size = w3.heap.size := rfl; simp only [List.mem_cons, List.not_mem_nil, or_false] at hx; rcases hx with rfl | rfl <;> simp only at e' <;> omega); obtain ⟨y5, hy5⟩ := hHeld.2.2.2.1; have B5 := hy5.turned hT (fun e => by have e' : w3.drew.heap.size ≤ w.heap.size + 1 + 1 := e.1; have : w3.drew.heap.size = w3.heap.size := rfl; omega); have HB9 := hide B5; have q5 := B5.one; have zT := hT.size; clear hul' hg5 hT)
        try go_wp2_with fail
        refine hK.out _ _ (by exact ⟨((I5).nth 1 rfl).at 0, ((I5).nth 0 rfl).six.1, I5, ⟨y5, B5⟩, Nat.le_trans hHeld.2.2.2.2 zT⟩) (fun hHeld => ?_)
        clear hK K
        refine take_one 4 (by kernel_rfl) rfl (fun K hK => ?_)
        go_simp
        refine hK.out _ _ (by exact ⟨((I5.set (p := ⟨w.heap.size + 1 + 1, 0, none⟩) (by simp) (by simp; omega) _).nth 1 rfl).at 0, ((I5.set (p := ⟨w.heap.size + 1 + 1, 0, none⟩) (by simp) (by simp; omega) _).nth 0 rfl).six.1, I5.set (p := ⟨w.heap.size + 1 + 1, 0, none⟩) (by simp) (by simp; omega) _, ⟨_, B5.put 0 _⟩, by simpa [World.setCell] using hHeld.2.2.2.2⟩) (fun hHeld => ?_)
        clear hK K
        refine take_run 5 (some 5) (v := ?_) rfl rfl (by kernel_rfl) (by kernel_rfl) (by kernel_rfl) (fun _ _ _ h => h) (by rfl) ?_ hHeld ?_
        rotate_left
        · ((intro w hSw); (try dsimp only at hSw); go_simp <;> with_reducible rfl)
        simp only [Act.put, List.setIfInBounds_toArray, List.set_cons_zero, List.set_cons_succ]
        refine wpAnyH_done (by kernel_rfl) ?_ _
        refine NoPanic.normal ?_
        obtain ⟨-, -, I9, -, z9⟩ := hHeld
        have B9 := HB9.out.put 0 (.slice (some ⟨G, 0, none⟩) us.length xc)
        simp only [List.setIfInBounds_toArray, List.set_cons_zero] at B9
        have q9 := B9.one
        have hbz : w3.drew.heap.size = w3.heap.size := rfl
        have HG9 := hide (HG5.out.aside (p := ⟨w.heap.size + 1 + 1, 0, none⟩) (by simp only; omega) (.slice (some ⟨G, 0, none⟩) us.length xc))
        clear S3 J3 B3 I5 hy5 B5 q5 hbz
        go_wp2
        refine bodyPost_ret (v := .tuple #[.agg #[.slice (some ⟨G, 0, none⟩) us.length xc], .bool true]) (by simp [results, Try.results9, go_sem, q9]) rfl ?_
        rw [HE.out.1, HE.out.2]
        exact answerCB_row (HG9.out.down zb) (nl_trans HUL5.out (addN_like HUL.out (vlike_refl v) 0)) I9.below
      · have HE := hide (putN_full (v := v) HOK.out HVB.out (by rw [HRN.out]; simp; omega))
        rw [decide_eq_false h6] at CR
        clear h6
        go_wp2_with fail
        with_reducible refine CR.out.mono ?_
        rintro e w3 ⟨rfl, hb3⟩
        have S3 := S2.on hb3
        have k3 := (S3.nth 2 rfl).one.1
        have zr := S3.room
        have zb := S3.base
        clear S2 CR k2 hb3
        go_wp2_with fail
        with_reducible refine (CC.out _ S3.below).mono ?_
        rintro e w4 hcl
        obtain ⟨G, xc, us, rfl, hul, hu4, hB, hu1, hgr, hb⟩ := cloned_at hcl HOK.out
        have HUL := hide hul
        have HGR := hide hgr
        have S4 := S3.on hb
        have q4 := (S4.nth 0 rfl).one
        clear S3 k3 hb hul hgr hcl hB
        go_wp2
        refine bodyPost_ret (v := .tuple #[.agg #[.slice (some ⟨G, 0, none⟩) us.length xc], .bool false]) (by simp [results, Try.results9, go_sem, q4]) rfl ?_
        rw [HE.out.1, HE.out.2]
        exact answerCB_row ((HGR.out.aside (p := ⟨w.heap.size + 1 + 1, 0, none⟩) (by simp only; omega) _).down zb) HUL.out (S4.below.setCell (by simp only; omega) _)
end Go.Proofs.Ytjnloillcgeodaa
/- A slice put behind one that is the call's own: it may be empty. No condition. -/
namespace Go.Proofs.Ytjnloillcgeodaa
open Go.RowKit Go.Joins
attribute [local go_sem ↓] Go.wp_at_zero Go.wp_at_succ

section
variable {P : Program} (w : World)
theorem run_append_more (t ty : TypeId) (base : Nat) (e : TypeId) (i : TypeInfo) (z : Value) (size bytes : Nat) (ht : P.underlying t = some (.slice e)) (hi : P.info? e = some i) (hz : i.zero = some z)
    (hsize : i.size = size) (hby : i.bytes = bytes) (hzs : z.cells.size = size) (hsz : 0 < size)
    (g0 n c0 : Nat) (xs : List Value) (hown : w.ownsRow base e size (.slice (some ⟨g0, 0, none⟩) n c0) n xs)
    (ax : Option Addr) (m c : Nat) (news : List Value) (hl : news.length = m * size) (hax : m ≠ 0 → ∃ ad, ax = some ad ∧ ∀ j u, news[j]? = some u → w.cell? (ad.add j) = some u) (h1 : ∀ u ∈ news, u.oneCell' = true)
    (h63 : n + m ≤ maxLen) (hbytes : (n + m) * bytes ≤ 140737488355328) (hbase : base ≤ w.heap.size) (H : Nat) (hH : w.heap.size = H) :
    ∃ g cap w', (Builtin.append_ #[t, t] ty #[.slice (some ⟨g0, 0, none⟩) n c0, .slice ax m c]).run P w = .ok (.slice (some ⟨g, 0, none⟩) (n + m) cap) w' ∧
      w'.ownsRow base e size (.slice (some ⟨g, 0, none⟩) (n + m) cap) (n + m) (xs ++ news) ∧ w.grownBy w' (some g0) ∧ (g = g0 ∨ g = H) := by
  by_cases h0 : m = 0
  · subst h0
    have hn : news = [] := List.length_eq_zero_iff.1 (by omega)
    subst hn
    have hc : n ≤ c0 := by
      rcases hown.2 with ⟨q, _⟩ | ⟨g, cap, cr, q, _, _, h3, _⟩
      · cases q
      · injection q with _ _ q
        omega
    refine ⟨g0, c0, w, ?_, by simpa using hown, ⟨rfl, rfl, rfl, Nat.le_refl _, fun _ _ _ => rfl⟩, .inl rfl⟩
    cases ax <;> simp [Builtin.append_, run_underlying ht, sizeOf, typeInfo, hi, Builtin.lenOf, Builtin.firstCells, storeCells, loadCells, loadCellsFrom, hc]
  · obtain ⟨ad, rfl, hnews⟩ := hax h0
    obtain ⟨g, cap, w', hr, h2, h3, h4, _⟩ := run_append_lies (P := P) w t ty base e i z size bytes ht hi hz hsize hby hzs hsz _ n xs hown ad m c news hl hnews h1 (by omega) h63 hbytes hbase H hH
    refine ⟨g, cap, w', hr, h2, h3, ?_⟩
    rcases h4 with h4 | h4
    · simp only [Value.ownBlock] at h4
      injection h4 with h4
      exact .inl h4.symm
    · exact .inr h4
theorem wp_append_more {o : Oper} {a : Act} {K : Act → World → Prop} {Q : Exit → Act → World → Prop} (s x : Operand) (t : TypeId)
    (ho : o.op = .call { callee := .builtin .append, args := #[s, x], argTypes := #[t, t] })
    (base : Nat) (e : TypeId) (i : TypeInfo) (z : Value) (size bytes : Nat) (ht : P.underlying t = some (.slice e)) (hi : P.info? e = some i) (hz : i.zero = some z)
    (hsize : i.size = size) (hby : i.bytes = bytes) (hzs : z.cells.size = size) (hsz : 0 < size)
    (g0 n c0 : Nat) (xs : List Value) (hs : a.eval s = .slice (some ⟨g0, 0, none⟩) n c0) (hown : w.ownsRow base e size (.slice (some ⟨g0, 0, none⟩) n c0) n xs)
    (ax : Option Addr) (m c : Nat) (news : List Value) (hx : a.eval x = .slice ax m c) (hl : news.length = m * size) (hax : m ≠ 0 → ∃ ad, ax = some ad ∧ ∀ j u, news[j]? = some u → w.cell? (ad.add j) = some u) (h1 : ∀ u ∈ news, u.oneCell' = true)
    (h63 : n + m ≤ maxLen) (hbytes : (n + m) * bytes ≤ 140737488355328) (hbase : base ≤ w.heap.size) (H : Nat) (hH : w.heap.size = H)
    (h : ∀ g cap w', w'.ownsRow base e size (.slice (some ⟨g, 0, none⟩) (n + m) cap) (n + m) (xs ++ news) → w.grownBy w' (some g0) → (g = g0 ∨ g = H) → K (a.put o.dst (.slice (some ⟨g, 0, none⟩) (n + m) cap)) w') : o.wp P a w K Q := by
  obtain ⟨g, cap, w', hr, h2, h3, h4⟩ := run_append_more (P := P) w t o.type base e i z size bytes ht hi hz hsize hby hzs hsz g0 n c0 xs hown ax m c news hl hax h1 h63 hbytes hbase H hH
  unfold Oper.wp execOp
  simp only [ho, resolve, invoke, builtin, Sem.run_bind, Sem.run_pure, Result.andThen_ok, List.map_toArray, List.map_cons, List.map_nil, hs, hx, hr]
  exact h g cap w' h2 h3 h4
theorem wpList_append_more {ops : Array Oper} {rest : List Oper} {o : Oper} {a : Act} {Q : Exit → Act → World → Prop} (hgd : o.guard = none) (s x : Operand) (t : TypeId)
    (ho : o.op = .call { callee := .builtin .append, args := #[s, x], argTypes := #[t, t] })
    (base : Nat) (e : TypeId) (i : TypeInfo) (z : Value) (size bytes : Nat) (ht : P.underlying t = some (.slice e)) (hi : P.info? e = some i) (hz : i.zero = some z)
    (hsize : i.size = size) (hby : i.bytes = bytes) (hzs : z.cells.size = size) (hsz : 0 < size)
    (g0 n c0 : Nat) (xs : List Value) (hs : a.eval s = .slice (some ⟨g0, 0, none⟩) n c0) (hown : w.ownsRow base e size (.slice (some ⟨g0, 0, none⟩) n c0) n xs)
    (ax : Option Addr) (m c : Nat) (news : List Value) (hx : a.eval x = .slice ax m c) (hl : news.length = m * size) (hax : m ≠ 0 → ∃ ad, ax = some ad ∧ ∀ j u, news[j]? = some u → w.cell? (ad.add j) = some u) (h1 : ∀ u ∈ news, u.oneCell' = true)
    (h63 : n + m ≤ maxLen) (hbytes : (n + m) * bytes ≤ 140737488355328) (hbase : base ≤ w.heap.size) (H : Nat) (hH : w.heap.size = H)
    (h : ∀ g cap w', w'.ownsRow base e size (.slice (some ⟨g, 0, none⟩) (n + m) cap) (n + m) (xs ++ news) → w.grownBy w' (some g0) → (g = g0 ∨ g = H) → wpList P ops Q rest (a.put o.dst (.slice (some ⟨g, 0, none⟩) (n + m) cap)) w') : wpList P ops Q (o :: rest) a w :=
  wpList_plain hgd fun _ hK => wp_append_more w s x t ho base e i z size bytes ht hi hz hsize hby hzs hsz g0 n c0 xs hs hown ax m c news hx hl hax h1 h63 hbytes hbase H hH fun g cap w' h2 h3 h4 => hK _ _ (h g cap w' h2 h3 h4)
theorem step_append_more {ops : Array Oper} {o : Oper} {a : Act} {K : Act → World → Prop} {Q : Exit → Act → World → Prop} {E : Prop} (hgd : o.guard = none) (s x : Operand) (t : TypeId)
    (ho : o.op = .call { callee := .builtin .append, args := #[s, x], argTypes := #[t, t] })
    (base : Nat) (e : TypeId) (i : TypeInfo) (z : Value) (size bytes : Nat) (ht : P.underlying t = some (.slice e)) (hi : P.info? e = some i) (hz : i.zero = some z)
    (hsize : i.size = size) (hby : i.bytes = bytes) (hzs : z.cells.size = size) (hsz : 0 < size)
    (g0 n c0 : Nat) (xs : List Value) (hs : a.eval s = .slice (some ⟨g0, 0, none⟩) n c0) (hown : w.ownsRow base e size (.slice (some ⟨g0, 0, none⟩) n c0) n xs)
    (ax : Option Addr) (m c : Nat) (news : List Value) (hx : a.eval x = .slice ax m c) (hl : news.length = m * size) (hax : m ≠ 0 → ∃ ad, ax = some ad ∧ ∀ j u, news[j]? = some u → w.cell? (ad.add j) = some u) (h1 : ∀ u ∈ news, u.oneCell' = true)
    (h63 : n + m ≤ maxLen) (hbytes : (n + m) * bytes ≤ 140737488355328) (hbase : base ≤ w.heap.size) (H : Nat) (hH : w.heap.size = H)
    (h : ∀ g cap w', w'.ownsRow base e size (.slice (some ⟨g, 0, none⟩) (n + m) cap) (n + m) (xs ++ news) → w.grownBy w' (some g0) → (g = g0 ∨ g = H) → K (a.put o.dst (.slice (some ⟨g, 0, none⟩) (n + m) cap)) w') :
    if Region.wanted o (yielded ops a.tmps) = true then Oper.wp P o a w K Q else E := by
  have hw : Region.wanted o (yielded ops a.tmps) = true := by simp [Region.wanted, hgd]
  rw [if_pos hw]
  exact wp_append_more w s x t ho base e i z size bytes ht hi hz hsize hby hzs hsz g0 n c0 xs hs hown ax m c news hx hl hax h1 h63 hbytes hbase H hH h
end
end Go.Proofs.Ytjnloillcgeodaa
/- What ChainPass answers, said plainly; what waits at a node replaced, in memory. No condition. -/
namespace Go.Proofs.Ytjnloillcgeodaa
open Go.RowKit Go.Joins

/-- A node without the first that waits there. -/
def tailNd (n : Nd) : Nd := ⟨n.sa, n.sc, n.ss, n.wa, n.wc, n.ws.tail⟩
/-- Whether a node can pass something on. -/
def canB (ns : List Nd) (k : Nat) : Bool := match ns[k]?, ns[k + 1]? with | some n, some m => decide (0 < n.ws.length) && decide (m.ws.length < 6) | _, _ => false
/-- The first that waits at a node comes to the next one. -/
def goN (ns : List Nd) (k : Nat) : List Nd := match ns[k]? with | some n => (match n.ws with | v :: _ => addN (ns.set k (tailNd n)) (k + 1) v | [] => ns) | none => ns
/-- What ChainPass answers. -/
def passN (ns : List Nd) (k : Int) : List Nd := if chainB ns = true then (if 0 ≤ k ∧ canB ns k.toNat = true then goN ns k.toNat else ns) else []
def passK (ns : List Nd) (k : Int) : Bool := chainB ns && (decide (0 ≤ k) && canB ns k.toNat)
theorem passN_no {ns : List Nd} {k : Int} (h : chainB ns = false) : passN ns k = [] ∧ passK ns k = false := by unfold passN passK; rw [h]; exact ⟨rfl, rfl⟩
theorem passN_not {ns : List Nd} {k : Int} (h : chainB ns = true) (hc : ¬ (0 ≤ k ∧ canB ns k.toNat = true)) : passN ns k = ns ∧ passK ns k = false := by
  refine ⟨by unfold passN; rw [if_pos h, if_neg hc], ?_⟩
  unfold passK
  rw [h, Bool.true_and]
  by_cases h0 : 0 ≤ k
  · cases hb : canB ns k.toNat
    · simp
    · exact absurd ⟨h0, hb⟩ hc
  · rw [decide_eq_false h0]; rfl
theorem passN_yes {ns : List Nd} {k : Int} (h : chainB ns = true) (h0 : 0 ≤ k) (hc : canB ns k.toNat = true) : passN ns k = goN ns k.toNat ∧ passK ns k = true := by
  refine ⟨by unfold passN; rw [if_pos h, if_pos ⟨h0, hc⟩], ?_⟩
  unfold passK
  rw [h, hc, decide_eq_true h0]
  rfl
theorem canB_at {ns : List Nd} {k : Nat} {n m : Nd} (hk : ns[k]? = some n) (hm : ns[k + 1]? = some m) : canB ns k = (decide (0 < n.ws.length) && decide (m.ws.length < 6)) := by unfold canB; rw [hk, hm]
theorem canB_end {ns : List Nd} {k : Nat} (h : ns.length ≤ k + 1) : canB ns k = false := by
  unfold canB
  rw [List.getElem?_eq_none (i := k + 1) h]
  cases ns[k]? <;> rfl
theorem goN_at {ns : List Nd} {k : Nat} {n : Nd} {v : V} {r : List V} (hk : ns[k]? = some n) (hw : n.ws = v :: r) : goN ns k = addN (ns.set k (tailNd n)) (k + 1) v := by
  unfold goN
  rw [hk]
  simp only [hw]
theorem addN_set {us : List Nd} {j k : Nat} {v : V} {n : Nd} (h : k ≠ j) : (addN us j v).set k n = addN (us.set k n) j v := by
  unfold addN
  rw [List.getElem?_set_ne h, List.length_set]
  cases us[j]? with
  | none => rfl
  | some m => exact List.set_comm _ _ (fun e => h e.symm)
theorem ll_tail {us vs : List V} (h : LL us vs) : LL us.tail vs.tail := by
  refine ⟨by simp [h.1], fun i x y hx hy => ?_⟩
  rw [List.getElem?_tail] at hx hy
  exact h.2 (i + 1) x y hx hy
theorem tailNd_like {n m : Nd} (h : Nd.like n m) : Nd.like (tailNd n) (tailNd m) := by
  have := ll_tail (us := n.ws) (vs := m.ws) ⟨h.2.2.1, h.2.2.2⟩
  exact ⟨h.1, h.2.1, this.1, this.2⟩
theorem canB_like {us ns : List Nd} (h : NL us ns) (k : Nat) : canB us k = canB ns k := by
  unfold canB
  cases hx : us[k]? with
  | none => rw [nl_none h hx]
  | some n =>
    obtain ⟨m, hm, hl⟩ := nl_at h hx
    rw [hm]
    cases hy : us[k + 1]? with
    | none => rw [nl_none h hy]
    | some n' =>
      obtain ⟨m', hm', hl'⟩ := nl_at h hy
      rw [hm']
      simp only [hl.2.2.1, hl'.2.2.1]
theorem goN_like {us ns : List Nd} (h : NL us ns) (k : Nat) : NL (goN us k) (goN ns k) := by
  cases hx : us[k]? with
  | none =>
    have h1 : goN us k = us := by unfold goN; rw [hx]
    have h2 : goN ns k = ns := by unfold goN; rw [nl_none h hx]
    rw [h1, h2]
    exact h
  | some n =>
    obtain ⟨m, hm, hl⟩ := nl_at h hx
    cases hw : n.ws with
    | nil =>
      have hw' : m.ws = [] := by
        have := hl.2.2.1
        rw [hw] at this
        exact List.length_eq_zero_iff.1 this.symm
      have h1 : goN us k = us := by unfold goN; rw [hx]; simp only [hw]
      have h2 : goN ns k = ns := by unfold goN; rw [hm]; simp only [hw']
      rw [h1, h2]
      exact h
    | cons v r =>
      obtain ⟨u, s, hw'⟩ : ∃ u s, m.ws = u :: s := by
        cases hq : m.ws with
        | nil => have := hl.2.2.1; rw [hw, hq] at this; simp at this
        | cons u s => exact ⟨u, s, rfl⟩
      rw [goN_at hx hw, goN_at hm hw']
      exact addN_like (nl_set h (tailNd_like hl)) (hl.2.2.2 0 v u (by rw [hw]; rfl) (by rw [hw']; rfl)) (k + 1)
theorem passN_like {us ns : List Nd} (h : NL us ns) (k : Int) : NL (passN us k) (passN ns k) ∧ passK us k = passK ns k := by
  refine ⟨?_, by unfold passK; rw [chainB_like h, canB_like h]⟩
  unfold passN
  rw [chainB_like h, canB_like h]
  split
  · split
    · exact goN_like h _
    · exact h
  · exact ⟨rfl, fun i x y hx => by simp at hx⟩
theorem tailNd_ok {n : Nd} (h : nodeB n = true) : nodeB (tailNd n) = true := by
  obtain ⟨h1, h2, h3⟩ := nodeB_parts h
  refine nodeB_mk h1 (by simp [tailNd]; omega) (fun i v hv => h3 v (List.mem_of_mem_tail (List.mem_of_getElem? hv)))
theorem fine_set {ns : List Nd} {k : Nat} {n : Nd} (h : FineN ns) (hn : nodeB n = true) : FineN (ns.set k n) := by
  refine ⟨by rw [List.length_set]; exact h.1, fun i y hy => ?_⟩
  have hx := List.mem_of_getElem? hy
  rcases List.mem_or_eq_of_mem_set hx with hx | rfl
  · obtain ⟨j, hj⟩ := List.getElem?_of_mem hx
    exact h.2 j y hj
  · exact hn
theorem goN_fine {ns : List Nd} {k : Nat} (h : FineN ns) (hc : canB ns k = true) : FineN (goN ns k) := by
  cases hx : ns[k]? with
  | none => unfold goN; rw [hx]; exact h
  | some n =>
    cases hw : n.ws with
    | nil => unfold goN; rw [hx]; simp only [hw]; exact h
    | cons v r =>
      rw [goN_at hx hw]
      obtain ⟨h1, h2, h3⟩ := nodeB_parts (h.2 k n hx)
      refine addN_fine (fine_set h (tailNd_ok (h.2 k n hx))) (h3 v (by rw [hw]; exact List.mem_cons_self)) (fun m hm => ?_)
      rw [List.getElem?_set_ne (by omega)] at hm
      rw [canB_at hx hm, Bool.and_eq_true, decide_eq_true_eq, decide_eq_true_eq] at hc
      exact .inr hc.2
theorem passN_fine (ns : List Nd) (k : Int) : FineN (passN ns k) := by
  unfold passN
  split
  · rename_i hc
    obtain ⟨⟨h1, h4⟩, hB, _⟩ := chainB_parts hc
    split
    · rename_i hr
      exact goN_fine ⟨h4, hB⟩ hr.2
    · exact ⟨h4, hB⟩
  · exact ⟨by simp, fun i n hi => by simp at hi⟩
theorem Vg.tail {w : World} {B b off : Nat} {v : V} {r : List V} (h : Vg w B (some ⟨b, off, none⟩) (v :: r)) : Vg w B (some ⟨b, off + 6, none⟩) r := by
  rcases h with h | ⟨b', off', e, hb, hx⟩
  · cases h
  · injection e with e
    injection e with e1 e2
    subst e1 e2
    refine .inr ⟨b, off + 6, rfl, hb, fun i x hi => ?_⟩
    have := hx (i + 1) x (by simpa using hi)
    rw [show off + (i + 1) * 6 = off + 6 + i * 6 by omega] at this
    exact this
theorem CRow.footLo {base : Nat} {w : World} {A : Option Addr} {c : Nat} {us : List V} {sa : Option Addr} {sc : Nat} {ss : List V} {g : Nat} (h : CRow base w (.slice A us.length c) us) (hg : FootW ⟨sa, sc, ss, A, c, us⟩ g) : base ≤ g := by
  rcases hg with hf | e
  · obtain ⟨A', cap', e', hR⟩ := h.resS
    injection e' with e'
    subst e'
    obtain ⟨_, _, _, _, q, _⟩ := hR.typed hf
    exact q
  · obtain ⟨_, _, q, _⟩ := h.typed g e
    exact q
/-- What waits at a node is another row now: one of new blocks, or of what was the node's own. -/
theorem GRow.newWait {base : Nat} {wr w1 : World} {G xc k cap : Nat} {A : Option Addr} {us : List Nd} {n : Nd} {ws : List V} (h : GRow base wr (.slice (some ⟨G, 0, none⟩) us.length xc) us) (hk : us[k]? = some n) (hb : Below wr.heap.size wr w1)
    (hc : CRow base w1 (.slice A ws.length cap) ws) (hf : ∀ y, FootW ⟨n.sa, n.sc, n.ss, A, cap, ws⟩ y → FootW n y ∨ wr.heap.size ≤ y) :
    GRow base (w1.setCell ⟨G, k * 2 + 1, none⟩ (.slice A ws.length cap)) (.slice (some ⟨G, 0, none⟩) us.length xc) (us.set k ⟨n.sa, n.sc, n.ss, A, cap, ws⟩) := by
  have hT := (Turn.below (P := fun y => y = G) hb).set (p := ⟨G, k * 2 + 1, none⟩) rfl (.slice A ws.length cap)
  refine h.set hk hT ?_ ?_ ?_ (fun y h1 h2 => ?_) (fun y e => .inr (by rw [e]; rfl)) (fun y hy => ?_)
  · rw [flatN_set2 hk (u := .slice A ws.length cap) (by simp [cellsN])]
    refine ⟨by rw [List.length_set]; exact h.row.1, ?_⟩
    rcases h.row.2 with ⟨q, _⟩ | ⟨G', cap', cr, h1, h2, h3, h4, h5, h6, h7⟩
    · cases q
    · injection h1 with h1 _ h1'
      injection h1 with h1
      injection h1 with h1
      subst h1 h1'
      have B2 : Blk w1 G 45 cr := (show Blk wr G 45 cr from h3).on hb
      refine .inr ⟨G, xc, _, rfl, h2, B2.put (k * 2 + 1) _, h4, h5, by simpa using h6, ?_⟩
      rw [Array.toList_setIfInBounds, List.take_set, h7]
  · exact ((h.store k n hk).turnF hT (fun y hf hp => by
      obtain ⟨T, cs, b1, b2, _⟩ := (h.store k n hk).typed hf
      obtain ⟨cs', b3, _⟩ := h.typed G rfl
      subst hp
      exact b2 (blk_one b1 b3))).wide hT.size
  · exact hc.turnedT (P := fun y => y = G) ((Turn.refl (fun y => y = G) w1).set (p := ⟨G, k * 2 + 1, none⟩) rfl _) (fun y e => by
      obtain ⟨cs', b3, _⟩ := h.typed G rfl
      subst e
      exact ⟨_, cs', b3.on hb, node_ne_ver, node_ne_tag⟩)
  · rcases hf y h2 with q | q
    · exact h.two k n hk y h1 q
    · have := h.foot hk (g := y) (.inl h1)
      omega
  · rcases hy with hy | hy
    · exact .inl (.inl hy)
    · rcases hf y hy with q | q
      · exact .inl (.inr q)
      · exact .inr q
/-- A row without its first, laid anew: the causes stay where they are. -/
theorem CRow.tail {base : Nat} {wr w1 : World} {A : Option Addr} {m c : Nat} {x : Value} {v : V} {r : List V} (h : CRow base wr (.slice A m c) (v :: r)) (hb : Below wr.heap.size wr w1) (hrow : w1.ownsRow base 32 6 x r.length (flat6 r)) : CRow base w1 x r :=
  ⟨hrow, fun i y hi => ((h.own (i + 1) y (by simpa using hi)).on hb).wide hb.size, fun i j y y' hne hi hj => h.apart (i + 1) (j + 1) y y' (by omega) (by simpa using hi) (by simpa using hj), Nat.le_trans h.lo hb.size⟩
theorem CRow.tailFoot {base : Nat} {wr : World} {n : Nd} {g cap : Nat} {v : V} {r : List V} (h : CRow base wr (.slice n.wa n.ws.length n.wc) n.ws) (hw : n.ws = v :: r) (hg : wr.heap.size ≤ g) : ∀ y, FootW ⟨n.sa, n.sc, n.ss, some ⟨g, 0, none⟩, cap, r⟩ y → FootW n y ∨ wr.heap.size ≤ y := fun y hy => by
  rcases hy with ⟨_, G', e, hf⟩ | e
  · injection e with e
    injection e with e
    subst e
    rcases hf with rfl | ⟨i, z, hi, hn, ha⟩
    · exact .inr hg
    · exact .inl (.inl (h.tagFoot (i := i + 1) (by rw [hw]; simpa using hi) hn ha))
  · simp only [Value.ownBlock] at e
    injection e with e
    subst e
    exact .inr hg
/-- What turns after a step that only adds. -/
theorem Turn.touch {w w1 w2 : World} {base : Nat} (hb : Below w.heap.size w w1) (ht : Turn (TouchC w1 base) w1 w2) : Turn (TouchC w base) w w2 := by
  refine ⟨ht.os.trans hb.os, ht.tape.trans hb.tape, ht.output.trans hb.output, Nat.le_trans hb.size ht.size, fun k hk hn => (ht.block k (Nat.lt_of_lt_of_le hk hb.size) (fun q => hn ?_)).trans (hb.block k hk)⟩
  obtain ⟨q1, cs, q2⟩ := q
  refine ⟨q1, cs, ?_⟩
  rcases q2 with q2 | q2
  · exact .inl ((hb.block k hk).symm.trans q2)
  · exact .inr ((hb.block k hk).symm.trans q2)
end Go.Proofs.Ytjnloillcgeodaa
/- What a node has that another one has not, said plainly. No condition. -/
namespace Go.Proofs.Ytjnloillcgeodaa
open Go.RowKit Go.Joins

/-- A version put at its place among others, by tags. -/
def insL (us : List V) (v : V) : List V := us.takeWhile (fun x => lessB x.t x.u v.t v.u) ++ v :: us.dropWhile (fun x => lessB x.t x.u v.t v.u)
/-- What of the first slots is later in one store than in another, by tags. -/
def lackN (xs ys : List V) : Nat → List V
  | 0 => []
  | i + 1 => match xs[i]?, ys[i]? with
    | some x, some y => if lessB y.t y.u x.t x.u = true then insL (lackN xs ys i) x else lackN xs ys i
    | _, _ => lackN xs ys i
/-- How far a version goes. -/
def InsAt (us : List V) (v : V) (p : Nat) : Prop := p ≤ us.length ∧ (∀ (j : Nat) x, j < p → us[j]? = some x → lessB x.t x.u v.t v.u = true) ∧ (∀ x, us[p]? = some x → lessB x.t x.u v.t v.u = false)
theorem insL_at : ∀ {us : List V} {v : V} {p : Nat}, InsAt us v p → insL us v = us.take p ++ v :: us.drop p
  | [], v, p, ⟨h0, _, _⟩ => by
    have : p = 0 := by simpa using h0
    subst this
    rfl
  | x :: r, v, 0, ⟨_, _, h2⟩ => by
    have := h2 x rfl
    simp [insL, this]
  | x :: r, v, p + 1, ⟨h0, h1, h2⟩ => by
    have hx := h1 0 x (by omega) rfl
    have ih := insL_at (us := r) (v := v) (p := p) ⟨by simpa using h0, fun j y hj hy => h1 (j + 1) y (by omega) (by simpa using hy), fun y hy => h2 y (by simpa using hy)⟩
    unfold insL at ih ⊢
    simp only [List.takeWhile_cons, List.dropWhile_cons, hx, if_true, List.cons_append, List.take_succ_cons, List.drop_succ_cons]
    rw [ih]
theorem insL_cut : ∀ (us : List V) (v : V), ∃ p, InsAt us v p
  | [], v => ⟨0, Nat.le_refl _, fun j x hj => by omega, fun x hx => by simp at hx⟩
  | x :: r, v => by
    cases hb : lessB x.t x.u v.t v.u
    · exact ⟨0, Nat.zero_le _, fun j x hj => by omega, fun y hy => by
        have : x = y := by simpa using hy
        subst this
        exact hb⟩
    · obtain ⟨p, h0, h1, h2⟩ := insL_cut r v
      refine ⟨p + 1, by simpa using h0, fun j y hj hy => ?_, fun y hy => h2 y (by simpa using hy)⟩
      cases j with
      | zero =>
        have : x = y := by simpa using hy
        subst this
        exact hb
      | succ j => exact h1 j y (by omega) (by simpa using hy)
theorem insL_len (us : List V) (v : V) : (insL us v).length = us.length + 1 := by
  obtain ⟨p, hp⟩ := insL_cut us v
  have := hp.1
  rw [insL_at hp, List.length_append, List.length_cons, List.length_take, List.length_drop]
  omega
theorem ins_get {us : List V} {v : V} {p : Nat} (hp : p ≤ us.length) {i : Nat} {y : V} (h : (us.take p ++ v :: us.drop p)[i]? = some y) : (i < p ∧ us[i]? = some y) ∨ (i = p ∧ y = v) ∨ (p < i ∧ us[i - 1]? = some y) := by
  have hl : (us.take p).length = p := by rw [List.length_take]; omega
  rcases Nat.lt_trichotomy i p with h1 | h1 | h1
  · rw [List.getElem?_append_left (by omega), List.getElem?_take_of_lt h1] at h
    exact .inl ⟨h1, h⟩
  · subst h1
    rw [List.getElem?_append_right (by omega), hl, Nat.sub_self] at h
    exact .inr (.inl ⟨rfl, by simpa using h.symm⟩)
  · rw [List.getElem?_append_right (by omega), hl] at h
    obtain ⟨q, hq⟩ : ∃ q, i - p = q + 1 := ⟨i - p - 1, by omega⟩
    rw [hq, List.getElem?_cons_succ, List.getElem?_drop] at h
    exact .inr (.inr ⟨h1, by rw [show i - 1 = p + q by omega]; exact h⟩)
theorem ins_at {us : List V} {v : V} {p : Nat} (hp : p ≤ us.length) (i : Nat) : (us.take p ++ v :: us.drop p)[i]? = if i < p then us[i]? else if i = p then some v else us[i - 1]? := by
  have hl : (us.take p).length = p := by rw [List.length_take]; omega
  rcases Nat.lt_trichotomy i p with h1 | h1 | h1
  · rw [if_pos h1, List.getElem?_append_left (by omega), List.getElem?_take_of_lt h1]
  · subst h1
    rw [if_neg (by omega), if_pos rfl, List.getElem?_append_right (by omega), hl, Nat.sub_self]
    rfl
  · rw [if_neg (by omega), if_neg (by omega), List.getElem?_append_right (by omega), hl]
    obtain ⟨q, hq⟩ : ∃ q, i - p = q + 1 := ⟨i - p - 1, by omega⟩
    rw [hq, List.getElem?_cons_succ, List.getElem?_drop, show i - 1 = p + q by omega]
theorem ll_ins {us vs : List V} {u v : V} {p : Nat} (h : LL us vs) (hp : p ≤ us.length) (hv : V.like u v) : LL (us.take p ++ u :: us.drop p) (vs.take p ++ v :: vs.drop p) := by
  have hp' : p ≤ vs.length := by rw [← h.1]; exact hp
  refine ⟨by simp only [List.length_append, List.length_cons, List.length_take, List.length_drop]; have := h.1; omega, fun i x y hx hy => ?_⟩
  rw [ins_at hp] at hx
  rw [ins_at hp'] at hy
  by_cases h1 : i < p
  · rw [if_pos h1] at hx hy
    exact h.2 i x y hx hy
  · rw [if_neg h1] at hx hy
    by_cases h2 : i = p
    · rw [if_pos h2] at hx hy
      injection hx with hx
      injection hy with hy
      subst hx hy
      exact hv
    · rw [if_neg h2] at hx hy
      exact h.2 (i - 1) x y hx hy
theorem insAt_like {us vs : List V} {u v : V} {p : Nat} (h : LL us vs) (hv : V.like u v) (hp : InsAt us u p) : InsAt vs v p := by
  have key : ∀ (j : Nat) y, vs[j]? = some y → ∃ x, us[j]? = some x ∧ lessB x.t x.u u.t u.u = lessB y.t y.u v.t v.u := fun j y hy => by
    obtain ⟨x, hx⟩ : ∃ x, us[j]? = some x := ⟨_, List.getElem?_eq_getElem (by rw [h.1]; exact (List.getElem?_eq_some_iff.1 hy).1)⟩
    have hl := h.2 j x y hx hy
    exact ⟨x, hx, by rw [hl.2.1, hl.2.2.1, hv.2.1, hv.2.2.1]⟩
  refine ⟨by rw [← h.1]; exact hp.1, fun j y hj hy => ?_, fun y hy => ?_⟩
  · obtain ⟨x, hx, e⟩ := key j y hy
    rw [← e]
    exact hp.2.1 j x hj hx
  · obtain ⟨x, hx, e⟩ := key p y hy
    rw [← e]
    exact hp.2.2 x hx
theorem insL_like {us vs : List V} {u v : V} (h : LL us vs) (hv : V.like u v) : LL (insL us u) (insL vs v) := by
  obtain ⟨p, hp⟩ := insL_cut us u
  rw [insL_at hp, insL_at (insAt_like h hv hp)]
  exact ll_ins h hp.1 hv
theorem lackN_len (xs ys : List V) : ∀ i, (lackN xs ys i).length ≤ i
  | 0 => Nat.le_refl _
  | i + 1 => by
    have ih := lackN_len xs ys i
    unfold lackN
    split
    · split
      · rw [insL_len]; omega
      · omega
    · omega
theorem lackN_yes {xs ys : List V} {i : Nat} {x y : V} (hx : xs[i]? = some x) (hy : ys[i]? = some y) (h : lessB y.t y.u x.t x.u = true) : lackN xs ys (i + 1) = insL (lackN xs ys i) x := by
  rw [lackN, hx, hy]
  simp only [h, if_true]
theorem lackN_not {xs ys : List V} {i : Nat} {x y : V} (hx : xs[i]? = some x) (hy : ys[i]? = some y) (h : lessB y.t y.u x.t x.u = false) : lackN xs ys (i + 1) = lackN xs ys i := by
  rw [lackN, hx, hy]
  simp only [h]
  rfl
/-- A row with one version more among the others: the causes of these stay where they are. -/
theorem CRow.ins {base : Nat} {wr w2 : World} {x x' : Value} {us : List V} {v : V} {B n p : Nat} (h : CRow base wr x us) (hp : p ≤ us.length) (hb : Below wr.heap.size wr w2) (hB : wr.heap.size ≤ B) (ho : Own1 w2 B w2.heap.size v)
    (hn : n = us.length + 1) (hown : w2.ownsRow base 32 6 x' n (flat6 (us.take p ++ v :: us.drop p))) : CRow base w2 x' (us.take p ++ v :: us.drop p) := by
  have zb := h.lo
  have z1 := hb.size
  have hl : (us.take p ++ v :: us.drop p).length = us.length + 1 := by
    simp only [List.length_append, List.length_cons, List.length_take, List.length_drop]
    omega
  have hap : ∀ (i : Nat) y, us[i]? = some y → y.ts ≠ [] → v.ts ≠ [] → y.a ≠ v.a := by
    intro i y hy hn hn'
    rcases h.own i y hy with h0 | ⟨g1, _, e1, _, q1, _⟩
    · exact absurd h0 hn
    · rcases ho with h0 | ⟨g2, _, e2, q2, _⟩
      · exact absurd h0 hn'
      · rw [e1, e2]
        intro e
        injection e with e
        injection e with e
        omega
  subst hn
  refine ⟨by rw [hl]; exact hown, fun i y hy => ?_, fun i j y y' hne hy hy' hn hn' => ?_, by omega⟩
  · rcases ins_get hp hy with ⟨_, hq⟩ | ⟨_, rfl⟩ | ⟨_, hq⟩
    · exact ((h.own i y hq).on hb).wide z1
    · exact ho.low (by omega)
    · exact ((h.own _ y hq).on hb).wide z1
  · rcases ins_get hp hy with ⟨q1, hq⟩ | ⟨q1, e1⟩ | ⟨q1, hq⟩ <;> rcases ins_get hp hy' with ⟨q2, hq'⟩ | ⟨q2, e2⟩ | ⟨q2, hq'⟩
    · exact h.apart i j y y' hne hq hq' hn hn'
    · rw [e2]; exact hap i y hq hn (e2 ▸ hn')
    · exact h.apart i (j - 1) y y' (by omega) hq hq' hn hn'
    · rw [e1]; exact fun e => hap j y' hq' hn' (e1 ▸ hn) e.symm
    · omega
    · rw [e1]; exact fun e => hap (j - 1) y' hq' hn' (e1 ▸ hn) e.symm
    · exact h.apart (i - 1) j y y' (by omega) hq hq' hn hn'
    · rw [e2]; exact hap (i - 1) y hq hn (e2 ▸ hn')
    · exact h.apart (i - 1) (j - 1) y y' (by omega) hq hq' hn hn'
theorem owns_typed {w : World} {base size g n c : Nat} {e : TypeId} {zs : List Value} (h : w.ownsRow base e size (.slice (some ⟨g, 0, none⟩) n c) n zs) : ∃ cs, Blk w g e cs := by
  rcases h.2 with ⟨q, _⟩ | ⟨g', cap, cr, q, _, h2, _⟩
  · cases q
  · injection q with q
    injection q with q
    injection q with q
    subst q
    exact ⟨cr, h2⟩
theorem tk_grown {w w' : World} {base size g n c : Nat} {zs : List Value} (h : w.ownsRow base 32 size (.slice (some ⟨g, 0, none⟩) n c) n zs) (hg : w.grownBy w' (some g)) : Tk w w' := .grown hg fun r hr => by
  injection hr with hr
  subst hr
  obtain ⟨cs, hc⟩ := owns_typed h
  exact ⟨_, _, hc, ver_ne_tag⟩
theorem flat6_append (us vs : List V) : flat6 (us ++ vs) = flat6 us ++ flat6 vs := by simp [flat6]
theorem flat6_cons (v : V) (us : List V) : flat6 (v :: us) = cells6 v ++ flat6 us := by simp [flat6]
/-- The cells of the first, and of the last, of a row. -/
theorem CRow.newsTake {base : Nat} {w : World} {g n c p : Nat} {us : List V} (h : CRow base w (.slice (some ⟨g, 0, none⟩) n c) us) (hn : n = us.length) : ∀ (j : Nat) u, (flat6 (us.take p))[j]? = some u → w.cell? ((⟨g, 0, none⟩ : Addr).add j) = some u := fun j u hu => by
  subst hn
  have hj := (List.getElem?_eq_some_iff.1 hu).1
  rw [flat6_len, List.length_take] at hj
  have hadd : (⟨g, 0, none⟩ : Addr).add j = ⟨g, j, none⟩ := by unfold Addr.add; split <;> simp_all
  rw [hadd, World.ownsRow.cellAt (n := us.length) h.row j (by omega)]
  have e : flat6 us = flat6 (us.take p) ++ flat6 (us.drop p) := by rw [← flat6_append, List.take_append_drop]
  rw [e, List.getElem?_append_left (by rw [flat6_len, List.length_take]; exact hj)]
  exact hu
theorem CRow.newsDrop {base : Nat} {w : World} {g n c p : Nat} {us : List V} (h : CRow base w (.slice (some ⟨g, 0, none⟩) n c) us) (hn : n = us.length) : ∀ (j : Nat) u, (flat6 (us.drop p))[j]? = some u → w.cell? ((⟨g, p * 6, none⟩ : Addr).add j) = some u := fun j u hu => by
  subst hn
  have hj := (List.getElem?_eq_some_iff.1 hu).1
  rw [flat6_len, List.length_drop] at hj
  have hadd : (⟨g, p * 6, none⟩ : Addr).add j = ⟨g, p * 6 + j, none⟩ := by unfold Addr.add; split <;> simp_all
  rw [hadd, World.ownsRow.cellAt (n := us.length) h.row (p * 6 + j) (by omega)]
  have e : flat6 us = flat6 (us.take p) ++ flat6 (us.drop p) := by rw [← flat6_append, List.take_append_drop]
  have hl : (flat6 (us.take p)).length = p * 6 := by rw [flat6_len, List.length_take]; omega
  rw [e, List.getElem?_append_right (by omega), hl]
  rw [show p * 6 + j - p * 6 = j by omega]
  exact hu
theorem CRow.tagCells {base : Nat} {w : World} {g n c p : Nat} {us : List V} {y : V} (h : CRow base w (.slice (some ⟨g, 0, none⟩) n c) us) (hn : n = us.length) (hy : us[p]? = some y) : w.cell? ⟨g, p * 6 + 1, none⟩ = some (.int .i64 y.t) ∧ w.cell? ⟨g, p * 6 + 2, none⟩ = some (.int .i64 y.u) := by
  subst hn
  have hp := (List.getElem?_eq_some_iff.1 hy).1
  refine ⟨?_, ?_⟩
  · rw [World.ownsRow.cellAt (n := us.length) h.row (p * 6 + 1) (by omega), flat6_at us p y 1 hy (by omega)]
    rfl
  · rw [World.ownsRow.cellAt (n := us.length) h.row (p * 6 + 2) (by omega), flat6_at us p y 2 hy (by omega)]
    rfl
theorem CRow.caps {base : Nat} {w : World} {g n c : Nat} {us : List V} (h : CRow base w (.slice (some ⟨g, 0, none⟩) n c) us) : us.length ≤ c ∧ g < w.heap.size := by
  rcases h.row.2 with ⟨q, _⟩ | ⟨g', cap, cr, q, _, h2, h3, _⟩
  · cases q
  · injection q with q1 q2 q3
    injection q1 with q1
    injection q1 with q1
    subst q1 q3
    exact ⟨h3, Blk.inside (show Blk w g 32 cr from h2)⟩
end Go.Proofs.Ytjnloillcgeodaa
