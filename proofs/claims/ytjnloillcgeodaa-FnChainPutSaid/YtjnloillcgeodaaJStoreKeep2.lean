/- What ChainPut answers, said plainly; contracts of whether there is room, in the program and in the model. -/
import Derived.Test.YtjnloillcgeodaaJChainAdd
import Derived.Test.YtjnloillcgeodaaJStoreAdd
namespace Go.Proofs.Ytjnloillcgeodaa
open Go.RowKit Go.Joins
attribute [local go_sem ↓] Go.wp_at_zero Go.wp_at_succ

/-- Whether there is room for one more at the head. -/
def roomB (ns : List Nd) : Bool := match ns[0]? with | some n => decide (n.ws.length < 6) | none => false
/-- What ChainPut answers. -/
def putN (ns : List Nd) (v : V) : List Nd := if chainB ns = true ∧ verV v = true then (if roomB ns = true then addN ns 0 v else ns) else []
def putK (ns : List Nd) (v : V) : Bool := chainB ns && verV v && roomB ns
theorem putN_no {ns : List Nd} {v : V} (h : ¬ (chainB ns = true ∧ verV v = true)) : putN ns v = [] ∧ putK ns v = false := by
  refine ⟨by unfold putN; rw [if_neg h], ?_⟩
  unfold putK
  cases h1 : chainB ns <;> cases h2 : verV v <;> simp_all
theorem putN_full {ns : List Nd} {v : V} (h1 : chainB ns = true) (h2 : verV v = true) (h3 : roomB ns = false) : putN ns v = ns ∧ putK ns v = false := by
  refine ⟨by unfold putN; rw [if_pos ⟨h1, h2⟩, if_neg (by rw [h3]; decide)], by unfold putK; rw [h3]; simp⟩
theorem putN_yes {ns : List Nd} {v : V} (h1 : chainB ns = true) (h2 : verV v = true) (h3 : roomB ns = true) : putN ns v = addN ns 0 v ∧ putK ns v = true := by
  refine ⟨by unfold putN; rw [if_pos ⟨h1, h2⟩, if_pos h3], by unfold putK; rw [h1, h2, h3]; rfl⟩
theorem roomB_like {us ns : List Nd} (h : NL us ns) : roomB us = roomB ns := by
  unfold roomB
  cases hx : us[0]? with
  | none => rw [nl_none h hx]
  | some n =>
    obtain ⟨m, hm, hl⟩ := nl_at h hx
    rw [hm]
    simp only [hl.2.2.1]
theorem putN_like {us ns : List Nd} {v u : V} (h : NL us ns) (hv : V.like v u) : NL (putN us v) (putN ns u) ∧ putK us v = putK ns u := by
  refine ⟨?_, by unfold putK; rw [chainB_like h, verV_like hv, roomB_like h]⟩
  unfold putN
  rw [chainB_like h, verV_like hv, roomB_like h]
  split
  · split
    · exact addN_like h hv 0
    · exact h
  · exact ⟨rfl, fun i x y hx => by simp at hx⟩
theorem addN_fine {ns : List Nd} {v : V} {k : Nat} (h : FineN ns) (hv : verV v = true) (hr : ∀ n, ns[k]? = some n → k + 1 = ns.length ∨ n.ws.length < 6) : FineN (addN ns k v) := by
  unfold addN
  cases hx : ns[k]? with
  | none => exact h
  | some n =>
    refine ⟨by simp only [List.length_set]; exact h.1, fun i y hy => ?_⟩
    simp only at hy
    have hkl := (List.getElem?_eq_some_iff.1 hx).1
    by_cases e : i = k
    · subst e
      rw [List.getElem?_set_self hkl] at hy
      injection hy with hy
      subst hy
      refine addNd_ok (h.2 i n hx) hv ?_
      rcases hr n hx with q | q
      · exact .inl (decide_eq_true q)
      · exact .inr q
    · rw [List.getElem?_set_ne (fun e' => e e'.symm)] at hy
      exact h.2 i y hy
theorem putN_fine (ns : List Nd) (v : V) : FineN (putN ns v) := by
  unfold putN
  split
  · rename_i hc
    obtain ⟨⟨h1, h4⟩, hB, _⟩ := chainB_parts hc.1
    split
    · rename_i hr
      refine addN_fine ⟨h4, hB⟩ hc.2 (fun n hn => ?_)
      unfold roomB at hr
      rw [hn] at hr
      exact .inr (of_decide_eq_true hr)
    · exact ⟨h4, hB⟩
  · exact ⟨by simp, fun i n hi => by simp at hi⟩
set_option maxHeartbeats 1000000 in
theorem linkFull_any (B L G c k nl : Nat) (ns : List Nd) (cur : Array Value) (n : Nd) (w : World) (hC : Cg w G ns cur) (hL : LinkAt w B L (some ⟨G, 0, none⟩) G nl c k) (hn : ns[k]? = some n) :
    Calls Try.prog 31 #[.pointer (some ⟨L, 0, none⟩)] w fun e w' => e = .returned (.bool (decide (n.ws.length ≥ 6))) ∧ w = w' := by
  obtain ⟨b1, b2, -, -, -, hL1, -, -⟩ := hL
  have q0 := hL1.two.1
  have n1 : w.cell? ⟨G, k * 2 + 1, none⟩ = some (.slice n.wa n.ws.length n.wc) := (hC.blk.at _).trans (hC.at' k n hn).2
  clear hC hL1
  by_cases h6 : n.ws.length ≥ 6
  · have z6 : (n.ws.length : Int) ≥ 6 := by omega
    rw [decide_eq_true h6]
    clear h6
    go_enter Try.func31, Try.ntmps31
    go_wp2
    go_ret
    exact ⟨rfl, rfl⟩
  · have z6 : ¬ ((n.ws.length : Int) ≥ 6) := by omega
    rw [decide_eq_false h6]
    clear h6
    go_enter Try.func31, Try.ntmps31
    go_wp2
    go_ret
    exact ⟨rfl, rfl⟩
set_option maxHeartbeats 1000000 in
theorem l3Room_any (G c nl : Nat) (ns : List Nd) (cur : Array Value) (n : Nd) (w : World) (hC : Cg w G ns cur) (hn : ns[0]? = some n) (hl : 0 < nl) :
    Calls Try.prog 35 #[.agg #[.slice (some ⟨G, 0, none⟩) nl c]] w fun e w' => e = .returned (.bool (decide (n.ws.length < 6))) ∧ Below w.heap.size w w' := by
  have L0 := below_alloc1 w (.cells #[.slice (some ⟨G, 0, none⟩) nl c] 25)
  have HC := hC.on L0
  have n1 := (HC.blk.at (0 * 2 + 1)).trans (HC.at' 0 n hn).2
  simp only [Nat.zero_mul, Nat.zero_add] at n1
  have i2 : (0 : Int) < (nl : Int) := by omega
  clear hC HC
  by_cases h6 : n.ws.length < 6
  · have z6 : (n.ws.length : Int) < 6 := by omega
    rw [decide_eq_true h6]
    clear h6
    go_enter Try.func35, Try.ntmps35
    go_wp2
    go_ret
    exact ⟨rfl, L0⟩
  · have z6 : ¬ ((n.ws.length : Int) < 6) := by omega
    rw [decide_eq_false h6]
    clear h6
    go_enter Try.func35, Try.ntmps35
    go_wp2
    go_ret
    exact ⟨rfl, L0⟩
end Go.Proofs.Ytjnloillcgeodaa
/- One node of a row of nodes: a version put into its store, a version more that waits. No condition. -/
namespace Go.Proofs.Ytjnloillcgeodaa
open Go.RowKit Go.Joins

/-- A store of what stands there already. -/
theorem below_same {w : World} {g i : Nat} {T : TypeId} {cs : Array Value} {u : Value} (hb : Blk w g T cs) (hc : cs[i]? = some u) : Below w.heap.size w (w.setCell ⟨g, i, none⟩ u) := by
  have h1 := hb.put i u
  have e : cs.setIfInBounds i u = cs := by
    apply Array.ext_getElem?
    intro j
    rw [Array.getElem?_setIfInBounds]
    split
    · rename_i e
      subst e
      rw [hc]
      have hl := (Array.getElem?_eq_some_iff.1 hc).1
      simp [hl]
    · rfl
  rw [e] at h1
  refine ⟨rfl, rfl, rfl, by simp [World.setCell], fun k hk => ?_⟩
  by_cases ek : k = g
  · subst ek
    exact Eq.trans h1 (Eq.symm hb)
  · exact Below.heap_setCell w _ u k ek
theorem flatN_set : ∀ {us : List Nd} {k : Nat} {n n' : Nd}, us[k]? = some n → cellsN n' = cellsN n → flatN (us.set k n') = flatN us
  | [], k, n, n', h, _ => by simp at h
  | x :: r, 0, n, n', h, hc => by
    simp at h
    subst h
    simp [flatN, hc]
  | x :: r, k + 1, n, n', h, hc => by
    have := flatN_set (us := r) (k := k) (n := n) (n' := n') (by simpa using h) hc
    simp only [flatN, List.set_cons_succ, List.flatMap_cons] at *
    rw [this]
/-- A version put into the store of a node. -/
theorem GRow.setStore {base : Nat} {wr w' : World} {x : Value} {Gs k kn : Nat} {us : List Nd} {n : Nd} {v' : V} {cur' : Array Value} (h : GRow base wr x us) (hk : us[k]? = some n) (hsa : n.sa = some ⟨Gs, 0, none⟩) (hne : n.ss ≠ [])
    (hv : Own1 w' wr.heap.size w'.heap.size v') (hO : ORow w' base w'.heap.size Gs (n.ss.set kn v') cur') (ht : Turn (fun g => g = Gs) wr w') : GRow base w' x (us.set k ⟨n.sa, n.sc, n.ss.set kn v', n.wa, n.wc, n.ws⟩) := by
  have hGs : FootS n.sa n.ss Gs := ⟨hne, Gs, hsa, .inl rfl⟩
  have hfoot : ∀ g, FootS n.sa (n.ss.set kn v') g → FootS n.sa n.ss g ∨ wr.heap.size ≤ g := fun g hg => by
    obtain ⟨_, G', e, hf⟩ := hg
    rw [hsa] at e
    injection e with e
    injection e with e
    subst e
    rcases hf with rfl | ⟨i, y, hi, hn, ha⟩
    · exact .inl hGs
    · by_cases e : i = kn
      · subst e
        have hl := (List.getElem?_eq_some_iff.1 hi).1
        rw [List.length_set] at hl
        rw [List.getElem?_set_self hl] at hi
        injection hi with hi
        subst hi
        rcases hv with q | ⟨g', _, e1, q1, _⟩
        · exact absurd q hn
        · rw [ha] at e1
          injection e1 with e1
          injection e1 with e1
          exact .inr (by omega)
      · rw [List.getElem?_set_ne (fun e' => e e'.symm)] at hi
        exact .inl ⟨hne, Gs, hsa, .inr ⟨i, y, hi, hn, ha⟩⟩
  refine h.set hk ht ?_ (.inr ⟨Gs, cur', hsa, hO⟩) ?_ (fun g h1 h2 => ?_) (fun g e => .inl (.inl (e ▸ hGs))) (fun g hg => ?_)
  · rw [flatN_set hk (by simp [cellsN])]
    refine ⟨h.row.1, ?_⟩
    rcases h.row.2 with q | ⟨g, cap, cr, h1, h2, h3, h4⟩
    · exact .inl q
    · refine .inr ⟨g, cap, cr, h1, h2, Blk.turned (show Blk wr g 45 cr from h3) ht (fun e => ?_), h4⟩
      obtain ⟨T, cs, b1, b2, _⟩ := (h.store k n hk).typed hGs
      subst e
      exact b2 (blk_one b1 (show Blk wr g 45 cr from h3))
  · exact (h.own k n hk).turned ht (fun g hg e => h.two k n hk Gs hGs (e ▸ .inr hg)) (fun i y hi g hg _ hn e => h.two k n hk Gs hGs (e ▸ .inl ((h.own k n hk).tagFoot hi hn hg)))
  · rcases hfoot g h1 with q | q
    · exact h.two k n hk g q h2
    · have := h.foot hk (g := g) (.inr h2)
      omega
  · rcases hg with hg | hg
    · rcases hfoot g hg with q | q
      · exact .inl (.inl q)
      · exact .inr q
    · exact .inl (.inr hg)
theorem flatN_set2 : ∀ {us : List Nd} {k : Nat} {n n' : Nd} {u : Value}, us[k]? = some n → cellsN n' = (cellsN n).set 1 u → flatN (us.set k n') = (flatN us).set (k * 2 + 1) u
  | [], k, n, n', u, h, _ => by simp at h
  | x :: r, 0, n, n', u, h, hc => by
    simp at h
    subst h
    simp only [flatN, List.set_cons_zero, List.flatMap_cons, hc, Nat.zero_mul, Nat.zero_add]
    rw [List.set_append_left _ _ (by simp [cellsN])]
  | x :: r, k + 1, n, n', u, h, hc => by
    have ih := flatN_set2 (us := r) (k := k) (n := n) (n' := n') (u := u) (by simpa using h) hc
    have e : flatN (x :: r) = cellsN x ++ flatN r := by simp [flatN]
    have e' : flatN ((x :: r).set (k + 1) n') = cellsN x ++ flatN (r.set k n') := by simp [flatN]
    have l2 : (cellsN x).length = 2 := rfl
    rw [e, e', ih, List.set_append_right _ _ (by omega), l2]
    congr 2
    omega
/-- One version more waits at a node. -/
theorem GRow.setWait {base : Nat} {wr w1 w2 : World} {G xc k g cap : Nat} {us : List Nd} {n : Nd} {v' : V} (h : GRow base wr (.slice (some ⟨G, 0, none⟩) us.length xc) us) (hk : us[k]? = some n) (hb : Below wr.heap.size wr w1) (hv : Own1 w1 wr.heap.size w1.heap.size v')
    (hown : w2.ownsRow base 32 6 (.slice (some ⟨g, 0, none⟩) (n.ws.length + 1) cap) (n.ws.length + 1) (flat6 n.ws ++ cells6 v')) (hg : w1.grownBy w2 (Value.slice n.wa n.ws.length n.wc).ownBlock) (hat : (Value.slice n.wa n.ws.length n.wc).ownBlock = some g ∨ wr.heap.size ≤ g) :
    GRow base (w2.setCell ⟨G, k * 2 + 1, none⟩ (.slice (some ⟨g, 0, none⟩) (n.ws.length + 1) cap)) (.slice (some ⟨G, 0, none⟩) us.length xc) (us.set k ⟨n.sa, n.sc, n.ss, some ⟨g, 0, none⟩, cap, n.ws ++ [v']⟩) := by
  have hC2 := (h.own k n hk).push hb (Nat.le_refl _) hv hown hg
  have hT1 : Turn (fun y => (Value.slice n.wa n.ws.length n.wc).ownBlock = some y ∨ y = G) wr w2 := (Turn.below hb).trans (Turn.of hg (fun y e => .inl e))
  have hT := hT1.set (p := ⟨G, k * 2 + 1, none⟩) (.inr rfl) (.slice (some ⟨g, 0, none⟩) (n.ws.length + 1) cap)
  have hGo : ∀ y, (Value.slice n.wa n.ws.length n.wc).ownBlock = some y → y ≠ G := fun y e e' => by
    subst e'
    obtain ⟨cs, b1, _⟩ := (h.own k n hk).typed y e
    obtain ⟨cs', b2, _⟩ := h.typed y rfl
    exact node_ne_ver (blk_one b2 b1)
  have hfw : ∀ y, FootW ⟨n.sa, n.sc, n.ss, some ⟨g, 0, none⟩, cap, n.ws ++ [v']⟩ y → FootW n y ∨ wr.heap.size ≤ y := fun y hy => by
    have hgg : FootW n g ∨ wr.heap.size ≤ g := hat.elim (fun q => .inl (.inr q)) .inr
    rcases hy with ⟨_, G', e, hf⟩ | e
    · injection e with e
      injection e with e
      subst e
      rcases hf with rfl | ⟨i, z, hi, hn, ha⟩
      · exact hgg
      · rcases snoc_get rfl i z hi with ⟨_, rfl⟩ | ⟨_, hq⟩
        · rcases hv with q | ⟨g', _, e1, q1, _⟩
          · exact absurd q hn
          · rw [ha] at e1
            injection e1 with e1
            injection e1 with e1
            exact .inr (by omega)
        · exact .inl (.inl ((h.own k n hk).tagFoot hq hn ha))
    · simp only [Value.ownBlock] at e
      injection e with e
      subst e
      exact hgg
  refine h.set hk hT ?_ ?_ ?_ (fun y h1 h2 => ?_) (fun y e => ?_) (fun y hy => ?_)
  · rw [flatN_set2 hk (u := .slice (some ⟨g, 0, none⟩) (n.ws.length + 1) cap) (by simp [cellsN])]
    refine ⟨by rw [List.length_set]; exact h.row.1, ?_⟩
    rcases h.row.2 with ⟨q, _⟩ | ⟨G', cap', cr, h1, h2, h3, h4, h5, h6, h7⟩
    · cases q
    · injection h1 with h1 _ h1'
      injection h1 with h1
      injection h1 with h1
      subst h1 h1'
      have B2 : Blk w2 G 45 cr := ((show Blk wr G 45 cr from h3).on hb).kept hg (fun e => hGo G e rfl)
      refine .inr ⟨G, xc, _, rfl, h2, B2.put (k * 2 + 1) _, h4, h5, by simpa using h6, ?_⟩
      rw [Array.toList_setIfInBounds, List.take_set, h7]
  · exact ((h.store k n hk).turnF hT (fun y hf hp => by
      rcases hp with hp | hp
      · exact h.two k n hk y hf (.inr hp)
      · obtain ⟨T, cs, b1, b2, _⟩ := (h.store k n hk).typed hf
        obtain ⟨cs', b3, _⟩ := h.typed G rfl
        subst hp
        exact b2 (blk_one b1 b3))).wide hT.size
  · have e1 : (n.ws ++ [v']).length = n.ws.length + 1 := by simp
    simp only [e1]
    exact hC2.turnedT (P := fun y => y = G) ((Turn.refl (fun y => y = G) w2).set (p := ⟨G, k * 2 + 1, none⟩) rfl _) (fun y e => by
      obtain ⟨cs', b3, _⟩ := h.typed G rfl
      subst e
      exact ⟨_, cs', (b3.on hb).kept hg (fun e => hGo y e rfl), node_ne_ver, node_ne_tag⟩)
  · rcases hfw y h2 with q | q
    · exact h.two k n hk y h1 q
    · have := h.foot hk (g := y) (.inl h1)
      omega
  · rcases e with e | e
    · exact .inl (.inr (.inr e))
    · exact .inr (by rw [e]; rfl)
  · rcases hy with hy | hy
    · exact .inl (.inl hy)
    · rcases hfw y hy with q | q
      · exact .inl (.inr q)
      · exact .inr q
end Go.Proofs.Ytjnloillcgeodaa
/- The model lets a later version into a row: which one stands there then. Condition: a row of four, a key from 0 to 3. -/
namespace Go.Proofs.Ytjnloillcgeodaa
open Go.RowKit Go.Joins
attribute [local go_sem ↓] Go.wp_at_zero Go.wp_at_succ

/-- What letting a later version in leaves: a copy of it in its place, the others as they were. -/
def PutL (w : World) (B G : Nat) (us : List V) (v : V) (kn : Nat) (x : Value) (e : Ending) (w' : World) : Prop :=
  ∃ (v' : V) (cur' : Array Value), e = .returned x ∧ V.like v' v ∧ Own1 w' w.heap.size w'.heap.size v' ∧ ORow w' B w'.heap.size G (us.set kn v') cur' ∧ Turn (fun g => g = G) w w'
set_option maxRecDepth 100000 in
set_option maxHeartbeats 1000000 in
theorem l2Add_less (B U G cx : Nat) (us : List V) (cur : Array Value) (v y : V) (kn : Nat) (w : World) (hR : ORow w B U G us cur) (hU : U ≤ w.heap.size) (h4 : us.length = 4) (hk : v.k = (kn : Int)) (hk4 : kn < 4) (hn : v.ts.length ≤ 1048576) (ht : Tg w w.heap.size v.a v.ts) (hy : us[kn]? = some y) (hless : lessB y.t y.u v.t v.u = true) :
    Calls Try.prog 82 #[.agg #[.slice (some ⟨G, 0, none⟩) 4 cx], .agg (verC v.k v.t v.u v.a v.ts.length v.c v.s v.g)] w (PutL w B G us v kn (.agg #[.slice (some ⟨G, 0, none⟩) 4 cx])) := by
  have hkt : v.k.toNat = kn := by rw [hk]; simp
  have HY := hide hy
  obtain ⟨vk, vt, vu, va, vc, vts, vs, vg⟩ := v
  simp only at hk hkt hn ht hless ⊢
  subst hk
  have CLA : ∀ W : World, Below w.heap.size w W → Calls Try.prog 80 #[.agg (verC (kn : Int) vt vu va vts.length vc vs vg)] W (Cloned W ⟨(kn : Int), vt, vu, va, vc, vts, vs, vg⟩) := fun W hb => l2Copy_any ⟨(kn : Int), vt, vu, va, vc, vts, vs, vg⟩ W hn ((ht.on hb).up hb.size)
  have HCL := hide CLA
  clear CLA
  have S0 := (((Inv.start w).box 43 #[.slice (some ⟨G, 0, none⟩) 4 cx]).box 32 (verC (kn : Int) vt vu va vts.length vc vs vg)).box 43 #[.slice none 0 0]
  simp only [World.size_alloc] at S0
  have HR0 := hide (hR.on S0.below)
  obtain ⟨g0, g1, g2, g3, g4, g5⟩ := HR0.out.at' kn y hy
  have c0 := (HR0.out.blk.at (kn * 6)).trans g0
  have c1 := (HR0.out.blk.at (kn * 6 + 1)).trans g1
  have c2 := (HR0.out.blk.at (kn * 6 + 2)).trans g2
  have C1 := hide c1
  have C2 := hide c2
  have hGl := hR.hi
  have HRW := hide hR
  have i1 : (0 : Int) ≤ (kn : Int) := by omega
  have i2 : (kn : Int) < 4 := by omega
  clear g0 g1 g2 g3 g4 g5 hy c0 c1 c2 ht hR hkt
  have HL := hide hless
  clear hless
  go_enter Try.func82, Try.ntmps82
  go_wp2_with fail
  generalize ((w.alloc (.cells #[.slice (some ⟨G, 0, none⟩) 4 cx] 43)).alloc (.cells (verC (kn : Int) vt vu va vts.length vc vs vg) 32)).alloc (.cells #[.slice none 0 0] 43) = W0 at S0 HR0 C1 C2 ⊢
  refine wp_region_noPanic ?_
  refine wp_region_held_drew (S := (fun w' => (w'.cell? ⟨G, kn * 6 + 1, none⟩ = some (.int .i64 y.t) ∧ w'.cell? ⟨G, kn * 6 + 2, none⟩ = some (.int .i64 y.u)) ∧ (w'.cell? ⟨w.heap.size, 0, none⟩ = some (.slice (some ⟨G, 0, none⟩) 4 cx) ∧ w'.cell? ⟨w.heap.size + 1, 0, none⟩ = some (.int .i64 (kn : Int)) ∧ w'.cell? ⟨w.heap.size + 1, 1, none⟩ = some (.int .i64 vt) ∧ w'.cell? ⟨w.heap.size + 1, 2, none⟩ = some (.int .i64 vu)) ∧ Inv w (w.heap.size + 1 + 1 + 1) [(w.heap.size + 1 + 1, 43, #[.slice none 0 0]), (w.heap.size + 1, 32, (verC (kn : Int) vt vu va vts.length vc vs vg)), (w.heap.size, 43, #[.slice (some ⟨G, 0, none⟩) 4 cx])] w')) (by kernel_rfl) (by exact ⟨⟨C1.out, C2.out⟩, ⟨(S0.drew.nth 2 rfl).at 0, (S0.drew.nth 1 rfl).at 0, (S0.drew.nth 1 rfl).at 1, (S0.drew.nth 1 rfl).at 2⟩, S0.drew⟩) (fun hHeld => ?_)
  refine take_run 0 (some 5) (v := ?_) rfl rfl (by kernel_rfl) (by kernel_rfl) (by kernel_rfl) (fun _ _ _ h => h) (by rfl) ?_ hHeld ?_
  rotate_left
  · ((intro w hSw); (try dsimp only at hSw); go_simp <;> with_reducible rfl)
  simp only [Act.put, List.setIfInBounds_toArray, List.set_cons_zero, List.set_cons_succ]
  refine take_run 1 (some 6) (v := ?_) rfl rfl (by kernel_rfl) (by kernel_rfl) (by kernel_rfl) (fun _ _ _ h => h) (by rfl) ?_ hHeld ?_
  rotate_left
  · ((intro w hSw); (try dsimp only at hSw); go_simp <;> with_reducible rfl)
  simp only [Act.put, List.setIfInBounds_toArray, List.set_cons_zero, List.set_cons_succ]
  refine take_run 2 (some 7) (v := ?_) rfl rfl (by kernel_rfl) (by kernel_rfl) (by kernel_rfl) (fun _ _ _ h => h) (by rfl) ?_ hHeld ?_
  rotate_left
  · ((intro w hSw); (try dsimp only at hSw); go_simp <;> with_reducible rfl)
  simp only [Act.put, List.setIfInBounds_toArray, List.set_cons_zero, List.set_cons_succ]
  refine take_run 3 (some 8) (v := ?_) rfl rfl (by kernel_rfl) (by kernel_rfl) (by kernel_rfl) (fun _ _ _ h => h) (by rfl) ?_ hHeld ?_
  rotate_left
  · ((intro w hSw); (try dsimp only at hSw); go_simp <;> with_reducible rfl)
  simp only [Act.put, List.setIfInBounds_toArray, List.set_cons_zero, List.set_cons_succ]
  refine take_run 4 (some 9) (v := ?_) rfl rfl (by kernel_rfl) (by kernel_rfl) (by kernel_rfl) (fun _ _ _ h => h) (by rfl) ?_ hHeld ?_
  rotate_left
  · ((intro w hSw); (try dsimp only at hSw); go_simp <;> with_reducible rfl)
  simp only [Act.put, List.setIfInBounds_toArray, List.set_cons_zero, List.set_cons_succ]
  refine take_run 5 (some 10) (v := ?_) rfl rfl (by kernel_rfl) (by kernel_rfl) (by kernel_rfl) (fun _ _ _ h => h) (by rfl) ?_ hHeld ?_
  rotate_left
  · ((intro w hSw); (try dsimp only at hSw); go_simp <;> with_reducible rfl)
  simp only [Act.put, List.setIfInBounds_toArray, List.set_cons_zero, List.set_cons_succ]
  refine take_run 6 (some 11) (v := ?_) rfl rfl (by kernel_rfl) (by kernel_rfl) (by kernel_rfl) (fun _ _ _ h => h) (by rfl) ?_ hHeld ?_
  rotate_left
  · ((intro w hSw); (try dsimp only at hSw); go_simp <;> with_reducible rfl)
  simp only [Act.put, List.setIfInBounds_toArray, List.set_cons_zero, List.set_cons_succ]
  refine take_run 7 (some 12) (v := ?_) rfl rfl (by kernel_rfl) (by kernel_rfl) (by kernel_rfl) (fun _ _ _ h => h) (by rfl) ?_ hHeld ?_
  rotate_left
  · ((intro w hSw); (try dsimp only at hSw); go_simp <;> with_reducible rfl)
  simp only [Act.put, List.setIfInBounds_toArray, List.set_cons_zero, List.set_cons_succ]
  refine take_run 8 (some 13) (v := ?_) rfl rfl (by kernel_rfl) (by kernel_rfl) (by kernel_rfl) (fun _ _ _ h => h) (by rfl) ?_ hHeld ?_
  rotate_left
  · ((intro w hSw); (try dsimp only at hSw); go_simp <;> with_reducible rfl)
  simp only [Act.put, List.setIfInBounds_toArray, List.set_cons_zero, List.set_cons_succ]
  refine take_one 9 (by kernel_rfl) rfl (fun K hK => ?_)
  go_simp
  ((with_reducible refine (l1Less_any y.t y.u vt vu _).mono ?_); rintro e w1 ⟨rfl, hb1⟩; have HR1 := hide (HRW.out.on (hHeld.2.2.on hb1).below); have tc := HR1.out.at' kn y HY.out)
  try go_wp2_with fail
  refine hK.out _ _ (by exact ⟨⟨(HR1.out.blk.at (kn * 6 + 1)).trans tc.2.1, (HR1.out.blk.at (kn * 6 + 2)).trans tc.2.2.1⟩, ⟨((hHeld.2.2.on hb1).nth 2 rfl).at 0, ((hHeld.2.2.on hb1).nth 1 rfl).at 0, ((hHeld.2.2.on hb1).nth 1 rfl).at 1, ((hHeld.2.2.on hb1).nth 1 rfl).at 2⟩, hHeld.2.2.on hb1⟩) (fun hHeld => ?_)
  clear hK K
  refine wpAnyH_done (by kernel_rfl) ?_ _
  refine NoPanic.normal ?_
  have S1 := hHeld.2.2
  clear hHeld S0 HR0 C1 C2 tc
  rw [HL.out]
  have S1' := S1.top
  have zr := S1.room
  have zb := S1.base
  go_wp2_with fail
  refine wp_region_noPanic ?_
  refine wp_region_held_drew (S := (fun w' => (w'.cell? ⟨w.heap.size, 0, none⟩ = some (.slice (some ⟨G, 0, none⟩) 4 cx) ∧ w'.cell? ⟨w.heap.size + 1, 0, none⟩ = some (.int .i64 (kn : Int)) ∧ w'.cell? ⟨w.heap.size + 1, 1, none⟩ = some (.int .i64 vt) ∧ w'.cell? ⟨w.heap.size + 1, 2, none⟩ = some (.int .i64 vu) ∧ w'.cell? ⟨w.heap.size + 1, 3, none⟩ = some (.slice va vts.length vc) ∧ w'.cell? ⟨w.heap.size + 1, 4, none⟩ = some (.string vs) ∧ w'.cell? ⟨w.heap.size + 1, 5, none⟩ = some (.bool vg)) ∧ (Blk w' w.heap.size 43 #[.slice (some ⟨G, 0, none⟩) 4 cx] ∧ Blk w' (w.heap.size + 1) 32 (verC (kn : Int) vt vu va vts.length vc vs vg) ∧ Blk w' (w.heap.size + 1 + 1) 43 #[.slice none 0 0]) ∧ w1.heap.size ≤ w'.heap.size)) (by kernel_rfl) (by exact ⟨⟨(S1.drew.nth 2 rfl).at 0, (S1.drew.nth 1 rfl).six.1⟩, ⟨S1.drew.nth 2 rfl, S1.drew.nth 1 rfl, S1.drew.nth 0 rfl⟩, Nat.le_refl _⟩) (fun hHeld => ?_)
  refine take_run 0 (some 15) (v := ?_) rfl rfl (by kernel_rfl) (by kernel_rfl) (by kernel_rfl) (fun _ _ _ h => h) (by rfl) ?_ hHeld ?_
  rotate_left
  · ((intro w hSw); (try dsimp only at hSw); go_simp <;> with_reducible rfl)
  simp only [Act.put, List.setIfInBounds_toArray, List.set_cons_zero, List.set_cons_succ]
  refine take_run 1 (some 16) (v := ?_) rfl rfl (by kernel_rfl) (by kernel_rfl) (by kernel_rfl) (fun _ _ _ h => h) (by rfl) ?_ hHeld ?_
  rotate_left
  · ((intro w hSw); (try dsimp only at hSw); go_simp <;> with_reducible rfl)
  simp only [Act.put, List.setIfInBounds_toArray, List.set_cons_zero, List.set_cons_succ]
  refine take_run 2 (some 17) (v := ?_) rfl rfl (by kernel_rfl) (by kernel_rfl) (by kernel_rfl) (fun _ _ _ h => h) (by rfl) ?_ hHeld ?_
  rotate_left
  · ((intro w hSw); (try dsimp only at hSw); go_simp <;> with_reducible rfl)
  simp only [Act.put, List.setIfInBounds_toArray, List.set_cons_zero, List.set_cons_succ]
  refine take_run 3 (some 18) (v := ?_) rfl rfl (by kernel_rfl) (by kernel_rfl) (by kernel_rfl) (fun _ _ _ h => h) (by rfl) ?_ hHeld ?_
  rotate_left
  · ((intro w hSw); (try dsimp only at hSw); go_simp <;> with_reducible rfl)
  simp only [Act.put, List.setIfInBounds_toArray, List.set_cons_zero, List.set_cons_succ]
  refine take_run 4 (some 19) (v := ?_) rfl rfl (by kernel_rfl) (by kernel_rfl) (by kernel_rfl) (fun _ _ _ h => h) (by rfl) ?_ hHeld ?_
  rotate_left
  · ((intro w hSw); (try dsimp only at hSw); go_simp <;> with_reducible rfl)
  simp only [Act.put, List.setIfInBounds_toArray, List.set_cons_zero, List.set_cons_succ]
  refine take_one 5 (by kernel_rfl) rfl (fun K hK => ?_)
  go_simp
  ((with_reducible refine (HCL.out _ S1.drew.below).mono ?_); rintro e w2 ⟨v', rfl, hlike, hown, hb2⟩; have HLK := hide hlike; have HOW := hide hown; have HB2 := hide hb2; have z2 : w1.heap.size ≤ w2.heap.size := hb2.size; have HR2 := hide ((HR1.out.on (Below.refl _ _).drew).on hb2); obtain ⟨e0, e1, e2, e3, e4, e5⟩ := HR2.out.at' kn y HY.out; have d0 := (HR2.out.blk.at (kn * 6)).trans e0; have d1 := (HR2.out.blk.at (kn * 6 + 1)).trans e1; have d2 := (HR2.out.blk.at (kn * 6 + 2)).trans e2; have d3 := (HR2.out.blk.at (kn * 6 + 3)).trans e3; have d4 := (HR2.out.blk.at (kn * 6 + 4)).trans e4; have d5 := (HR2.out.blk.at (kn * 6 + 5)).trans e5; have f0 := HR2.out.blk.loose (kn * 6); have f1 := HR2.out.blk.loose (kn * 6 + 1); have f2 := HR2.out.blk.loose (kn * 6 + 2); have f3 := HR2.out.blk.loose (kn * 6 + 3); have f4 := HR2.out.blk.loose (kn * 6 + 4); have f5 := HR2.out.blk.loose (kn * 6 + 5))
  try go_wp2_with fail
  refine hK.out _ _ (by exact ⟨⟨((hHeld.2.1.1).on hb2).at 0, ((hHeld.2.1.2.1).on hb2).six.1⟩, ⟨(hHeld.2.1.1).on hb2, (hHeld.2.1.2.1).on hb2, (hHeld.2.1.2.2).on hb2⟩, z2⟩) (fun hHeld => ?_)
  clear hK K
  refine take_run 6 (some 21) (v := ?_) rfl rfl (by kernel_rfl) (by kernel_rfl) (by kernel_rfl) (fun _ _ _ h => h) (by rfl) ?_ hHeld ?_
  rotate_left
  · ((intro w hSw); (try dsimp only at hSw); go_simp <;> with_reducible rfl)
  simp only [Act.put, List.setIfInBounds_toArray, List.set_cons_zero, List.set_cons_succ]
  refine take_one 7 (by kernel_rfl) rfl (fun K hK => ?_)
  go_simp
  refine hK.out _ _ (by exact ⟨⟨(((((((hHeld.2.1.1).aside (by show w.heap.size ≠ G; omega) _).aside (by show w.heap.size ≠ G; omega) _).aside (by show w.heap.size ≠ G; omega) _).aside (by show w.heap.size ≠ G; omega) _).aside (by show w.heap.size ≠ G; omega) _).aside (by show w.heap.size ≠ G; omega) _).at 0, (((((((hHeld.2.1.2.1).aside (by show w.heap.size + 1 ≠ G; omega) _).aside (by show w.heap.size + 1 ≠ G; omega) _).aside (by show w.heap.size + 1 ≠ G; omega) _).aside (by show w.heap.size + 1 ≠ G; omega) _).aside (by show w.heap.size + 1 ≠ G; omega) _).aside (by show w.heap.size + 1 ≠ G; omega) _).six.1⟩, ⟨((((((hHeld.2.1.1).aside (by show w.heap.size ≠ G; omega) _).aside (by show w.heap.size ≠ G; omega) _).aside (by show w.heap.size ≠ G; omega) _).aside (by show w.heap.size ≠ G; omega) _).aside (by show w.heap.size ≠ G; omega) _).aside (by show w.heap.size ≠ G; omega) _, ((((((hHeld.2.1.2.1).aside (by show w.heap.size + 1 ≠ G; omega) _).aside (by show w.heap.size + 1 ≠ G; omega) _).aside (by show w.heap.size + 1 ≠ G; omega) _).aside (by show w.heap.size + 1 ≠ G; omega) _).aside (by show w.heap.size + 1 ≠ G; omega) _).aside (by show w.heap.size + 1 ≠ G; omega) _, ((((((hHeld.2.1.2.2).aside (by show w.heap.size + 1 + 1 ≠ G; omega) _).aside (by show w.heap.size + 1 + 1 ≠ G; omega) _).aside (by show w.heap.size + 1 + 1 ≠ G; omega) _).aside (by show w.heap.size + 1 + 1 ≠ G; omega) _).aside (by show w.heap.size + 1 + 1 ≠ G; omega) _).aside (by show w.heap.size + 1 + 1 ≠ G; omega) _⟩, by simpa [World.setCell] using hHeld.2.2⟩) (fun hHeld => ?_)
  clear hK K
  refine wpAnyH_done (by kernel_rfl) ?_ _
  refine NoPanic.normal ?_
  have hpt := (HR2.out.wide (show U ≤ w2.heap.size by omega)).put6 (j := kn) (v := v') (by omega) (HOW.out.low (by have := HRW.out.lo; omega)) (fun i x hi hx hne hne' => by
    rcases HRW.out.own i x hx with q | ⟨gg, _, q1, _, q2, _⟩
    · exact absurd q hne
    · rcases HOW.out with q | ⟨gg', _, q3, q4, _⟩
      · exact absurd q hne'
      · rw [q1, q3]
        intro e
        injection e with e
        injection e with e
        have q5 : w1.heap.size ≤ gg' := q4
        omega) (fun hne' => by
      rcases HOW.out with q | ⟨gg', _, q3, q4, _⟩
      · exact absurd q hne'
      · rw [q3]
        intro e
        injection e with e
        injection e with e
        have q5 : w1.heap.size ≤ gg' := q4
        omega)
  have hk0 : v'.k = (kn : Int) := HLK.out.1
  have HP := hide hpt
  have HOVx := hide ((HOW.out.turned hpt.2 (fun g hg hb _ _ e => by have q5 : w1.heap.size ≤ g := hb; have e' : g = G := e; omega)).wide hpt.2.size)
  have HB9 := hide hHeld.2.1
  clear hHeld d0 d1 d2 d3 d4 d5 f0 f1 f2 f3 f4 f5 e0 e1 e2 e3 e4 e5 hpt
  generalize (((((w2.setCell ⟨G, kn * 6, none⟩ (.int .i64 v'.k)).setCell ⟨G, kn * 6 + 1, none⟩ (.int .i64 v'.t)).setCell ⟨G, kn * 6 + 2, none⟩ (.int .i64 v'.u)).setCell ⟨G, kn * 6 + 3, none⟩ (.slice v'.a v'.ts.length v'.c)).setCell ⟨G, kn * 6 + 4, none⟩ (.string v'.s)).setCell ⟨G, kn * 6 + 5, none⟩ (.bool v'.g) = W9 at HP HB9 HOVx ⊢
  have HOV9 : Hid (Own1 W9 w1.heap.size W9.heap.size v') := HOVx.out
  have q1 := HB9.out.2.2.one
  have q3 := HB9.out.1.one
  go_wp2
  refine bodyPost_ret (v := .agg #[.slice (some ⟨G, 0, none⟩) 4 cx]) (by simp [results, Try.results82, go_sem, q1]) rfl ?_
  have T1 : Turn (fun g => g = G) w w1 := ⟨S1.below.os, S1.below.tape, S1.below.output, S1.below.size, fun i hi _ => S1.below.block i hi⟩
  have T2 : Turn (fun g => g = G) w W9 := ((T1.trans (.below (Below.refl _ _).drew)).trans (.below HB2.out)).trans HP.out.2
  have P9 := (HP.out.1.aside (p := ⟨w.heap.size + 1 + 1, 0, none⟩) HB9.out.2.2 store_ne_tag (by show G ≠ w.heap.size + 1 + 1; omega) (.slice (some ⟨G, 0, none⟩) 4 cx)).wide HP.out.2.size
  have ZS : (W9.setCell ⟨w.heap.size + 1 + 1, 0, none⟩ (.slice (some ⟨G, 0, none⟩) 4 cx)).heap.size = W9.heap.size := by simp [World.setCell]
  have HOV : Own1 W9 w1.heap.size W9.heap.size v' := HOV9.out
  refine ⟨v', _, rfl, HLK.out, ?_, by simpa [World.setCell] using P9, T2.far (p := ⟨w.heap.size + 1 + 1, 0, none⟩) (by simp only; omega) _⟩
  rw [ZS]
  exact (HOV.tk (.set HB9.out.2.2 store_ne_tag _)).low (by omega)
end Go.Proofs.Ytjnloillcgeodaa
