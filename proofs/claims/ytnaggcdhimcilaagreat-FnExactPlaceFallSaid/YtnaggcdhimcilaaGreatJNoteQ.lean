/- Contracts of what the model asks of a place's logs and causes. Condition: sizes that memory holds. -/
import Derived.Test.YtnaggcdhimcilaaGreatJNotePure
import Derived.Test.YtnaggcdhimcilaaGreatJChainRow
import Derived.Test.YtnaggcdhimcilaaGreatJStorePure
import Derived.Test.YtnaggcdhimcilaaGreatJChainAddF
import Derived.Test.YtnaggcdhimcilaaGreatJNoteStep
namespace Go.Proofs.YtnaggcdhimcilaaGreat
open Go.RowKit Go.Joins
attribute [local go_sem ↓] Go.wp_at_zero Go.wp_at_succ

set_option maxRecDepth 100000 in
set_option maxHeartbeats 2000000 in
theorem l4Logged_any (a : Option Addr) (c : Nat) (us : List V) (t u : Int) (w : World) (hn : us.length ≤ 1048576) (hv : Vg w w.heap.size a us) :
    Calls Tryz.prog 60 #[.slice a us.length c, .agg #[.int .i64 t, .int .i64 u]] w fun e w' => e = .returned (.bool (hasB us t u)) ∧ Below w.heap.size w w' := by
  have S0 := (Inv.start w).box 91 #[.int .i64 t, .int .i64 u]
  simp only [World.size_alloc] at S0
  have HT : Hid (∀ (k : Nat) v, us[k]? = some v → eqB v.t v.u t u = true → hasB us t u = true) := fun k v hk h => by
    unfold hasB
    rw [List.any_eq_true]
    exact ⟨v, List.mem_of_getElem? hk, h⟩
  have HF : Hid ((∀ (k : Nat) v, us[k]? = some v → eqB v.t v.u t u = false) → hasB us t u = false) := fun h => by
    unfold hasB
    rw [List.any_eq_false]
    intro v hv
    obtain ⟨k, hk⟩ := List.getElem?_of_mem hv
    have := h k v hk
    unfold eqB at this
    rw [this]
    decide
  generalize hnn : us.length = n at *
  have HN := hide hnn
  clear hnn
  go_enter Tryz.func60, Tryz.ntmps60
  go_wp2
  go_loopw [5] (fun i wr => ∃ k : Nat, k ≤ n ∧ i = .int .i64 (k : Int) ∧ Hid (∀ (j : Nat) y, j < k → us[j]? = some y → eqB y.t y.u t u = false) ∧ Inv w (w.heap.size + 1) [(w.heap.size, 91, #[.int .i64 t, .int .i64 u])] wr) (fun i _ => n - (intOf i).toNat)
  case atStart => exact ⟨0, Nat.zero_le _, rfl, fun j x hj => absurd hj (by omega), S0⟩
  case round =>
    obtain ⟨k, hk, rfl, hno, hI⟩ := hrel
    clear S0
    have hL := hI.below
    by_cases hlt : k < n
    · rcases hv with h0 | ⟨b, off, rfl, hb, hx⟩
      · have := HN.out; subst h0; simp at this; omega
      · have hkl : k < us.length := by have := HN.out; omega
        obtain ⟨hS, hT⟩ := hx k _ (List.getElem?_eq_getElem hkl)
        have HY := hide (List.getElem?_eq_getElem hkl)
        generalize us[k] = v at hS hT HY
        have Q1 := (hS.keep hb fun _ hp => hL.cell hp)
        have q1 := (hI.nth 0 rfl).two
        have hte := tagEq_at v.t v.u t u
        have HS0 := hide hS
        obtain ⟨vk, vt, vu, va, vc, vts, vs', vg⟩ := v
        simp only at Q1 hte HS0
        clear hS hT hx
        have i1 : (0 : Int) ≤ (k : Int) := by omega
        have i2 : (k : Int) < (n : Int) := by omega
        cases hpy : eqB vt vu t u
        · rw [hpy] at hte
          have HN1 : Hid (∀ (j : Nat) y, j < k + 1 → us[j]? = some y → eqB y.t y.u t u = false) := fun j x hj hx => by
            by_cases e : j = k
            · subst e
              have h1 := HY.out
              rw [h1] at hx
              injection hx with hx
              subst hx
              exact hpy
            · exact hno.out j x (by omega) hx
          clear hpy
          have HSX := hide (show ∀ W, Below w.heap.size w W → Six W b (off + k * 6) ⟨vk, vt, vu, va, vc, vts, vs', vg⟩ from fun W hW => HS0.out.keep hb fun _ hp => hW.cell hp)
          clear Q1 q1
          go_wp2_with fail
          refine wp_region_noPanic ?_
          refine wp_region_held_drew (S := (fun w' => Six w' b (off + k * 6) ⟨vk, vt, vu, va, vc, vts, vs', vg⟩ ∧ (w'.cell? ⟨w.heap.size, 0, none⟩ = some (.int .i64 t) ∧ w'.cell? ⟨w.heap.size, 1, none⟩ = some (.int .i64 u)) ∧ Inv w (w.heap.size + 1) [(w.heap.size, 91, #[.int .i64 t, .int .i64 u])] w')) (by kernel_rfl) (by exact ⟨HSX.out _ hI.drew.below, ⟨(hI.drew.nth 0 rfl).at 0, (hI.drew.nth 0 rfl).at 1⟩, hI.drew⟩) (fun hHeld => ?_)
          refine mvR 0 (some 12) hHeld ?_
          refine mvR 1 (some 13) hHeld ?_
          refine mvR 2 (some 14) hHeld ?_
          refine mvR 3 (some 15) hHeld ?_
          refine mvR 4 (some 16) hHeld ?_
          refine mvR 5 (some 17) hHeld ?_
          refine mvR 6 (some 18) hHeld ?_
          refine wpAnyH_done (by kernel_rfl) ?_ _
          refine NoPanic.normal ?_
          have HI := hide hHeld.2.2
          clear hHeld hI
          go_wp2
          exact ⟨⟨k + 1, by omega, by go_num, HN1, HI.out⟩, by simp [intOf]; omega⟩
        · have hf := hide (HT.out k _ HY.out hpy)
          rw [hpy] at hte
          clear hpy
          have HSX := hide (show ∀ W, Below w.heap.size w W → Six W b (off + k * 6) ⟨vk, vt, vu, va, vc, vts, vs', vg⟩ from fun W hW => HS0.out.keep hb fun _ hp => hW.cell hp)
          clear Q1 q1
          go_wp2_with fail
          refine wp_region_noPanic ?_
          refine wp_region_held_drew (S := (fun w' => Six w' b (off + k * 6) ⟨vk, vt, vu, va, vc, vts, vs', vg⟩ ∧ (w'.cell? ⟨w.heap.size, 0, none⟩ = some (.int .i64 t) ∧ w'.cell? ⟨w.heap.size, 1, none⟩ = some (.int .i64 u)) ∧ Inv w (w.heap.size + 1) [(w.heap.size, 91, #[.int .i64 t, .int .i64 u])] w')) (by kernel_rfl) (by exact ⟨HSX.out _ hI.drew.below, ⟨(hI.drew.nth 0 rfl).at 0, (hI.drew.nth 0 rfl).at 1⟩, hI.drew⟩) (fun hHeld => ?_)
          refine mvR 0 (some 12) hHeld ?_
          refine mvR 1 (some 13) hHeld ?_
          refine mvR 2 (some 14) hHeld ?_
          refine mvR 3 (some 15) hHeld ?_
          refine mvR 4 (some 16) hHeld ?_
          refine mvR 5 (some 17) hHeld ?_
          refine mvR 6 (some 18) hHeld ?_
          refine wpAnyH_done (by kernel_rfl) ?_ _
          refine NoPanic.normal ?_
          have HI := hide hHeld.2.2.below
          clear hHeld hI
          go_wp2
          go_ret
          exact ⟨ret_bool hf.out.symm, HI.out⟩
    · have hkn : k = n := by omega
      subst hkn
      clear hlt
      have hf := hide (HF.out (fun j y hy => hno.out j y (by have := (List.getElem?_eq_some_iff.1 hy).1; have := HN.out; omega) hy))
      go_wp2
      go_ret
      exact ⟨ret_bool hf.out.symm, hL⟩
end Go.Proofs.YtnaggcdhimcilaaGreat
/- What the model's place records: what all nodes have that was written here; whole again when nothing waits. Condition: at most four nodes, all valid, at most 60 versions recorded. -/
namespace Go.Proofs.YtnaggcdhimcilaaGreat
open Go.RowKit Go.Joins
attribute [local go_sem ↓] Go.wp_at_zero Go.wp_at_succ

theorem OwnQ.note {W w1 w2 : World} {B B1 g cap : Nat} {q : Pl} {v : V} (h : OwnQ W B q) (hb : Below W.heap.size W w1) (hB : W.heap.size ≤ B1) (ho : Own1 w1 B1 w1.heap.size v)
    (hown : w2.ownsRow B 96 6 (.slice (some ⟨g, 0, none⟩) (q.log.length + 1) cap) (q.log.length + 1) (flat6 q.log ++ cells6 v)) (hg : w1.grownBy w2 (Value.slice q.la q.log.length q.lc).ownBlock) (hat : (Value.slice q.la q.log.length q.lc).ownBlock = some g ∨ W.heap.size ≤ g) :
    OwnQ w2 B ⟨q.me, q.ck, q.ca, q.cc, q.ns, some ⟨g, 0, none⟩, cap, q.log ++ [v], q.ga, q.gc, q.gs, q.fell⟩ := by
  have hT : Turn (fun y => (Value.slice q.la q.log.length q.lc).ownBlock = some y) W w2 := (Turn.below hb).trans (.of hg (fun y e => e))
  have hF := footV_push (g := g) (cap := cap) (z := W.heap.size) (v := v) h.log hat (fun y hn ha => Nat.le_trans hB (own1_at ho hn ha))
  have hl2 := h.log.push hb hB ho hown hg
  refine ⟨h.chain.turnK hT (fun y hf e => h.cl y hf (.inr e)), by simpa using hl2, h.got.turned hT (fun y hf e => h.lg y (.inr e) hf), fun y a b => ?_, h.cg, fun y a b => ?_⟩
  · rcases hF y b with b | b
    · exact h.cl y a b
    · have := (h.chain.footK a).2
      omega
  · rcases hF y a with a | a
    · exact h.lg y a b
    · have := (h.got.foot b).2
      omega
theorem OwnQ.fellQ {w : World} {B : Nat} {q : Pl} (h : OwnQ w B q) (f : Bool) : OwnQ w B (fellP q f) := ⟨h.chain, h.log, h.got, h.cl, h.cg, h.lg⟩
/-- What l4Note leaves. -/
def NotedQ (w : World) (B : Nat) (q : Pl) (e : Ending) (w' : World) : Prop :=
  ∃ q' : Pl, e = .returned (.agg (plCells q')) ∧ LP q' (noteP q) ∧ OwnQ w' B q' ∧ Turn (FootV q.la q.lc q.log) w w'
theorem still_take {ns : List Nd} {k : Nat} {n : Nd} (h : ns[k]? = some n) : ((ns.take (k + 1)).all fun n => decide (n.ws.length = 0)) = (((ns.take k).all fun n => decide (n.ws.length = 0)) && decide (n.ws.length = 0)) := by
  rw [List.take_add_one, h, List.all_append]
  simp
set_option maxRecDepth 100000 in
set_option maxHeartbeats 8000000 in
theorem l4Note_any (B : Nat) (q : Pl) (w : World) (hO : OwnQ w B q) (hok : FineN q.ns) (h1 : 1 ≤ q.ns.length) (hl : q.log.length ≤ 60) :
    Calls Tryz.prog 24 #[.agg (plCells q)] w (NotedQ w B q) := by
  obtain ⟨i0, hi0, hz0, hz1, hz2⟩ := info_parts ver_info
  have I0 := hide hi0
  have I1 := hide hz0
  have I2 := hide hz1
  have I3 := hide hz2
  clear hi0 hz0 hz1 hz2
  obtain ⟨h4, hNB⟩ := hok
  obtain ⟨p, hp⟩ : ∃ p, q.ns.length = p + 1 := ⟨q.ns.length - 1, by omega⟩
  obtain ⟨nd, hnd⟩ : ∃ nd, q.ns[p]? = some nd := ⟨_, List.getElem?_eq_getElem (by omega)⟩
  have hst := (nodeB_parts (hNB p nd hnd)).1
  have HSS := hide (storeB_four hst)
  have HTS := hide (fun v hv => (few_store hst).2 v hv)
  have HTA := hide (tailSS_is hp hnd)
  have HND := hide hnd
  have HPP := hide hp
  have HEL := hide hl
  have HFK := hide (fun y h => hO.chain.footK (g := y) h)
  have HFH := hide (fun y h => hO.got.foot (g := y) h)
  have HFV := hide (fun y h => hO.log.foot (g := y) h)
  have hBw := hO.chain.lo
  obtain ⟨G, cur, hca, hG⟩ : ∃ G cur, q.ca = some ⟨G, 0, none⟩ ∧ Cg w G q.ns cur := by
    rcases hO.chain.res.2.cg with h0 | h
    · rw [h0] at h1; simp at h1
    · exact h
  obtain ⟨me, ck, ca, cc, ns, la, lc, log, ga, gc, gs, fell⟩ := q
  simp only at hca hG HND HPP HTA HEL h1 hp h4 HFK HFH HFV
  subst hca
  have hGr := hide (show Cg w G ns cur from hG)
  have S0 := ((Inv.start w).box 36 (plAt me ck (some ⟨G, 0, none⟩) ns.length cc la log.length lc ga gs.length gc fell)).box 36 (plAt 0 0 none 0 0 none 0 0 none 0 0 false)
  simp only [World.size_alloc] at S0
  have HO0 := hide (hO.on S0.below)
  have HT0 := hide (Turn.below (P := FootV la lc log) S0.below)
  obtain ⟨sa, sc, ss, wa, wc, ws⟩ := nd
  simp only at HSS HTS HTA HND
  have hCg0 := hG.on S0.below
  have n0 : ((w.alloc (.cells (plAt me ck (some ⟨G, 0, none⟩) ns.length cc la log.length lc ga gs.length gc fell) 36)).alloc (.cells (plAt 0 0 none 0 0 none 0 0 none 0 0 false) 36)).cell? ⟨G, p * 2, none⟩ = some (.slice sa ss.length sc) := (hCg0.blk.at _).trans (hCg0.at' p _ HND.out).1
  generalize hnn : ss.length = n at *
  have HN := hide hnn
  clear hnn
  have hn4 : n = 4 := HSS.out
  subst hn4
  have q0 := (S0.nth 1 rfl).six
  have e1 : (ns.length : Int) - 1 = (p : Int) := by omega
  have i1 : (0 : Int) ≤ (p : Int) := by omega
  have i2 : (p : Int) < (ns.length : Int) := by omega
  have kw : IntKind.i64.wrap (p : Int) = (p : Int) := by rw [IntKind.wrap_i64]; omega
  have HNS4 := hide h4
  clear hO hNB hnd hst hl hG hCg0 h4 hp
  change Calls _ _ #[.agg (plAt me ck (some ⟨G, 0, none⟩) ns.length cc la log.length lc ga gs.length gc fell)] _ _
  go_enter Tryz.func24, Tryz.ntmps24
  go_wp2_with fail
  have V0 := (S0.nth 1 rfl).more (.cells #[.slice sa 4 sc] 88)
  have R0 := (S0.nth 0 rfl).more (.cells #[.slice sa 4 sc] 88)
  have X0 := Blk.made ((w.alloc (.cells (plAt me ck (some ⟨G, 0, none⟩) ns.length cc la log.length lc ga gs.length gc fell) 36)).alloc (.cells (plAt 0 0 none 0 0 none 0 0 none 0 0 false) 36)) 88 #[.slice sa 4 sc]
  simp only [World.size_alloc] at X0
  have HO1 := hide (HO0.out.on (below_alloc1 _ (.cells #[.slice sa 4 sc] 88)))
  have HT1 := hide (HT0.out.trans (Turn.below (P := FootV la lc log) (below_alloc1 _ (.cells #[.slice sa 4 sc] 88))))
  have z1 : (((w.alloc (.cells (plAt me ck (some ⟨G, 0, none⟩) ns.length cc la log.length lc ga gs.length gc fell) 36)).alloc (.cells (plAt 0 0 none 0 0 none 0 0 none 0 0 false) 36)).alloc (.cells #[.slice sa 4 sc] 88)).heap.size = w.heap.size + 3 := by simp
  clear S0 HO0 HT0 n0 q0 e1 i1 i2 kw
  generalize ((w.alloc (.cells (plAt me ck (some ⟨G, 0, none⟩) ns.length cc la log.length lc ga gs.length gc fell) 36)).alloc (.cells (plAt 0 0 none 0 0 none 0 0 none 0 0 false) 36)).alloc (.cells #[.slice sa 4 sc] 88) = W1 at V0 R0 X0 HO1 HT1 z1 ⊢
  go_loopw [4] (fun i wr => ∃ (k : Nat) (lb : Option Addr) (lk : Nat) (us : List V), k ≤ 4 ∧ i = .int .i64 (k : Int) ∧ Blk wr w.heap.size 36 (plAt me ck (some ⟨G, 0, none⟩) ns.length cc lb us.length lk ga gs.length gc fell) ∧ Blk wr (w.heap.size + 1) 36 (plAt 0 0 none 0 0 none 0 0 none 0 0 false) ∧ Blk wr (w.heap.size + 2) 88 #[.slice sa 4 sc] ∧ w.heap.size + 3 ≤ wr.heap.size ∧ Hid (LL us (noteL me log (ss.take k))) ∧ Hid (OwnQ wr B ⟨me, ck, some ⟨G, 0, none⟩, cc, ns, lb, lk, us, ga, gc, gs, fell⟩) ∧ Hid (Turn (FootV la lc log) w wr) ∧ Hid (∀ y, FootV lb lk us y → FootV la lc log y ∨ w.heap.size + 3 ≤ y)) (fun i _ => 4 - (intOf i).toNat)
  case atStart => exact ⟨0, la, lc, log, Nat.zero_le _, rfl, V0, R0, X0, by omega, ll_self _, HO1.out, HT1.out, fun y h => .inl h⟩
  case round =>
    obtain ⟨k, lb, lk, us, hk, rfl, hV, hR, hX, zr, HU, HO, HT, HF⟩ := hrel
    clear HO1 HT1 V0 R0 X0 z1
    have HUL : Hid (us.length ≤ 64) := note_few k HU.out HEL.out (by have := HN.out; omega)
    by_cases hlt : k < 4
    · have hvg : Vg wr wr.heap.size sa ss := by
        rcases HO.out.chain.res.2.cg with h0 | ⟨G', cur', e, hG'⟩
        · have := HPP.out
          simp only at h0
          rw [h0] at this
          simp at this
        · exact hG'.store p _ HND.out
      rcases hvg with h0 | ⟨b, off, rfl, hb, hx⟩
      · have := HN.out; subst h0; simp at this
      · have hkl : k < ss.length := by have := HN.out; omega
        obtain ⟨hS, hT⟩ := hx k _ (List.getElem?_eq_getElem hkl)
        have HX := hide (List.getElem?_eq_getElem hkl)
        generalize ss[k] = v at hS hT HX
        have hts := HTS.out v (List.mem_of_getElem? HX.out)
        have HNO := hide (fun h => note_no HU.out HX.out h)
        have HYE := hide (fun v' h hl => note_yes (v' := v') HU.out HX.out h hl)
        have HCL : Hid (∀ W, Below wr.heap.size wr W → Calls Tryz.prog 61 #[.agg (verC v.k v.t v.u v.a v.ts.length v.c v.s v.g)] W (Cloned W v)) := fun W hW => l2Copy_any v W (by omega) ((hT.on hW).up hW.size)
        have HNB : Hid (noteB me us v = (decide (0 < v.t) && decide (v.u = me) && !hasB us v.t v.u)) := rfl
        have HHT : Hid (∀ W, Below wr.heap.size wr W → Calls Tryz.prog 60 #[.slice lb us.length lk, .agg #[.int .i64 v.t, .int .i64 v.u]] W fun e w' => e = .returned (.bool (hasB us v.t v.u)) ∧ Below W.heap.size W w') := fun W hW => l4Logged_any lb lk us v.t v.u W (by have := HUL.out; omega) ((HO.out.on hW).log.resV.2.vg)
        obtain ⟨s0, s1, s2, s3, s4, s5⟩ := hS
        have i1 : (0 : Int) ≤ (k : Int) := by omega
        have i2 : (k : Int) < 4 := by omega
        have q0 := hV.six
        have x0 := hX.one.1
        clear hx hT
        obtain ⟨vk, vt, vu, va, vc, vts, vs', vg⟩ := v
        simp only at s0 s1 s2 s3 s4 s5 hts HNO HYE HCL HNB HHT
        have V5 := Blk.made wr 96 (verC vk vt vu va vts.length vc vs' vg)
        have L5 := below_alloc1 wr (.cells (verC vk vt vu va vts.length vc vs' vg) 96)
        have q5 := (hV.on L5).six
        by_cases ht0 : vt > 0
        · by_cases hme : vu = me
          · have hme' : (vu == me) = true := by simp [hme]
            have HME := hide hme
            clear hme
            have HHT5 := hide (HHT.out _ L5)
            cases hhb : hasB us vt vu
            · have HNZ : Hid (noteB me us ⟨vk, vt, vu, va, vc, vts, vs', vg⟩ = true) := by unfold Hid; rw [HNB.out, decide_eq_true (by omega), decide_eq_true HME.out, hhb]; rfl
              rw [hhb] at HHT5
              clear hhb HNB HNO HHT
              go_wp2_with fail
              with_reducible refine HHT5.out.mono ?_
              rintro e W6 ⟨rfl, hb6⟩
              have L6 := L5.trans (hb6.mono L5.size)
              have V6 := V5.on hb6
              have z5 : wr.heap.size + 1 ≤ W6.heap.size := by have := hb6.size; simpa using this
              have HL6 := hide L6
              have HO6 := hide (HO.out.on L6)
              have HT6 := hide (HT.out.trans (Turn.below (P := FootV la lc log) L6))
              have P6 := hV.on L6
              have R6 := hR.on L6
              have X6 := hX.on L6
              have hBwr : B ≤ W6.heap.size := by omega
              have ulen : us.length ≤ 64 := HUL.out
              have k6 : W6.drew.cell? ⟨w.heap.size, 3, none⟩ = some (.slice lb us.length lk) := P6.drew.at 3
              have HP6 := hide P6
              have HCL6 := hide (HCL.out W6.drew HL6.out.drew)
              have JV : ∀ {W : World}, Blk W wr.heap.size 96 (verC vk vt vu va vts.length vc vs' vg) → Blk W (w.heap.size + 1) 36 (plAt 0 0 none 0 0 none 0 0 none 0 0 false) → Blk W (w.heap.size + 2) 88 #[.slice (some ⟨b, off, none⟩) 4 sc] → Turn (FootV la lc log) w W → (W.cell? ⟨wr.heap.size, 0, none⟩ = some (.int .i64 vk) ∧ W.cell? ⟨wr.heap.size, 1, none⟩ = some (.int .i64 vt) ∧ W.cell? ⟨wr.heap.size, 2, none⟩ = some (.int .i64 vu) ∧ W.cell? ⟨wr.heap.size, 3, none⟩ = some (.slice va vts.length vc) ∧ W.cell? ⟨wr.heap.size, 4, none⟩ = some (.string vs') ∧ W.cell? ⟨wr.heap.size, 5, none⟩ = some (.bool vg)) ∧ Blk W wr.heap.size 96 (verC vk vt vu va vts.length vc vs' vg) ∧ Blk W (w.heap.size + 1) 36 (plAt 0 0 none 0 0 none 0 0 none 0 0 false) ∧ Blk W (w.heap.size + 2) 88 #[.slice (some ⟨b, off, none⟩) 4 sc] ∧ Turn (FootV la lc log) w W := fun h1 h2 h3 h4 => ⟨h1.six.1, h1, h2, h3, h4⟩
              have hown0 : Hid (∀ x, (Value.slice lb us.length lk).ownBlock = some x → (FootV la lc log x ∨ w.heap.size + 3 ≤ x) ∧ x < wr.heap.size ∧ x ≠ w.heap.size ∧ x ≠ w.heap.size + 1 ∧ x ≠ w.heap.size + 2) := fun x hx => by
                have h1 := HO.out.log.foot (.inr hx)
                have h2 := HF.out x (.inr hx)
                rcases h2 with h | h
                · have := (HFV.out x h).2
                  exact ⟨.inl h, h1.2, by omega, by omega, by omega⟩
                · exact ⟨.inr h, h1.2, by omega, by omega, by omega⟩
              clear s0 s1 s2 s3 s4 s5 q0 x0 q5 HHT5 hb6 L6 P6
              go_wp2_with fail
              refine wp_region_noPanic ?_
              refine wp_region_held_drew (S := (fun w' => (w'.cell? ⟨wr.heap.size, 0, none⟩ = some (.int .i64 vk) ∧ w'.cell? ⟨wr.heap.size, 1, none⟩ = some (.int .i64 vt) ∧ w'.cell? ⟨wr.heap.size, 2, none⟩ = some (.int .i64 vu) ∧ w'.cell? ⟨wr.heap.size, 3, none⟩ = some (.slice va vts.length vc) ∧ w'.cell? ⟨wr.heap.size, 4, none⟩ = some (.string vs') ∧ w'.cell? ⟨wr.heap.size, 5, none⟩ = some (.bool vg)) ∧ Blk w' wr.heap.size 96 (verC vk vt vu va vts.length vc vs' vg) ∧ Blk w' (w.heap.size + 1) 36 (plAt 0 0 none 0 0 none 0 0 none 0 0 false) ∧ Blk w' (w.heap.size + 2) 88 #[.slice (some ⟨b, off, none⟩) 4 sc] ∧ Turn (FootV la lc log) w w')) (by kernel_rfl) (by exact JV V6.drew R6.drew X6.drew (HT6.out.trans (.below (Below.refl _ _).drew))) (fun hHeld => ?_)
              refine mvR 0 (some 48) hHeld ?_
              refine mvR 2 (some 50) hHeld ?_
              refine wpAnyH_ready (rs := [1, 3]) (by kernel_rfl) (by simp) ?_
              refine AllReadyH.cons rfl (fun K hK => ?_) (AllReadyH.cons rfl (fun K hK => ?_) AllReadyH.nil)
              · skip
                go_simp
                refine hK.out _ _ (by exact hHeld) (fun hHeld => ?_)
                clear hK K
                refine take_one 3 (by kernel_rfl) rfl (fun K hK => ?_)
                go_simp
                ((with_reducible refine HCL6.out.mono ?_); rintro e w7 ⟨v', rfl, hlike, hown, hb7⟩; have HLI := hide hlike; have CT7 := hide ((HO6.out.on (Below.refl _ _).drew).on hb7); have HOW := hide hown; have z7 : W6.heap.size ≤ w7.heap.size := (by have := hb7.size; simpa using this); have HB7 := hide hb7; have K7 := (show Blk w7 w.heap.size 36 (plAt me ck (some ⟨G, 0, none⟩) ns.length cc lb us.length lk ga gs.length gc fell) from HP6.out.drew.on hb7); have q7 := K7.at 3; have q8 := (K7.more (.cells (verC v'.k v'.t v'.u v'.a v'.ts.length v'.c v'.s v'.g) 96)).at 3; have HR7 := hide (show w7.ownsRow B 96 6 (.slice lb us.length lk) us.length (flat6 us) from CT7.out.log.row); clear hlike hown hb7)
                try go_wp2_with fail
                refine hK.out _ _ (by exact JV (hHeld.2.1.on HB7.out) (hHeld.2.2.1.on HB7.out) (hHeld.2.2.2.1.on HB7.out) (hHeld.2.2.2.2.trans (.below HB7.out))) (fun hHeld => ?_)
                clear hK K
                refine take_one 4 (by kernel_rfl) rfl (fun K hK => ?_)
                go_simp
                refine hK.out _ _ (by exact JV (hHeld.2.1.more _) (hHeld.2.2.1.more _) (hHeld.2.2.2.1.more _) (hHeld.2.2.2.2.trans (.below (below_alloc1 _ _)))) (fun hHeld => ?_)
                clear hK K
                refine take_one 5 (by kernel_rfl) rfl (fun K hK => ?_)
                (refine step_append_lies _ (by rfl) _ _ _ (by rfl) B 96 i0 _ 6 72 Tryz.underlying33 I0.out I1.out I2.out I3.out rfl (by omega) (.slice lb us.length lk) us.length (flat6 us) (by rfl) (HR7.out.alloc _) ⟨w7.heap.size, 0, none⟩ 1 1 (cells6 v') (by rfl) (by rfl) (World.news_of_block (cs := verC v'.k v'.t v'.u v'.a v'.ts.length v'.c v'.s v'.g) (t := 96) (fr := (0, 0)) (heap_alloc_new w7 _)) (by simp [cells6, Value.oneCell']) (by omega) (by unfold maxLen; omega) (by omega) (by simp; omega) _ rfl ?_; intro g cap w9 hown2 hgrow hat hlt2; have K9 := (K7.more (.cells (verC v'.k v'.t v'.u v'.a v'.ts.length v'.c v'.s v'.g) 96)).kept hgrow (fun e => (hown0.out _ e).2.2.1 rfl); have q9 := K9.at 3; have f9 := K9.loose 3; have HAT := hide hat; have OW := hide hown2; have GW := hide hgrow; clear hown2)
                simp only [List.getElem_toArray, List.getElem_cons_zero, List.getElem_cons_succ, Act.put, List.setIfInBounds_toArray, List.set_cons_zero, List.set_cons_succ]
                refine hK.out _ _ (by exact JV (hHeld.2.1.kept hgrow (fun e => by have := (hown0.out _ e).2.1; omega)) (hHeld.2.2.1.kept hgrow (fun e => (hown0.out _ e).2.2.2.1 rfl)) (hHeld.2.2.2.1.kept hgrow (fun e => (hown0.out _ e).2.2.2.2 rfl)) (hHeld.2.2.2.2.then (.of hgrow (fun y e => e)) (fun y hy e => by rcases (hown0.out y e).1 with h | h; exact h; omega))) (fun hHeld => ?_)
                clear hK K
                refine mvR 6 (some 54) hHeld ?_
                refine take_one 7 (by kernel_rfl) rfl (fun K hK => ?_)
                go_simp
                refine hK.out _ _ (by exact JV (hHeld.2.1.aside (by simp only; omega) _) (hHeld.2.2.1.aside (by simp only; omega) _) (hHeld.2.2.2.1.aside (by simp only; omega) _) (hHeld.2.2.2.2.far (by simp only; omega) _)) (fun hHeld => ?_)
                clear hK K
                refine wpAnyH_done (by kernel_rfl) ?_ _
                refine NoPanic.normal ?_
                have HT9 := hide hHeld.2.2.2.2
                have R9 := hHeld.2.2.1
                have X9 := hHeld.2.2.2.1
                have HO8 := hide ((HO6.out.on (Below.refl _ _).drew).note (g := g) (cap := cap) (w1 := (w7.alloc (.cells (verC v'.k v'.t v'.u v'.a v'.ts.length v'.c v'.s v'.g) 96))) (w2 := w9) (v := v') (HB7.out.trans ((below_alloc1 w7 _).mono HB7.out.size)) (Nat.le_refl _) ((HOW.out.on (below_alloc1 w7 _)).wide (by simp)) OW.out GW.out (by rcases HAT.out with h | h; exact .inl h; exact .inr (by rw [h]; simp; omega)))
                have HF9 : Hid (∀ y, FootV (some ⟨g, 0, none⟩) cap (us ++ [v']) y → FootV la lc log y ∨ w.heap.size + 3 ≤ y) := (fun y hy => by rcases footV_push (g := g) (cap := cap) (z := w.heap.size + 3) (v := v') HO.out.log (by rcases HAT.out with h | h; exact .inl h; exact .inr (by rw [h]; simp; omega)) (fun y hn ha => by have := own1_at HOW.out hn ha; have e : W6.drew.heap.size = W6.heap.size := rfl; omega) y hy with h | h; exact HF.out y h; exact .inr h)
                have HO9 := hide (HO8.out.turned ((Turn.refl (fun y => y = w.heap.size) w9).set (p := ⟨w.heap.size, 3, none⟩) rfl (.slice (some ⟨g, 0, none⟩) (us.length + 1) cap)) (fun y hy e => by rcases hy with h | h | h; exact absurd (HFK.out y h).2 (by omega); rcases HF9.out y h with h | h; exact absurd (HFV.out y h).2 (by omega); omega; exact absurd (HFH.out y h).2 (by omega)))
                have V9 : Blk (w9.setCell ⟨w.heap.size, 3, none⟩ (.slice (some ⟨g, 0, none⟩) (us.length + 1) cap)) w.heap.size 36 (plAt me ck (some ⟨G, 0, none⟩) ns.length cc (some ⟨g, 0, none⟩) (us ++ [v']).length cap ga gs.length gc fell) := (by have := K9.put 3 (.slice (some ⟨g, 0, none⟩) (us.length + 1) cap); simpa using this)
                have hz9 : w.heap.size + 3 ≤ (w9.setCell ⟨w.heap.size, 3, none⟩ (.slice (some ⟨g, 0, none⟩) (us.length + 1) cap)).heap.size := (by have := GW.out.size; simp [World.setCell] at this ⊢; omega)
                have HU9 := hide (HYE.out v' HNZ.out HLI.out)
                clear hHeld K7 K9 q7 q8 q9 f9 k6
                go_wp2
                exact ⟨⟨k + 1, some ⟨g, 0, none⟩, cap, us ++ [v'], by omega, by go_num, V9, R9, X9, hz9, HU9.out, HO9.out, HT9.out, HF9.out⟩, by simp [intOf]; omega⟩
              · skip
                go_simp
                ((with_reducible refine HCL6.out.mono ?_); rintro e w7 ⟨v', rfl, hlike, hown, hb7⟩; have HLI := hide hlike; have CT7 := hide ((HO6.out.on (Below.refl _ _).drew).on hb7); have HOW := hide hown; have z7 : W6.heap.size ≤ w7.heap.size := (by have := hb7.size; simpa using this); have HB7 := hide hb7; have K7 := (show Blk w7 w.heap.size 36 (plAt me ck (some ⟨G, 0, none⟩) ns.length cc lb us.length lk ga gs.length gc fell) from HP6.out.drew.on hb7); have q7 := K7.at 3; have q8 := (K7.more (.cells (verC v'.k v'.t v'.u v'.a v'.ts.length v'.c v'.s v'.g) 96)).at 3; have HR7 := hide (show w7.ownsRow B 96 6 (.slice lb us.length lk) us.length (flat6 us) from CT7.out.log.row); clear hlike hown hb7)
                try go_wp2_with fail
                refine hK.out _ _ (by exact JV (hHeld.2.1.on HB7.out) (hHeld.2.2.1.on HB7.out) (hHeld.2.2.2.1.on HB7.out) (hHeld.2.2.2.2.trans (.below HB7.out))) (fun hHeld => ?_)
                clear hK K
                refine wpAnyH_ready (rs := [1, 4]) (by kernel_rfl) (by simp) ?_
                refine AllReadyH.cons rfl (fun K hK => ?_) (AllReadyH.cons rfl (fun K hK => ?_) AllReadyH.nil)
                · skip
                  go_simp
                  refine hK.out _ _ (by exact hHeld) (fun hHeld => ?_)
                  clear hK K
                  refine take_one 4 (by kernel_rfl) rfl (fun K hK => ?_)
                  go_simp
                  refine hK.out _ _ (by exact JV (hHeld.2.1.more _) (hHeld.2.2.1.more _) (hHeld.2.2.2.1.more _) (hHeld.2.2.2.2.trans (.below (below_alloc1 _ _)))) (fun hHeld => ?_)
                  clear hK K
                  refine take_one 5 (by kernel_rfl) rfl (fun K hK => ?_)
                  (refine step_append_lies _ (by rfl) _ _ _ (by rfl) B 96 i0 _ 6 72 Tryz.underlying33 I0.out I1.out I2.out I3.out rfl (by omega) (.slice lb us.length lk) us.length (flat6 us) (by rfl) (HR7.out.alloc _) ⟨w7.heap.size, 0, none⟩ 1 1 (cells6 v') (by rfl) (by rfl) (World.news_of_block (cs := verC v'.k v'.t v'.u v'.a v'.ts.length v'.c v'.s v'.g) (t := 96) (fr := (0, 0)) (heap_alloc_new w7 _)) (by simp [cells6, Value.oneCell']) (by omega) (by unfold maxLen; omega) (by omega) (by simp; omega) _ rfl ?_; intro g cap w9 hown2 hgrow hat hlt2; have K9 := (K7.more (.cells (verC v'.k v'.t v'.u v'.a v'.ts.length v'.c v'.s v'.g) 96)).kept hgrow (fun e => (hown0.out _ e).2.2.1 rfl); have q9 := K9.at 3; have f9 := K9.loose 3; have HAT := hide hat; have OW := hide hown2; have GW := hide hgrow; clear hown2)
                  simp only [List.getElem_toArray, List.getElem_cons_zero, List.getElem_cons_succ, Act.put, List.setIfInBounds_toArray, List.set_cons_zero, List.set_cons_succ]
                  refine hK.out _ _ (by exact JV (hHeld.2.1.kept hgrow (fun e => by have := (hown0.out _ e).2.1; omega)) (hHeld.2.2.1.kept hgrow (fun e => (hown0.out _ e).2.2.2.1 rfl)) (hHeld.2.2.2.1.kept hgrow (fun e => (hown0.out _ e).2.2.2.2 rfl)) (hHeld.2.2.2.2.then (.of hgrow (fun y e => e)) (fun y hy e => by rcases (hown0.out y e).1 with h | h; exact h; omega))) (fun hHeld => ?_)
                  clear hK K
                  refine mvR 6 (some 54) hHeld ?_
                  refine take_one 7 (by kernel_rfl) rfl (fun K hK => ?_)
                  go_simp
                  refine hK.out _ _ (by exact JV (hHeld.2.1.aside (by simp only; omega) _) (hHeld.2.2.1.aside (by simp only; omega) _) (hHeld.2.2.2.1.aside (by simp only; omega) _) (hHeld.2.2.2.2.far (by simp only; omega) _)) (fun hHeld => ?_)
                  clear hK K
                  refine wpAnyH_done (by kernel_rfl) ?_ _
                  refine NoPanic.normal ?_
                  have HT9 := hide hHeld.2.2.2.2
                  have R9 := hHeld.2.2.1
                  have X9 := hHeld.2.2.2.1
                  have HO8 := hide ((HO6.out.on (Below.refl _ _).drew).note (g := g) (cap := cap) (w1 := (w7.alloc (.cells (verC v'.k v'.t v'.u v'.a v'.ts.length v'.c v'.s v'.g) 96))) (w2 := w9) (v := v') (HB7.out.trans ((below_alloc1 w7 _).mono HB7.out.size)) (Nat.le_refl _) ((HOW.out.on (below_alloc1 w7 _)).wide (by simp)) OW.out GW.out (by rcases HAT.out with h | h; exact .inl h; exact .inr (by rw [h]; simp; omega)))
                  have HF9 : Hid (∀ y, FootV (some ⟨g, 0, none⟩) cap (us ++ [v']) y → FootV la lc log y ∨ w.heap.size + 3 ≤ y) := (fun y hy => by rcases footV_push (g := g) (cap := cap) (z := w.heap.size + 3) (v := v') HO.out.log (by rcases HAT.out with h | h; exact .inl h; exact .inr (by rw [h]; simp; omega)) (fun y hn ha => by have := own1_at HOW.out hn ha; have e : W6.drew.heap.size = W6.heap.size := rfl; omega) y hy with h | h; exact HF.out y h; exact .inr h)
                  have HO9 := hide (HO8.out.turned ((Turn.refl (fun y => y = w.heap.size) w9).set (p := ⟨w.heap.size, 3, none⟩) rfl (.slice (some ⟨g, 0, none⟩) (us.length + 1) cap)) (fun y hy e => by rcases hy with h | h | h; exact absurd (HFK.out y h).2 (by omega); rcases HF9.out y h with h | h; exact absurd (HFV.out y h).2 (by omega); omega; exact absurd (HFH.out y h).2 (by omega)))
                  have V9 : Blk (w9.setCell ⟨w.heap.size, 3, none⟩ (.slice (some ⟨g, 0, none⟩) (us.length + 1) cap)) w.heap.size 36 (plAt me ck (some ⟨G, 0, none⟩) ns.length cc (some ⟨g, 0, none⟩) (us ++ [v']).length cap ga gs.length gc fell) := (by have := K9.put 3 (.slice (some ⟨g, 0, none⟩) (us.length + 1) cap); simpa using this)
                  have hz9 : w.heap.size + 3 ≤ (w9.setCell ⟨w.heap.size, 3, none⟩ (.slice (some ⟨g, 0, none⟩) (us.length + 1) cap)).heap.size := (by have := GW.out.size; simp [World.setCell] at this ⊢; omega)
                  have HU9 := hide (HYE.out v' HNZ.out HLI.out)
                  clear hHeld K7 K9 q7 q8 q9 f9 k6
                  go_wp2
                  exact ⟨⟨k + 1, some ⟨g, 0, none⟩, cap, us ++ [v'], by omega, by go_num, V9, R9, X9, hz9, HU9.out, HO9.out, HT9.out, HF9.out⟩, by simp [intOf]; omega⟩
                · skip
                  go_simp
                  refine hK.out _ _ (by exact JV (hHeld.2.1.more _) (hHeld.2.2.1.more _) (hHeld.2.2.2.1.more _) (hHeld.2.2.2.2.trans (.below (below_alloc1 _ _)))) (fun hHeld => ?_)
                  clear hK K
                  refine take_one 1 (by kernel_rfl) rfl (fun K hK => ?_)
                  go_simp
                  refine hK.out _ _ (by exact hHeld) (fun hHeld => ?_)
                  clear hK K
                  refine take_one 5 (by kernel_rfl) rfl (fun K hK => ?_)
                  (refine step_append_lies _ (by rfl) _ _ _ (by rfl) B 96 i0 _ 6 72 Tryz.underlying33 I0.out I1.out I2.out I3.out rfl (by omega) (.slice lb us.length lk) us.length (flat6 us) (by rfl) (HR7.out.alloc _) ⟨w7.heap.size, 0, none⟩ 1 1 (cells6 v') (by rfl) (by rfl) (World.news_of_block (cs := verC v'.k v'.t v'.u v'.a v'.ts.length v'.c v'.s v'.g) (t := 96) (fr := (0, 0)) (heap_alloc_new w7 _)) (by simp [cells6, Value.oneCell']) (by omega) (by unfold maxLen; omega) (by omega) (by simp; omega) _ rfl ?_; intro g cap w9 hown2 hgrow hat hlt2; have K9 := (K7.more (.cells (verC v'.k v'.t v'.u v'.a v'.ts.length v'.c v'.s v'.g) 96)).kept hgrow (fun e => (hown0.out _ e).2.2.1 rfl); have q9 := K9.at 3; have f9 := K9.loose 3; have HAT := hide hat; have OW := hide hown2; have GW := hide hgrow; clear hown2)
                  simp only [List.getElem_toArray, List.getElem_cons_zero, List.getElem_cons_succ, Act.put, List.setIfInBounds_toArray, List.set_cons_zero, List.set_cons_succ]
                  refine hK.out _ _ (by exact JV (hHeld.2.1.kept hgrow (fun e => by have := (hown0.out _ e).2.1; omega)) (hHeld.2.2.1.kept hgrow (fun e => (hown0.out _ e).2.2.2.1 rfl)) (hHeld.2.2.2.1.kept hgrow (fun e => (hown0.out _ e).2.2.2.2 rfl)) (hHeld.2.2.2.2.then (.of hgrow (fun y e => e)) (fun y hy e => by rcases (hown0.out y e).1 with h | h; exact h; omega))) (fun hHeld => ?_)
                  clear hK K
                  refine mvR 6 (some 54) hHeld ?_
                  refine take_one 7 (by kernel_rfl) rfl (fun K hK => ?_)
                  go_simp
                  refine hK.out _ _ (by exact JV (hHeld.2.1.aside (by simp only; omega) _) (hHeld.2.2.1.aside (by simp only; omega) _) (hHeld.2.2.2.1.aside (by simp only; omega) _) (hHeld.2.2.2.2.far (by simp only; omega) _)) (fun hHeld => ?_)
                  clear hK K
                  refine wpAnyH_done (by kernel_rfl) ?_ _
                  refine NoPanic.normal ?_
                  have HT9 := hide hHeld.2.2.2.2
                  have R9 := hHeld.2.2.1
                  have X9 := hHeld.2.2.2.1
                  have HO8 := hide ((HO6.out.on (Below.refl _ _).drew).note (g := g) (cap := cap) (w1 := (w7.alloc (.cells (verC v'.k v'.t v'.u v'.a v'.ts.length v'.c v'.s v'.g) 96))) (w2 := w9) (v := v') (HB7.out.trans ((below_alloc1 w7 _).mono HB7.out.size)) (Nat.le_refl _) ((HOW.out.on (below_alloc1 w7 _)).wide (by simp)) OW.out GW.out (by rcases HAT.out with h | h; exact .inl h; exact .inr (by rw [h]; simp; omega)))
                  have HF9 : Hid (∀ y, FootV (some ⟨g, 0, none⟩) cap (us ++ [v']) y → FootV la lc log y ∨ w.heap.size + 3 ≤ y) := (fun y hy => by rcases footV_push (g := g) (cap := cap) (z := w.heap.size + 3) (v := v') HO.out.log (by rcases HAT.out with h | h; exact .inl h; exact .inr (by rw [h]; simp; omega)) (fun y hn ha => by have := own1_at HOW.out hn ha; have e : W6.drew.heap.size = W6.heap.size := rfl; omega) y hy with h | h; exact HF.out y h; exact .inr h)
                  have HO9 := hide (HO8.out.turned ((Turn.refl (fun y => y = w.heap.size) w9).set (p := ⟨w.heap.size, 3, none⟩) rfl (.slice (some ⟨g, 0, none⟩) (us.length + 1) cap)) (fun y hy e => by rcases hy with h | h | h; exact absurd (HFK.out y h).2 (by omega); rcases HF9.out y h with h | h; exact absurd (HFV.out y h).2 (by omega); omega; exact absurd (HFH.out y h).2 (by omega)))
                  have V9 : Blk (w9.setCell ⟨w.heap.size, 3, none⟩ (.slice (some ⟨g, 0, none⟩) (us.length + 1) cap)) w.heap.size 36 (plAt me ck (some ⟨G, 0, none⟩) ns.length cc (some ⟨g, 0, none⟩) (us ++ [v']).length cap ga gs.length gc fell) := (by have := K9.put 3 (.slice (some ⟨g, 0, none⟩) (us.length + 1) cap); simpa using this)
                  have hz9 : w.heap.size + 3 ≤ (w9.setCell ⟨w.heap.size, 3, none⟩ (.slice (some ⟨g, 0, none⟩) (us.length + 1) cap)).heap.size := (by have := GW.out.size; simp [World.setCell] at this ⊢; omega)
                  have HU9 := hide (HYE.out v' HNZ.out HLI.out)
                  clear hHeld K7 K9 q7 q8 q9 f9 k6
                  go_wp2
                  exact ⟨⟨k + 1, some ⟨g, 0, none⟩, cap, us ++ [v'], by omega, by go_num, V9, R9, X9, hz9, HU9.out, HO9.out, HT9.out, HF9.out⟩, by simp [intOf]; omega⟩
            · have HNZ : Hid (LL us (noteL me log (ss.take (k + 1)))) := HNO.out (by rw [HNB.out, hhb]; simp)
              rw [hhb] at HHT5
              clear hhb HNB HNO HYE HHT
              go_wp2_with fail
              with_reducible refine HHT5.out.mono ?_
              rintro e w6 ⟨rfl, hb6⟩
              have LB := L5.trans (hb6.mono L5.size)
              have hz6 := LB.size
              clear s0 s1 s2 s3 s4 s5 q0 x0 V5 q5 HHT5
              have HO9 := hide (HO.out.on LB)
              have HT9 := hide (HT.out.trans (Turn.below (P := FootV la lc log) LB))
              have V9 := hV.on LB
              have R9 := hR.on LB
              have X9 := hX.on LB
              go_wp2
              exact ⟨⟨k + 1, lb, lk, us, by omega, by go_num, V9, R9, X9, by (try simp only [World.size_alloc]); omega, HNZ.out, HO9.out, HT9.out, HF.out⟩, by simp [intOf]; omega⟩
          · have HNZ : Hid (LL us (noteL me log (ss.take (k + 1)))) := HNO.out (by rw [HNB.out, decide_eq_false hme]; simp)
            have hme' : (vu == me) = false := by simp [hme]
            clear HNB HNO HYE HHT hme
            have HO9 := hide (HO.out.on L5)
            have HT9 := hide (HT.out.trans (Turn.below (P := FootV la lc log) L5))
            have V9 := hV.on L5
            have R9 := hR.on L5
            have X9 := hX.on L5
            have hz5 := L5.size
            go_wp2
            exact ⟨⟨k + 1, lb, lk, us, by omega, by go_num, V9, R9, X9, by (try simp only [World.size_alloc]); omega, HNZ.out, HO9.out, HT9.out, HF.out⟩, by simp [intOf]; omega⟩
        · have HNZ : Hid (LL us (noteL me log (ss.take (k + 1)))) := HNO.out (by rw [HNB.out, decide_eq_false (by omega)]; simp)
          clear HNB HNO HYE HHT
          have HO9 := hide (HO.out.on L5)
          have HT9 := hide (HT.out.trans (Turn.below (P := FootV la lc log) L5))
          have V9 := hV.on L5
          have R9 := hR.on L5
          have X9 := hX.on L5
          have hz5 := L5.size
          go_wp2
          exact ⟨⟨k + 1, lb, lk, us, by omega, by go_num, V9, R9, X9, by (try simp only [World.size_alloc]); omega, HNZ.out, HO9.out, HT9.out, HF.out⟩, by simp [intOf]; omega⟩
    · have hkn : k = 4 := by omega
      have HUA := hide (note_all HU.out (by rw [hkn]; exact HN.out))
      clear HU hlt
      subst hkn
      have HTL : Hid (LL us (noteL me log (tailSS ns))) := by rw [HTA.out]; exact HUA.out
      have HFO : Hid (∀ y, FootQ ⟨me, ck, some ⟨G, 0, none⟩, cc, ns, lb, lk, us, ga, gc, gs, fell⟩ y → B ≤ y ∧ y ≠ w.heap.size ∧ y ≠ w.heap.size + 1) := fun y hy => by
        rcases hy with h | h | h
        · have := HFK.out y h; omega
        · rcases HF.out y h with h | h
          · have := HFV.out y h; omega
          · omega
        · have := HFH.out y h; omega
      obtain ⟨curr, hCr⟩ : ∃ curr, Cg wr G ns curr := by
        rcases HO.out.chain.res.2.cg with h0 | ⟨G', cur', e, h⟩
        · have := HPP.out
          simp only at h0
          rw [h0] at this
          simp at this
        · injection e with e
          injection e with e
          subst e
          exact ⟨cur', h⟩
      have HCR := hide hCr
      have hns4 : ns.length ≤ 4 := HNS4.out
      generalize hmm : ns.length = m at *
      have HM := hide hmm
      clear hmm hCr hX
      go_wp2
      go_loopw [6, 7] (fun s i W => ∃ (k : Nat) (sb : Bool), k ≤ m ∧ s = .bool sb ∧ i = .int .i64 (k : Int) ∧ Hid (((ns.take k).all fun n => decide (n.ws.length = 0)) = sb) ∧ W = wr) (fun _ i _ => m - (intOf i).toNat)
      case atStart => exact ⟨0, true, Nat.zero_le _, rfl, rfl, rfl, rfl⟩
      case round =>
        obtain ⟨k, sb, hk, rfl, rfl, HSB, rfl⟩ := hrel
        have v0 := hV.six
        by_cases hlt : k < m
        · obtain ⟨n, hn⟩ : ∃ n, ns[k]? = some n := ⟨_, List.getElem?_eq_getElem (by have := HM.out; omega)⟩
          have HST := hide (still_take hn)
          have n1 := (HCR.out.blk.at _).trans (HCR.out.at' k n hn).2
          have i1 : (0 : Int) ≤ (k : Int) := by omega
          have i2 : (k : Int) < (m : Int) := by omega
          rw [HSB.out] at HST
          clear hn
          cases sb
          · clear n1
            go_wp2
            exact ⟨⟨k + 1, false, by omega, rfl, by go_num, HST.out, trivial⟩, by simp [intOf]; omega⟩
          · by_cases hz : n.ws.length = 0
            · have hz' : ((n.ws.length : Int) == 0) = true := by simp [hz]
              rw [decide_eq_true hz] at HST
              clear hz
              go_wp2
              exact ⟨⟨k + 1, true, by omega, rfl, by go_num, HST.out, trivial⟩, by simp [intOf]; omega⟩
            · have hz' : ((n.ws.length : Int) == 0) = false := by simp [hz]
              rw [decide_eq_false hz] at HST
              clear hz
              go_wp2
              exact ⟨⟨k + 1, false, by omega, rfl, by go_num, HST.out, trivial⟩, by simp [intOf]; omega⟩
        · have hkm : k = m := by omega
          have HSS : Hid (stillB ns = sb) := by
            have h := HSB.out
            rw [hkm, ← HM.out, List.take_length] at h
            exact h
          clear HSB hlt
          subst hkm
          have r0 := hR.six
          rcases fell with _ | _ <;> rcases sb with _ | _
          · go_wp2
            refine bodyPost_ret (v := .agg (plAt me ck (some ⟨G, 0, none⟩) k cc lb us.length lk ga gs.length gc false)) (by simp [results, Tryz.results24, go_sem, r0]) rfl ?_
            exact ⟨⟨me, ck, some ⟨G, 0, none⟩, cc, ns, lb, lk, us, ga, gc, gs, false⟩, by simp only [plCells, HM.out], ⟨rfl, rfl, nl_self _, HTL.out, lls_refl _, by show false = (false && !stillB ns); rw [HSS.out]; rfl⟩, ((HO.out.fellQ false).turned ((Turn.refl (fun y => y = w.heap.size) _).set (p := ⟨w.heap.size, 5, none⟩) rfl (.bool false)) (fun y hy e => (HFO.out y hy).2.1 e)).turned (turn_w6 _ (w.heap.size + 1) _ _ _ _ _ _) (fun y hy e => (HFO.out y hy).2.2 e), (HT.out.far (p := ⟨w.heap.size, 5, none⟩) (Nat.le_refl _) _).then (turn_w6 _ (w.heap.size + 1) _ _ _ _ _ _) (fun y hy e => by omega)⟩
          · go_wp2
            refine bodyPost_ret (v := .agg (plAt me ck (some ⟨G, 0, none⟩) k cc lb us.length lk ga gs.length gc false)) (by simp [results, Tryz.results24, go_sem, r0]) rfl ?_
            exact ⟨⟨me, ck, some ⟨G, 0, none⟩, cc, ns, lb, lk, us, ga, gc, gs, false⟩, by simp only [plCells, HM.out], ⟨rfl, rfl, nl_self _, HTL.out, lls_refl _, by show false = (false && !stillB ns); rw [HSS.out]; rfl⟩, ((HO.out.fellQ false).turned ((Turn.refl (fun y => y = w.heap.size) _).set (p := ⟨w.heap.size, 5, none⟩) rfl (.bool false)) (fun y hy e => (HFO.out y hy).2.1 e)).turned (turn_w6 _ (w.heap.size + 1) _ _ _ _ _ _) (fun y hy e => (HFO.out y hy).2.2 e), (HT.out.far (p := ⟨w.heap.size, 5, none⟩) (Nat.le_refl _) _).then (turn_w6 _ (w.heap.size + 1) _ _ _ _ _ _) (fun y hy e => by omega)⟩
          · go_wp2
            refine bodyPost_ret (v := .agg (plAt me ck (some ⟨G, 0, none⟩) k cc lb us.length lk ga gs.length gc true)) (by simp [results, Tryz.results24, go_sem, r0]) rfl ?_
            exact ⟨⟨me, ck, some ⟨G, 0, none⟩, cc, ns, lb, lk, us, ga, gc, gs, true⟩, by simp only [plCells, HM.out], ⟨rfl, rfl, nl_self _, HTL.out, lls_refl _, by show true = (true && !stillB ns); rw [HSS.out]; rfl⟩, ((HO.out.fellQ true).turned ((Turn.refl (fun y => y = w.heap.size) _).set (p := ⟨w.heap.size, 5, none⟩) rfl (.bool true)) (fun y hy e => (HFO.out y hy).2.1 e)).turned (turn_w6 _ (w.heap.size + 1) _ _ _ _ _ _) (fun y hy e => (HFO.out y hy).2.2 e), (HT.out.far (p := ⟨w.heap.size, 5, none⟩) (Nat.le_refl _) _).then (turn_w6 _ (w.heap.size + 1) _ _ _ _ _ _) (fun y hy e => by omega)⟩
          · go_wp2
            refine bodyPost_ret (v := .agg (plAt me ck (some ⟨G, 0, none⟩) k cc lb us.length lk ga gs.length gc false)) (by simp [results, Tryz.results24, go_sem, r0]) rfl ?_
            exact ⟨⟨me, ck, some ⟨G, 0, none⟩, cc, ns, lb, lk, us, ga, gc, gs, false⟩, by simp only [plCells, HM.out], ⟨rfl, rfl, nl_self _, HTL.out, lls_refl _, by show false = (true && !stillB ns); rw [HSS.out]; rfl⟩, ((HO.out.fellQ false).turned ((Turn.refl (fun y => y = w.heap.size) _).set (p := ⟨w.heap.size, 5, none⟩) rfl (.bool false)) (fun y hy e => (HFO.out y hy).2.1 e)).turned (turn_w6 _ (w.heap.size + 1) _ _ _ _ _ _) (fun y hy e => (HFO.out y hy).2.2 e), (HT.out.far (p := ⟨w.heap.size, 5, none⟩) (Nat.le_refl _) _).then (turn_w6 _ (w.heap.size + 1) _ _ _ _ _ _) (fun y hy e => by omega)⟩
end Go.Proofs.YtnaggcdhimcilaaGreat
