/- What a place of the program records: what all nodes have that was written here; whole again when nothing waits. Condition: at most four nodes, all valid, at most 60 versions recorded. -/
import Derived.Test.YtnaggcdhimcilaaGreatJNoteStep
import Derived.Test.YtnaggcdhimcilaaGreatJPlaceOk4
import Derived.Test.YtnaggcdhimcilaaGreatJStorePure
namespace Go.Proofs.YtnaggcdhimcilaaGreat
open Go.RowKit Go.Joins
attribute [local go_sem ↓] Go.wp_at_zero Go.wp_at_succ

set_option maxHeartbeats 1000000 in
theorem recWait_any (n : Nd) (w : World) :
    Calls Tryz.prog 77 (#[.agg #[.slice n.sa n.ss.length n.sc, .slice n.wa n.ws.length n.wc]] ++ #[]) w fun e w' => e = .returned (.bool (decide (0 < n.ws.length))) ∧ Below w.heap.size w w' := by
  have S0 := (Inv.start w).box 90 #[.slice n.sa n.ss.length n.sc, .slice n.wa n.ws.length n.wc]
  obtain ⟨sa, sc, ss, wa, wc, ws⟩ := n
  simp only at S0
  have q0 := (S0.nth 0 rfl).two
  have hL := S0.below
  clear S0
  go_enter Tryz.func77, Tryz.ntmps77
  go_wp2
  go_ret
  exact ⟨rfl, hL⟩
theorem field_vers (a : Value) (W : World) : (Instr.field 88 (.agg #[a]) 0).run Tryz.prog W = .ok a W := by kernel_rfl
set_option maxRecDepth 100000 in
set_option maxHeartbeats 8000000 in
theorem record_any (B C : Nat) (q : Pl) (w : World) (hC : Ctr w B C q) (hok : FineN q.ns) (h1 : 1 ≤ q.ns.length) (hl : q.log.length ≤ 60) :
    Calls Tryz.prog 32 #[.pointer (some ⟨C, 0, none⟩)] w fun e w' => e = .returned (.tuple #[]) ∧ (∃ q', LP q' (noteP q) ∧ Ctr w' B C q') ∧ Below B w w' := by
  obtain ⟨i0, hi0, hz0, hz1, hz2⟩ := info_parts ver_info
  have I0 := hide hi0
  have I1 := hide hz0
  have I2 := hide hz1
  have I3 := hide hz2
  clear hi0 hz0 hz1 hz2
  obtain ⟨h4, hNB⟩ := hok
  obtain ⟨p, hp⟩ : ∃ p, q.ns.length = p + 1 := ⟨q.ns.length - 1, by omega⟩
  obtain ⟨nd, hnd⟩ : ∃ nd, q.ns[p]? = some nd := ⟨_, List.getElem?_eq_getElem (by omega)⟩
  have hst := (nodeB_parts (hNB p nd hnd)).1
  have HSS := hide (storeB_four hst)
  have HSL := hide (fun i (v : V) (hi : nd.ss[i]? = some v) => storeB_slot hst hi)
  have HTS := hide (fun v hv => (few_store hst).2 v hv)
  have HTA := hide (tailSS_is hp hnd)
  have HND := hide hnd
  have HC0 := hide hC
  have HLO := hide hC.lo
  have HBZ : Hid (B ≤ w.heap.size) := by unfold Hid; have := hC.blk.inside; have := hC.lo; omega
  have HPP := hide hp
  have hp4 : p + 1 ≤ 4 := by omega
  have HP4 := hide hp4
  have HEL := hide hl
  obtain ⟨G, cur, hca, hG⟩ : ∃ G cur, q.ca = some ⟨G, 0, none⟩ ∧ Cg w G q.ns cur := by
    rcases hC.chain.cg with h0 | h
    · rw [h0] at h1; simp at h1
    · exact h
  obtain ⟨me, ck, ca, cc, ns, la, lc, log, ga, gc, gs, fell⟩ := q
  simp only at hca hG HND HPP HTA HEL h1 hp
  subst hca
  have HG0 := hide hG
  have c0 : w.cell? ⟨C, 0, none⟩ = some (.slice (some ⟨G, 0, none⟩) (p + 1) cc) := by rw [← hp]; exact (show Blk w C 73 (ctAt me ck (some ⟨G, 0, none⟩) ns.length cc la log.length lc ga gs.length gc fell) from hC.blk).six.1.1
  have hn4 : nd.ss.length ≤ 4 := by have := HSS.out; omega
  clear hC hNB hnd hst hl hG h4 hp
  go_enter Tryz.func32, Tryz.ntmps32
  go_wp2_with fail
  refine (tail_any G cc p ns cur nd _ (by omega) HG0.out HND.out).mono ?_
  rintro e w1 ⟨rfl, hb1⟩
  have HC1 := hide (HC0.out.on hb1)
  have HB1 := hide (hb1.mono HBZ.out)
  clear HC0 HG0 hb1 c0
  obtain ⟨sa, sc, ss, wa, wc, ws⟩ := nd
  simp only at HSS HSL HTS HTA hn4
  generalize hnn : ss.length = n at *
  have HN := hide hnn
  clear hnn
  have hfd := field_store (.slice sa n sc) (.slice wa ws.length wc)
  have hfe := field_vers (.slice sa n sc)
  go_wp2
  clear hfd hfe
  go_loopw [12] (fun i wr => ∃ (k : Nat) (lb : Option Addr) (lk : Nat) (us : List V), k ≤ n ∧ i = .int .i64 (k : Int) ∧ Hid (LL us (noteL me log (ss.take k))) ∧ Hid (Ctr wr B C ⟨me, ck, some ⟨G, 0, none⟩, cc, ns, lb, lk, us, ga, gc, gs, fell⟩) ∧ Hid (Below B w wr)) (fun i _ => n - (intOf i).toNat)
  case atStart => exact ⟨0, la, lc, log, Nat.zero_le _, rfl, ll_self _, HC1.out, HB1.out⟩
  case round =>
    obtain ⟨k, lb, lk, us, hk, rfl, HU, HC, HB⟩ := hrel
    clear HC1 HB1
    have HUL : Hid (us.length ≤ 64) := note_few k HU.out HEL.out (by have := HSS.out; have := HN.out; omega)
    by_cases hlt : k < n
    · have hvg : Vg wr wr.heap.size sa ss := by
        rcases HC.out.chain.cg with h0 | ⟨G', cur', e, hG'⟩
        · have := HPP.out
          simp only at h0
          rw [h0] at this
          simp at this
        · exact hG'.store p _ HND.out
      rcases hvg with h0 | ⟨b, off, rfl, hb, hx⟩
      · have := HN.out; subst h0; simp at this; omega
      · have hkl : k < ss.length := by have := HN.out; omega
        obtain ⟨hS, hT⟩ := hx k _ (List.getElem?_eq_getElem hkl)
        have HX := hide (List.getElem?_eq_getElem hkl)
        generalize ss[k] = v at hS hT HX
        have hsl := slot_two (HSL.out k v HX.out)
        have hts := HTS.out v (List.mem_of_getElem? HX.out)
        have HNO := hide (fun h => note_no HU.out HX.out h)
        have HYE := hide (fun v' h hl => note_yes (v' := v') HU.out HX.out h hl)
        have HCL : Hid (∀ W, Below wr.heap.size wr W → Calls Tryz.prog 75 #[.agg (verC v.k v.t v.u v.a v.ts.length v.c v.s v.g)] W (Cloned W v)) := fun W hW => clone_any v W (by omega) ((hT.on hW).up hW.size)
        have HNB : Hid (noteB me us v = (decide (0 < v.t) && decide (v.u = me) && !hasB us v.t v.u)) := rfl
        obtain ⟨s0, s1, s2, s3, s4, s5⟩ := hS
        have hbw := hb
        have i1 : (0 : Int) ≤ (k : Int) := by omega
        have i2 : (k : Int) < (n : Int) := by omega
        have hCw := HC.out.blk.inside
        have hBC := HLO.out
        have HHT : Hid (∀ W, Below wr.heap.size wr W → Calls Tryz.prog 74 #[.slice lb us.length lk, .agg #[.int .i64 v.t, .int .i64 v.u]] W fun e w' => e = .returned (.bool (hasB us v.t v.u)) ∧ Below W.heap.size W w') := fun W hW => hasTag_any lb lk us v.t v.u W (by have := HUL.out; omega) ((HC.out.on hW).log.resV.2.vg)
        have HVN : Hid (∀ W, Calls Tryz.prog 73 #[.agg (verC v.k v.t v.u v.a v.ts.length v.c v.s v.g)] W fun e w' => e = .returned (.bool (noneC v.k v.t v.u v.ts.length v.s v.g)) ∧ Below W.heap.size W w') := fun W => verNone_any _ _ _ _ _ _ _ _ W
        clear hx hT
        obtain ⟨vk, vt, vu, va, vc, vts, vs', vg⟩ := v
        simp only at s0 s1 s2 s3 s4 s5 hsl hts HNO HYE HCL HNB HHT HVN
        have V5 := Blk.made wr 96 (verC vk vt vu va vts.length vc vs' vg)
        have L5 := below_alloc1 wr (.cells (verC vk vt vu va vts.length vc vs' vg) 96)
        have K5 := hide (show Blk (wr.alloc (.cells (verC vk vt vu va vts.length vc vs' vg) 96)) C 73 (ctAt me ck (some ⟨G, 0, none⟩) ns.length cc lb us.length lk ga gs.length gc fell) from (HC.out.on L5).blk)
        go_wp2_with fail
        clear s0 s1 s2 s3 s4 s5
        have HL5 := hide L5
        have z5 : (wr.alloc (.cells (verC vk vt vu va vts.length vc vs' vg) 96)).heap.size = wr.heap.size + 1 := by simp
        generalize wr.alloc (.cells (verC vk vt vu va vts.length vc vs' vg) 96) = W5 at V5 K5 HL5 z5 ⊢
        clear L5
        have JS : ∀ {W : World}, Below W5.heap.size W5 W → ((W.cell? ⟨wr.heap.size, 0, none⟩ = some (.int .i64 vk) ∧ W.cell? ⟨wr.heap.size, 1, none⟩ = some (.int .i64 vt) ∧ W.cell? ⟨wr.heap.size, 2, none⟩ = some (.int .i64 vu) ∧ W.cell? ⟨wr.heap.size, 3, none⟩ = some (.slice va vts.length vc) ∧ W.cell? ⟨wr.heap.size, 4, none⟩ = some (.string vs') ∧ W.cell? ⟨wr.heap.size, 5, none⟩ = some (.bool vg)) ∧ (W.cell? ⟨C, 1, none⟩ = some (.int .i64 me) ∧ W.cell? ⟨C, 3, none⟩ = some (.slice lb us.length lk)) ∧ Below W5.heap.size W5 W) := fun h => ⟨(V5.on h).six.1, ⟨(K5.out.on h).at 1, (K5.out.on h).at 3⟩, h⟩
        have HLW : Hid (∀ {W : World}, Below W5.heap.size W5 W → Below wr.heap.size wr W) := fun h => HL5.out.trans (h.mono (by omega))
        have HBW : Hid (∀ {W : World}, Below W5.heap.size W5 W → Below B w W) := fun h => HB.out.trans ((HLW.out h).mono (by omega))
        cases hno : noneC vk vt vu vts.length vs' vg
        · have ht0 : 0 < vt := by
            rcases hsl with ⟨h, _⟩ | ⟨_, h, _⟩
            · rw [hno] at h; cases h
            · exact h
          rw [hno] at HVN
          clear hno hsl
          by_cases hme : vu = me
          · have hme' : (vu == me) = true := by simp [hme]
            have HME := hide hme
            clear hme
            generalize hhb : hasB us vt vu = hb9 at HHT HNB
            clear hhb
            have HHT1 : Hid (∀ W, Below W5.heap.size W5 W → Calls Tryz.prog 74 #[.slice lb us.length lk, .agg #[.int .i64 vt, .int .i64 vu]] W fun e w' => e = .returned (.bool hb9) ∧ Below W.heap.size W w') := fun W h => HHT.out W (HLW.out h)
            cases hb9
            · have HNZ : Hid (noteB me us ⟨vk, vt, vu, va, vc, vts, vs', vg⟩ = true) := by unfold Hid; rw [HNB.out, decide_eq_true ht0, decide_eq_true HME.out]; rfl
              clear HNB HNO
              refine wp_region_noPanic ?_
              refine wp_region_held_drew (S := (fun w' => ((w'.cell? ⟨wr.heap.size, 0, none⟩ = some (.int .i64 vk) ∧ w'.cell? ⟨wr.heap.size, 1, none⟩ = some (.int .i64 vt) ∧ w'.cell? ⟨wr.heap.size, 2, none⟩ = some (.int .i64 vu) ∧ w'.cell? ⟨wr.heap.size, 3, none⟩ = some (.slice va vts.length vc) ∧ w'.cell? ⟨wr.heap.size, 4, none⟩ = some (.string vs') ∧ w'.cell? ⟨wr.heap.size, 5, none⟩ = some (.bool vg)) ∧ (w'.cell? ⟨C, 1, none⟩ = some (.int .i64 me) ∧ w'.cell? ⟨C, 3, none⟩ = some (.slice lb us.length lk)) ∧ Below W5.heap.size W5 w'))) (by kernel_rfl) (by exact JS (Below.refl _ _).drew) (fun hHeld => ?_)
              refine mvR 0 (some 16) hHeld ?_
              refine take_one 1 (by kernel_rfl) rfl (fun K hK => ?_)
              go_simp
              ((with_reducible refine (HVN.out _).mono ?_); rintro e w6 ⟨rfl, hb6⟩)
              try go_wp2_with fail
              refine hK.out _ _ (by exact JS (hHeld.2.2.trans (hb6.mono hHeld.2.2.size))) (fun hHeld => ?_)
              clear hK K
              refine mvR 2 (some 18) hHeld ?_
              refine mvR 3 (some 19) hHeld ?_
              refine mvR 4 (some 20) hHeld ?_
              refine mvR 5 (some 21) hHeld ?_
              refine mvR 6 (some 22) hHeld ?_
              refine mvR 7 (some 23) hHeld ?_
              refine mvR 8 (some 24) hHeld ?_
              refine mvR 9 (some 25) hHeld ?_
              refine mvR 10 (some 26) hHeld ?_
              refine mvR 11 (some 27) hHeld ?_
              refine mvR 12 (some 28) hHeld ?_
              refine mvR 13 (some 29) hHeld ?_
              refine mvR 14 (some 30) hHeld ?_
              refine mvR 15 (some 31) hHeld ?_
              refine mvR 16 (some 32) hHeld ?_
              refine mvR 17 (some 33) hHeld ?_
              refine mvR 18 (some 34) hHeld ?_
              refine mvR 19 (some 35) hHeld ?_
              refine take_one 20 (by kernel_rfl) rfl (fun K hK => ?_)
              go_simp
              ((with_reducible refine (HHT1.out _ hHeld.2.2).mono ?_); rintro e W6 ⟨rfl, hb7⟩)
              try go_wp2_with fail
              refine hK.out _ _ (by exact JS (hHeld.2.2.trans (hb7.mono hHeld.2.2.size))) (fun hHeld => ?_)
              clear hK K
              refine mvR 21 (some 37) hHeld ?_
              refine mvR 22 (some 38) hHeld ?_
              refine wpAnyH_done (by kernel_rfl) ?_ _
              refine NoPanic.normal ?_
              have L6 := hHeld.2.2
              clear hHeld
              have V6 := V5.on L6
              have CT6 := hide (HC.out.on (HLW.out L6))
              have HL6 := hide (HLW.out L6)
              have HB6 := hide (HBW.out L6)
              go_wp2_with fail
              have z6 : W5.heap.size ≤ W6.heap.size := L6.size
              have k6 : W6.drew.cell? ⟨C, 3, none⟩ = some (.slice lb us.length lk) := (K5.out.on L6).drew.at 3
              have HV6 := hide V6
              have HCL6 := hide (HCL.out W6.drew HL6.out.drew)
              have ulen : us.length ≤ 64 := HUL.out
              have hBz : B ≤ W6.heap.size := by omega
              have JV : ∀ {W : World}, Blk W wr.heap.size 96 (verC vk vt vu va vts.length vc vs' vg) → Below B w W → ((W.cell? ⟨wr.heap.size, 0, none⟩ = some (.int .i64 vk) ∧ W.cell? ⟨wr.heap.size, 1, none⟩ = some (.int .i64 vt) ∧ W.cell? ⟨wr.heap.size, 2, none⟩ = some (.int .i64 vu) ∧ W.cell? ⟨wr.heap.size, 3, none⟩ = some (.slice va vts.length vc) ∧ W.cell? ⟨wr.heap.size, 4, none⟩ = some (.string vs') ∧ W.cell? ⟨wr.heap.size, 5, none⟩ = some (.bool vg)) ∧ Blk W wr.heap.size 96 (verC vk vt vu va vts.length vc vs' vg) ∧ Below B w W) := fun h hb => ⟨h.six.1, h, hb⟩
              have hown0 : Hid (∀ x, (Value.slice lb us.length lk).ownBlock = some x → x ≠ wr.heap.size ∧ x ≠ C ∧ B ≤ x) := fun x hx => by
                have h1 := HC.out.log.foot (.inr hx)
                exact ⟨by omega, fun e => HC.out.nl (e ▸ .inr hx), h1.1⟩
              clear JS HHT HHT1 HVN K5 V5 V6 L6
              refine wp_region_noPanic ?_
              refine wp_region_held_drew (S := (fun w' => (w'.cell? ⟨wr.heap.size, 0, none⟩ = some (.int .i64 vk) ∧ w'.cell? ⟨wr.heap.size, 1, none⟩ = some (.int .i64 vt) ∧ w'.cell? ⟨wr.heap.size, 2, none⟩ = some (.int .i64 vu) ∧ w'.cell? ⟨wr.heap.size, 3, none⟩ = some (.slice va vts.length vc) ∧ w'.cell? ⟨wr.heap.size, 4, none⟩ = some (.string vs') ∧ w'.cell? ⟨wr.heap.size, 5, none⟩ = some (.bool vg)) ∧ Blk w' wr.heap.size 96 (verC vk vt vu va vts.length vc vs' vg) ∧ Below B w w')) (by kernel_rfl) (by exact JV HV6.out.drew HB6.out.drew) (fun hHeld => ?_)
              refine mvR 0 (some 39) hHeld ?_
              refine mvR 1 (some 40) hHeld ?_
              refine mvR 2 (some 41) hHeld ?_
              refine mvR 3 (some 42) hHeld ?_
              refine mvR 5 (some 44) hHeld ?_
              refine wpAnyH_ready (rs := [4, 6]) (by kernel_rfl) (by simp) ?_
              refine AllReadyH.cons rfl (fun K hK => ?_) (AllReadyH.cons rfl (fun K hK => ?_) AllReadyH.nil)
              · skip
                go_simp
                refine hK.out _ _ (by exact hHeld) (fun hHeld => ?_)
                clear hK K
                refine take_one 6 (by kernel_rfl) rfl (fun K hK => ?_)
                go_simp
                ((with_reducible refine HCL6.out.mono ?_); rintro e w7 ⟨v', rfl, hlike, hown, hb7⟩; have HLI := hide hlike; have CT7 := hide ((CT6.out.on (Below.refl _ _).drew).on hb7); have HOW := hide hown; have z7 : W6.heap.size ≤ w7.heap.size := (by have := hb7.size; simpa using this); have HB7 := hide hb7; have K7 := (show Blk w7 C 73 (ctAt me ck (some ⟨G, 0, none⟩) ns.length cc lb us.length lk ga gs.length gc fell) from CT7.out.blk); have q7 := K7.at 3; have q8 := (K7.more (.cells (verC v'.k v'.t v'.u v'.a v'.ts.length v'.c v'.s v'.g) 96)).at 3; have HR := hide (show w7.ownsRow B 96 6 (.slice lb us.length lk) us.length (flat6 us) from CT7.out.log.row); clear hlike hown hb7)
                try go_wp2_with fail
                refine hK.out _ _ (by exact JV (hHeld.2.1.on HB7.out) (hHeld.2.2.trans (HB7.out.mono hBz))) (fun hHeld => ?_)
                clear hK K
                refine take_one 7 (by kernel_rfl) rfl (fun K hK => ?_)
                go_simp
                refine hK.out _ _ (by exact JV (hHeld.2.1.more _) (hHeld.2.2.alloc (by omega) _)) (fun hHeld => ?_)
                clear hK K
                refine take_one 8 (by kernel_rfl) rfl (fun K hK => ?_)
                (refine step_append_lies _ (by rfl) _ _ _ (by rfl) B 96 i0 _ 6 72 Tryz.underlying33 I0.out I1.out I2.out I3.out rfl (by omega) (.slice lb us.length lk) us.length (flat6 us) (by rfl) (HR.out.alloc _) ⟨w7.heap.size, 0, none⟩ 1 1 (cells6 v') (by rfl) (by rfl) (World.news_of_block (cs := verC v'.k v'.t v'.u v'.a v'.ts.length v'.c v'.s v'.g) (t := 96) (fr := (0, 0)) (heap_alloc_new w7 _)) (by simp [cells6, Value.oneCell']) (by omega) (by unfold maxLen; omega) (by omega) (by simp; omega) _ rfl ?_; intro g cap w9 hown2 hgrow hat hlt2; have K9 := (K7.more (.cells (verC v'.k v'.t v'.u v'.a v'.ts.length v'.c v'.s v'.g) 96)).kept hgrow (fun e => (hown0.out _ e).2.1 rfl); have q9 := K9.at 3; have f9 := K9.loose 3; have HAT := hide hat; have OW := hide hown2; have GW := hide hgrow; clear hown2)
                simp only [List.getElem_toArray, List.getElem_cons_zero, List.getElem_cons_succ, Act.put, List.setIfInBounds_toArray, List.set_cons_zero, List.set_cons_succ]
                refine hK.out _ _ (by exact JV (hHeld.2.1.kept hgrow (fun e => (hown0.out _ e).1 rfl)) (hHeld.2.2.grown hgrow (by simp; omega) (fun r hr => (hown0.out _ hr).2.2))) (fun hHeld => ?_)
                clear hK K
                refine mvR 9 (some 48) hHeld ?_
                refine mvR 10 (some 49) hHeld ?_
                refine take_one 11 (by kernel_rfl) rfl (fun K hK => ?_)
                go_simp
                refine hK.out _ _ (by exact JV (hHeld.2.1.aside (by simp only; omega) _) (hHeld.2.2.setCell (by simp only; omega) _)) (fun hHeld => ?_)
                clear hK K
                refine wpAnyH_done (by kernel_rfl) ?_ _
                refine NoPanic.normal ?_
                have HB9 := hide hHeld.2.2
                have HC9 := hide ((CT6.out.on (Below.refl _ _).drew).note (g := g) (cap := cap) (w1 := w7.alloc (.cells (verC v'.k v'.t v'.u v'.a v'.ts.length v'.c v'.s v'.g) 96)) (w2 := w9) (v := v') (HB7.out.trans ((below_alloc1 w7 _).mono HB7.out.size)) (Nat.le_refl _) ((HOW.out.on (below_alloc1 w7 _)).wide (by simp)) OW.out GW.out (by rcases HAT.out with h | h; exact .inl h; exact .inr (by rw [h]; simp; omega)))
                have HU9 := hide (HYE.out v' HNZ.out HLI.out)
                clear hHeld K7 K9 q7 q8 q9 f9 k6
                go_wp2
                exact ⟨⟨k + 1, some ⟨g, 0, none⟩, cap, us ++ [v'], by omega, by go_num, HU9.out, HC9.out, HB9.out⟩, by simp [intOf]; omega⟩
              · skip
                go_simp
                ((with_reducible refine HCL6.out.mono ?_); rintro e w7 ⟨v', rfl, hlike, hown, hb7⟩; have HLI := hide hlike; have CT7 := hide ((CT6.out.on (Below.refl _ _).drew).on hb7); have HOW := hide hown; have z7 : W6.heap.size ≤ w7.heap.size := (by have := hb7.size; simpa using this); have HB7 := hide hb7; have K7 := (show Blk w7 C 73 (ctAt me ck (some ⟨G, 0, none⟩) ns.length cc lb us.length lk ga gs.length gc fell) from CT7.out.blk); have q7 := K7.at 3; have q8 := (K7.more (.cells (verC v'.k v'.t v'.u v'.a v'.ts.length v'.c v'.s v'.g) 96)).at 3; have HR := hide (show w7.ownsRow B 96 6 (.slice lb us.length lk) us.length (flat6 us) from CT7.out.log.row); clear hlike hown hb7)
                try go_wp2_with fail
                refine hK.out _ _ (by exact JV (hHeld.2.1.on HB7.out) (hHeld.2.2.trans (HB7.out.mono hBz))) (fun hHeld => ?_)
                clear hK K
                refine wpAnyH_ready (rs := [4, 7]) (by kernel_rfl) (by simp) ?_
                refine AllReadyH.cons rfl (fun K hK => ?_) (AllReadyH.cons rfl (fun K hK => ?_) AllReadyH.nil)
                · skip
                  go_simp
                  refine hK.out _ _ (by exact hHeld) (fun hHeld => ?_)
                  clear hK K
                  refine take_one 7 (by kernel_rfl) rfl (fun K hK => ?_)
                  go_simp
                  refine hK.out _ _ (by exact JV (hHeld.2.1.more _) (hHeld.2.2.alloc (by omega) _)) (fun hHeld => ?_)
                  clear hK K
                  refine take_one 8 (by kernel_rfl) rfl (fun K hK => ?_)
                  (refine step_append_lies _ (by rfl) _ _ _ (by rfl) B 96 i0 _ 6 72 Tryz.underlying33 I0.out I1.out I2.out I3.out rfl (by omega) (.slice lb us.length lk) us.length (flat6 us) (by rfl) (HR.out.alloc _) ⟨w7.heap.size, 0, none⟩ 1 1 (cells6 v') (by rfl) (by rfl) (World.news_of_block (cs := verC v'.k v'.t v'.u v'.a v'.ts.length v'.c v'.s v'.g) (t := 96) (fr := (0, 0)) (heap_alloc_new w7 _)) (by simp [cells6, Value.oneCell']) (by omega) (by unfold maxLen; omega) (by omega) (by simp; omega) _ rfl ?_; intro g cap w9 hown2 hgrow hat hlt2; have K9 := (K7.more (.cells (verC v'.k v'.t v'.u v'.a v'.ts.length v'.c v'.s v'.g) 96)).kept hgrow (fun e => (hown0.out _ e).2.1 rfl); have q9 := K9.at 3; have f9 := K9.loose 3; have HAT := hide hat; have OW := hide hown2; have GW := hide hgrow; clear hown2)
                  simp only [List.getElem_toArray, List.getElem_cons_zero, List.getElem_cons_succ, Act.put, List.setIfInBounds_toArray, List.set_cons_zero, List.set_cons_succ]
                  refine hK.out _ _ (by exact JV (hHeld.2.1.kept hgrow (fun e => (hown0.out _ e).1 rfl)) (hHeld.2.2.grown hgrow (by simp; omega) (fun r hr => (hown0.out _ hr).2.2))) (fun hHeld => ?_)
                  clear hK K
                  refine mvR 9 (some 48) hHeld ?_
                  refine mvR 10 (some 49) hHeld ?_
                  refine take_one 11 (by kernel_rfl) rfl (fun K hK => ?_)
                  go_simp
                  refine hK.out _ _ (by exact JV (hHeld.2.1.aside (by simp only; omega) _) (hHeld.2.2.setCell (by simp only; omega) _)) (fun hHeld => ?_)
                  clear hK K
                  refine wpAnyH_done (by kernel_rfl) ?_ _
                  refine NoPanic.normal ?_
                  have HB9 := hide hHeld.2.2
                  have HC9 := hide ((CT6.out.on (Below.refl _ _).drew).note (g := g) (cap := cap) (w1 := w7.alloc (.cells (verC v'.k v'.t v'.u v'.a v'.ts.length v'.c v'.s v'.g) 96)) (w2 := w9) (v := v') (HB7.out.trans ((below_alloc1 w7 _).mono HB7.out.size)) (Nat.le_refl _) ((HOW.out.on (below_alloc1 w7 _)).wide (by simp)) OW.out GW.out (by rcases HAT.out with h | h; exact .inl h; exact .inr (by rw [h]; simp; omega)))
                  have HU9 := hide (HYE.out v' HNZ.out HLI.out)
                  clear hHeld K7 K9 q7 q8 q9 f9 k6
                  go_wp2
                  exact ⟨⟨k + 1, some ⟨g, 0, none⟩, cap, us ++ [v'], by omega, by go_num, HU9.out, HC9.out, HB9.out⟩, by simp [intOf]; omega⟩
                · skip
                  go_simp
                  refine hK.out _ _ (by exact JV (hHeld.2.1.more _) (hHeld.2.2.alloc (by omega) _)) (fun hHeld => ?_)
                  clear hK K
                  refine take_one 4 (by kernel_rfl) rfl (fun K hK => ?_)
                  go_simp
                  refine hK.out _ _ (by exact hHeld) (fun hHeld => ?_)
                  clear hK K
                  refine take_one 8 (by kernel_rfl) rfl (fun K hK => ?_)
                  (refine step_append_lies _ (by rfl) _ _ _ (by rfl) B 96 i0 _ 6 72 Tryz.underlying33 I0.out I1.out I2.out I3.out rfl (by omega) (.slice lb us.length lk) us.length (flat6 us) (by rfl) (HR.out.alloc _) ⟨w7.heap.size, 0, none⟩ 1 1 (cells6 v') (by rfl) (by rfl) (World.news_of_block (cs := verC v'.k v'.t v'.u v'.a v'.ts.length v'.c v'.s v'.g) (t := 96) (fr := (0, 0)) (heap_alloc_new w7 _)) (by simp [cells6, Value.oneCell']) (by omega) (by unfold maxLen; omega) (by omega) (by simp; omega) _ rfl ?_; intro g cap w9 hown2 hgrow hat hlt2; have K9 := (K7.more (.cells (verC v'.k v'.t v'.u v'.a v'.ts.length v'.c v'.s v'.g) 96)).kept hgrow (fun e => (hown0.out _ e).2.1 rfl); have q9 := K9.at 3; have f9 := K9.loose 3; have HAT := hide hat; have OW := hide hown2; have GW := hide hgrow; clear hown2)
                  simp only [List.getElem_toArray, List.getElem_cons_zero, List.getElem_cons_succ, Act.put, List.setIfInBounds_toArray, List.set_cons_zero, List.set_cons_succ]
                  refine hK.out _ _ (by exact JV (hHeld.2.1.kept hgrow (fun e => (hown0.out _ e).1 rfl)) (hHeld.2.2.grown hgrow (by simp; omega) (fun r hr => (hown0.out _ hr).2.2))) (fun hHeld => ?_)
                  clear hK K
                  refine mvR 9 (some 48) hHeld ?_
                  refine mvR 10 (some 49) hHeld ?_
                  refine take_one 11 (by kernel_rfl) rfl (fun K hK => ?_)
                  go_simp
                  refine hK.out _ _ (by exact JV (hHeld.2.1.aside (by simp only; omega) _) (hHeld.2.2.setCell (by simp only; omega) _)) (fun hHeld => ?_)
                  clear hK K
                  refine wpAnyH_done (by kernel_rfl) ?_ _
                  refine NoPanic.normal ?_
                  have HB9 := hide hHeld.2.2
                  have HC9 := hide ((CT6.out.on (Below.refl _ _).drew).note (g := g) (cap := cap) (w1 := w7.alloc (.cells (verC v'.k v'.t v'.u v'.a v'.ts.length v'.c v'.s v'.g) 96)) (w2 := w9) (v := v') (HB7.out.trans ((below_alloc1 w7 _).mono HB7.out.size)) (Nat.le_refl _) ((HOW.out.on (below_alloc1 w7 _)).wide (by simp)) OW.out GW.out (by rcases HAT.out with h | h; exact .inl h; exact .inr (by rw [h]; simp; omega)))
                  have HU9 := hide (HYE.out v' HNZ.out HLI.out)
                  clear hHeld K7 K9 q7 q8 q9 f9 k6
                  go_wp2
                  exact ⟨⟨k + 1, some ⟨g, 0, none⟩, cap, us ++ [v'], by omega, by go_num, HU9.out, HC9.out, HB9.out⟩, by simp [intOf]; omega⟩
            · have HNZ : Hid (LL us (noteL me log (ss.take (k + 1)))) := HNO.out (by rw [HNB.out]; simp)
              clear HNB HNO HYE
              refine wp_region_noPanic ?_
              refine wp_region_held_drew (S := (fun w' => ((w'.cell? ⟨wr.heap.size, 0, none⟩ = some (.int .i64 vk) ∧ w'.cell? ⟨wr.heap.size, 1, none⟩ = some (.int .i64 vt) ∧ w'.cell? ⟨wr.heap.size, 2, none⟩ = some (.int .i64 vu) ∧ w'.cell? ⟨wr.heap.size, 3, none⟩ = some (.slice va vts.length vc) ∧ w'.cell? ⟨wr.heap.size, 4, none⟩ = some (.string vs') ∧ w'.cell? ⟨wr.heap.size, 5, none⟩ = some (.bool vg)) ∧ (w'.cell? ⟨C, 1, none⟩ = some (.int .i64 me) ∧ w'.cell? ⟨C, 3, none⟩ = some (.slice lb us.length lk)) ∧ Below W5.heap.size W5 w'))) (by kernel_rfl) (by exact JS (Below.refl _ _).drew) (fun hHeld => ?_)
              refine mvR 0 (some 16) hHeld ?_
              refine take_one 1 (by kernel_rfl) rfl (fun K hK => ?_)
              go_simp
              ((with_reducible refine (HVN.out _).mono ?_); rintro e w6 ⟨rfl, hb6⟩)
              try go_wp2_with fail
              refine hK.out _ _ (by exact JS (hHeld.2.2.trans (hb6.mono hHeld.2.2.size))) (fun hHeld => ?_)
              clear hK K
              refine mvR 2 (some 18) hHeld ?_
              refine mvR 3 (some 19) hHeld ?_
              refine mvR 4 (some 20) hHeld ?_
              refine mvR 5 (some 21) hHeld ?_
              refine mvR 6 (some 22) hHeld ?_
              refine mvR 7 (some 23) hHeld ?_
              refine mvR 8 (some 24) hHeld ?_
              refine mvR 9 (some 25) hHeld ?_
              refine mvR 10 (some 26) hHeld ?_
              refine mvR 11 (some 27) hHeld ?_
              refine mvR 12 (some 28) hHeld ?_
              refine mvR 13 (some 29) hHeld ?_
              refine mvR 14 (some 30) hHeld ?_
              refine mvR 15 (some 31) hHeld ?_
              refine mvR 16 (some 32) hHeld ?_
              refine mvR 17 (some 33) hHeld ?_
              refine mvR 18 (some 34) hHeld ?_
              refine mvR 19 (some 35) hHeld ?_
              refine take_one 20 (by kernel_rfl) rfl (fun K hK => ?_)
              go_simp
              ((with_reducible refine (HHT1.out _ hHeld.2.2).mono ?_); rintro e w7 ⟨rfl, hb7⟩)
              try go_wp2_with fail
              refine hK.out _ _ (by exact JS (hHeld.2.2.trans (hb7.mono hHeld.2.2.size))) (fun hHeld => ?_)
              clear hK K
              refine mvR 21 (some 37) hHeld ?_
              refine mvR 22 (some 38) hHeld ?_
              refine wpAnyH_done (by kernel_rfl) ?_ _
              refine NoPanic.normal ?_
              have L9 := hHeld.2.2
              clear hHeld JS
              have HC9 := hide (HC.out.on (HLW.out L9))
              have HB9 := hide (HBW.out L9)
              go_wp2
              exact ⟨⟨k + 1, lb, lk, us, by omega, by go_num, HNZ.out, HC9.out, HB9.out⟩, by simp [intOf]; omega⟩
          · have HNZ : Hid (LL us (noteL me log (ss.take (k + 1)))) := HNO.out (by rw [HNB.out, decide_eq_false hme]; simp)
            have hme' : (vu == me) = false := by simp [hme]
            clear HNB HNO HYE HHT
            refine wp_region_noPanic ?_
            refine wp_region_held_drew (S := (fun w' => ((w'.cell? ⟨wr.heap.size, 0, none⟩ = some (.int .i64 vk) ∧ w'.cell? ⟨wr.heap.size, 1, none⟩ = some (.int .i64 vt) ∧ w'.cell? ⟨wr.heap.size, 2, none⟩ = some (.int .i64 vu) ∧ w'.cell? ⟨wr.heap.size, 3, none⟩ = some (.slice va vts.length vc) ∧ w'.cell? ⟨wr.heap.size, 4, none⟩ = some (.string vs') ∧ w'.cell? ⟨wr.heap.size, 5, none⟩ = some (.bool vg)) ∧ (w'.cell? ⟨C, 1, none⟩ = some (.int .i64 me) ∧ w'.cell? ⟨C, 3, none⟩ = some (.slice lb us.length lk)) ∧ Below W5.heap.size W5 w'))) (by kernel_rfl) (by exact JS (Below.refl _ _).drew) (fun hHeld => ?_)
            refine mvR 0 (some 16) hHeld ?_
            refine take_one 1 (by kernel_rfl) rfl (fun K hK => ?_)
            go_simp
            ((with_reducible refine (HVN.out _).mono ?_); rintro e w6 ⟨rfl, hb6⟩)
            try go_wp2_with fail
            refine hK.out _ _ (by exact JS (hHeld.2.2.trans (hb6.mono hHeld.2.2.size))) (fun hHeld => ?_)
            clear hK K
            refine mvR 2 (some 18) hHeld ?_
            refine mvR 3 (some 19) hHeld ?_
            refine mvR 4 (some 20) hHeld ?_
            refine mvR 5 (some 21) hHeld ?_
            refine mvR 6 (some 22) hHeld ?_
            refine mvR 7 (some 23) hHeld ?_
            refine mvR 8 (some 24) hHeld ?_
            refine mvR 9 (some 25) hHeld ?_
            refine mvR 10 (some 26) hHeld ?_
            refine mvR 11 (some 27) hHeld ?_
            refine mvR 12 (some 28) hHeld ?_
            refine mvR 13 (some 29) hHeld ?_
            refine mvS 14 (some 30) hHeld ?_
            refine mvS 15 (some 31) hHeld ?_
            refine mvS 16 (some 32) hHeld ?_
            refine mvS 17 (some 33) hHeld ?_
            refine mvS 18 (some 34) hHeld ?_
            refine mvS 19 (some 35) hHeld ?_
            refine mvS 20 (some 36) hHeld ?_
            refine mvS 21 (some 37) hHeld ?_
            refine mvR 22 (some 38) hHeld ?_
            refine wpAnyH_done (by kernel_rfl) ?_ _
            refine NoPanic.normal ?_
            have L9 := hHeld.2.2
            clear hHeld JS
            have HC9 := hide (HC.out.on (HLW.out L9))
            have HB9 := hide (HBW.out L9)
            go_wp2
            exact ⟨⟨k + 1, lb, lk, us, by omega, by go_num, HNZ.out, HC9.out, HB9.out⟩, by simp [intOf]; omega⟩
        · have ht0 : vt = 0 := by
            rcases hsl with ⟨_, h⟩ | ⟨h, _⟩
            · exact h
            · rw [hno] at h; cases h
          rw [hno] at HVN
          have HNZ : Hid (LL us (noteL me log (ss.take (k + 1)))) := HNO.out (by rw [HNB.out, decide_eq_false (by omega)]; simp)
          clear hno hsl ht0 HNB HNO HYE HHT
          refine wp_region_noPanic ?_
          refine wp_region_held_drew (S := (fun w' => ((w'.cell? ⟨wr.heap.size, 0, none⟩ = some (.int .i64 vk) ∧ w'.cell? ⟨wr.heap.size, 1, none⟩ = some (.int .i64 vt) ∧ w'.cell? ⟨wr.heap.size, 2, none⟩ = some (.int .i64 vu) ∧ w'.cell? ⟨wr.heap.size, 3, none⟩ = some (.slice va vts.length vc) ∧ w'.cell? ⟨wr.heap.size, 4, none⟩ = some (.string vs') ∧ w'.cell? ⟨wr.heap.size, 5, none⟩ = some (.bool vg)) ∧ (w'.cell? ⟨C, 1, none⟩ = some (.int .i64 me) ∧ w'.cell? ⟨C, 3, none⟩ = some (.slice lb us.length lk)) ∧ Below W5.heap.size W5 w'))) (by kernel_rfl) (by exact JS (Below.refl _ _).drew) (fun hHeld => ?_)
          refine mvR 0 (some 16) hHeld ?_
          refine take_one 1 (by kernel_rfl) rfl (fun K hK => ?_)
          go_simp
          ((with_reducible refine (HVN.out _).mono ?_); rintro e w6 ⟨rfl, hb6⟩)
          try go_wp2_with fail
          refine hK.out _ _ (by exact JS (hHeld.2.2.trans (hb6.mono hHeld.2.2.size))) (fun hHeld => ?_)
          clear hK K
          refine mvR 2 (some 18) hHeld ?_
          refine mvR 3 (some 19) hHeld ?_
          refine mvS 4 (some 20) hHeld ?_
          refine mvS 5 (some 21) hHeld ?_
          refine mvS 6 (some 22) hHeld ?_
          refine mvS 7 (some 23) hHeld ?_
          refine mvS 8 (some 24) hHeld ?_
          refine mvS 9 (some 25) hHeld ?_
          refine mvS 10 (some 26) hHeld ?_
          refine mvS 11 (some 27) hHeld ?_
          refine mvR 12 (some 28) hHeld ?_
          refine mvR 13 (some 29) hHeld ?_
          refine mvS 14 (some 30) hHeld ?_
          refine mvS 15 (some 31) hHeld ?_
          refine mvS 16 (some 32) hHeld ?_
          refine mvS 17 (some 33) hHeld ?_
          refine mvS 18 (some 34) hHeld ?_
          refine mvS 19 (some 35) hHeld ?_
          refine mvS 20 (some 36) hHeld ?_
          refine mvS 21 (some 37) hHeld ?_
          refine mvR 22 (some 38) hHeld ?_
          refine wpAnyH_done (by kernel_rfl) ?_ _
          refine NoPanic.normal ?_
          have L9 := hHeld.2.2
          clear hHeld JS
          have HC9 := hide (HC.out.on (HLW.out L9))
          have HB9 := hide (HBW.out L9)
          go_wp2
          exact ⟨⟨k + 1, lb, lk, us, by omega, by go_num, HNZ.out, HC9.out, HB9.out⟩, by simp [intOf]; omega⟩
    · have hkn : k = n := by omega
      subst hkn
      clear hlt
      have HUA := hide (note_all HU.out HN.out)
      have K0 := (show Blk wr C 73 (ctAt me ck (some ⟨G, 0, none⟩) ns.length cc lb us.length lk ga gs.length gc fell) from HC.out.blk)
      have k0 := K0.six
      have HTL : Hid (LL us (noteL me log (tailSS ns))) := by rw [HTA.out]; exact HUA.out
      have hn5 : ns.length ≤ 1048576 := by have := HPP.out; have := HP4.out; omega
      have CN := hide (containsNodes_any 77 #[] (fun n => decide (0 < n.ws.length)) (some ⟨G, 0, none⟩) cc ns wr hn5 HC.out.chain.cg (run_enterV Tryz.func77 (by kernel_rfl) rfl) (fun _ n _ W _ => recWait_any n W))
      have HST := hide (still_any ns)
      generalize (ns.any fun n => decide (0 < n.ws.length)) = aw at CN HST
      clear K0 HU
      go_wp2_with fail
      with_reducible refine CN.out.mono ?_
      rintro e w3 ⟨rfl, hb3⟩
      have HC3 := hide (HC.out.on hb3)
      have HB3 := hide (HB.out.trans (hb3.mono (by have := HBZ.out; have := HB.out.size; omega)))
      have k3 := (HC3.out.blk.loose 5)
      have k4 := (HC3.out.blk.at 5)
      clear hb3 CN k0
      cases aw
      · have HFS := hide (HC3.out.fellSet false)
        go_wp2
        refine bodyPost_end (v := .tuple #[]) (by simp [results, Tryz.results32, go_sem]) rfl ?_
        refine ⟨rfl, ⟨⟨me, ck, some ⟨G, 0, none⟩, cc, ns, lb, lk, us, ga, gc, gs, false⟩, ⟨rfl, rfl, nl_self _, HTL.out, lls_refl _, ?_⟩, HFS.out⟩, HB3.out.setCell HLO.out _⟩
        show false = (fell && !stillB ns)
        rw [← HST.out]
        simp
      · clear k3 k4
        go_wp2
        refine bodyPost_end (v := .tuple #[]) (by simp [results, Tryz.results32, go_sem]) rfl ?_
        refine ⟨rfl, ⟨⟨me, ck, some ⟨G, 0, none⟩, cc, ns, lb, lk, us, ga, gc, gs, fell⟩, ⟨rfl, rfl, nl_self _, HTL.out, lls_refl _, ?_⟩, HC3.out⟩, HB3.out⟩
        show fell = (fell && !stillB ns)
        rw [← HST.out]
        simp
end Go.Proofs.YtnaggcdhimcilaaGreat
/- A step of the chain as a need of a change. Condition: what is said of the step. -/
namespace Go.Proofs.YtnaggcdhimcilaaGreat
open Go.RowKit Go.Joins
attribute [local go_sem ↓] Go.wp_at_zero Go.wp_at_succ

theorem store_fn2 (P : Program) (w : World) (a : Addr) (fn : Fn) (x y : Array Value) (m : Mode) : (store a (.func fn x y) m).run P w = stored P w a (.func fn x y) m := run_store P w a _ m rfl
attribute [local go_sem] store_fn2
set_option maxHeartbeats 1000000 in
theorem atChain_any (N : Nat) (caps : Array Value) (w : World) :
    Calls Tryz.prog 28 #[.func (.func N) #[] caps] w fun e w' => e = .returned (.func (.func 64) #[] #[.pointer (some ⟨w.heap.size, 0, none⟩)]) ∧ Blk w' w.heap.size 60 #[.func (.func N) #[] caps] ∧ Below w.heap.size w w' := by
  have HB := hide (Blk.made w 60 #[.func (.func N) #[] caps])
  have HL := hide (below_alloc1 w (.cells #[.func (.func N) #[] caps] 60))
  go_enter Tryz.func28, Tryz.ntmps28
  go_wp2
  go_ret
  exact ⟨rfl, HB.out, HL.out⟩
/-- A place whose chain another takes the place of. -/
theorem Ctr.swap {W W' : World} {B C : Nat} {q : Pl} {A : Option Addr} {cap : Nat} {us : List Nd} (h : Ctr W B C q) (hb : Below W.heap.size W W') (hr : ResN W' W.heap.size W'.heap.size A us) :
    Ctr (W'.setCell ⟨C, 0, none⟩ (.slice A us.length cap)) B C ⟨q.me, q.ck, A, cap, us, q.la, q.lc, q.log, q.ga, q.gc, q.gs, q.fell⟩ := by
  have hW := h.on hb
  have ht : Turn (fun g => g = C) W' (W'.setCell ⟨C, 0, none⟩ (.slice A us.length cap)) := (Turn.refl (fun g => g = C) W').set (p := ⟨C, 0, none⟩) rfl _
  have hz : (W'.setCell ⟨C, 0, none⟩ (.slice A us.length cap)).heap.size = W'.heap.size := by simp [World.setCell]
  have hCi := h.blk.inside
  have zb := hb.size
  have hlo := h.lo
  have f1 : ∀ g, FootC A us g → W.heap.size ≤ g := fun g hf => (hr.foot hf).1
  have f2 : ∀ g, FootV q.la q.lc q.log g → g < W.heap.size := fun g hf => (h.log.foot hf).2
  have f3 : ∀ g, FootH (.slice q.ga q.gs.length q.gc) q.gs g → g < W.heap.size := fun g hf => (h.got.foot hf).2
  refine ⟨?_, h.lo, ?_, hW.log.turnP ht (fun g hf e => h.nl (e ▸ hf)), hW.got.turned ht (fun g hf e => h.ng (e ▸ hf)), fun g a b => by have := f1 g a; have := f2 g b; omega, fun g a b => by have := f1 g a; have := f3 g b; omega, h.lg, fun a => by have := f1 C a; omega, h.nl, h.ng⟩
  · have := hW.blk.put 0 (.slice A us.length cap)
    simpa [ctC] using this
  · rw [hz]
    exact (hr.turnF ht (fun g hf e => by have := f1 g hf; omega)).wide (by omega) (Nat.le_refl _)
set_option maxRecDepth 100000 in
set_option maxHeartbeats 4000000 in
theorem atChainStep_any (w0 : World) (b N : Nat) (caps : Array Value) (r : Pl) (rs : List Nd) (ob : Bool) (hb : Blk w0 b 60 #[.func (.func N) #[] caps]) (hN : EnteredV N)
    (hstep : ∀ W q B C, Below w0.heap.size w0 W → LP q r → Ctr W B C q → Calls Tryz.prog N (#[.agg #[.slice q.ca q.ns.length q.cc]] ++ caps) W (AnswerCB W rs ob)) :
    NeedOk w0 64 #[.pointer (some ⟨b, 0, none⟩)] r (chP r rs) ob := by
  intro W C q hW hq hC
  have HS := hide (fun W' hb' => hstep W' q w0.heap.size C (hW.trans (hb'.mono hW.size)) hq (hC.on hb'))
  have HF := hide (fun W' (hb' : Below W.heap.size W W') => (hb.on hW).on hb')
  have HC := hide hC
  have HQ := hide hq
  have HW := hide hW
  unfold EnteredV at hN
  have hlo := hC.lo
  clear hstep hb hW hq hC
  obtain ⟨me, ck, ca, cc, ns, la, lc, log, ga, gc, gs, fell⟩ := q
  have B0 : Hid (∀ W', Below W.heap.size W W' → Blk W' C 73 (ctAt me ck ca ns.length cc la log.length lc ga gs.length gc fell)) := fun W' h => HC.out.blk.on h
  simp only at HS
  go_enter Tryz.func64, Tryz.ntmps64
  go_wp2_with fail
  have f1 := (HF.out W (Below.refl _ _)).one.1
  have c1 := (B0.out W (Below.refl _ _)).six
  refine wp_region_noPanic ?_
  refine wp_region_held_drew (S := (fun w' => Below w0.heap.size w0 w')) (by kernel_rfl) (by exact HW.out.drew) (fun hHeld => ?_)
  refine mvR 0 (some 5) hHeld ?_
  refine mvR 2 (some 7) hHeld ?_
  refine mvR 3 (some 8) hHeld ?_
  refine mvR 4 (some 9) hHeld ?_
  refine wpAnyH_ready (rs := [1, 5]) (by kernel_rfl) (by simp) ?_
  refine AllReadyH.cons rfl (fun K hK => ?_) (AllReadyH.cons rfl (fun K hK => ?_) AllReadyH.nil)
  · skip
    go_simp
    refine hK.out _ _ (by exact hHeld) (fun hHeld => ?_)
    clear hK K
    refine take_one 5 (by kernel_rfl) rfl (fun K hK => ?_)
    go_simp
    refine hK.out _ _ (by exact hHeld) (fun hHeld => ?_)
    clear hK K
    refine take_one 6 (by kernel_rfl) rfl (fun K hK => ?_)
    go_simp
    ((with_reducible refine (HS.out _ (Below.refl _ _).drew).mono ?_); rintro e w1 ⟨A1, cap1, us1, rfl, hn1, hR1, hb1⟩; rw [← hn1.1]; have HR1 := hide hR1; have HN1 := hide hn1; have HB1 := hide (show Below W.heap.size W w1 from (Below.refl _ _).drew.trans (hb1.mono (Nat.le_refl _))); have c2 := (B0.out _ HB1.out).six; clear hn1 hR1)
    try go_wp2_with fail
    refine hK.out _ _ (by exact HW.out.trans (HB1.out.mono HW.out.size)) (fun hHeld => ?_)
    clear hK K
    refine mvR 7 (some 4) hHeld ?_
    refine mvR 8 (some 12) hHeld ?_
    refine mvR 9 (some 13) hHeld ?_
    refine mvR 10 (some 14) hHeld ?_
    refine mvR 11 (some 15) hHeld ?_
    refine take_one 12 (by kernel_rfl) rfl (fun K hK => ?_)
    go_simp
    refine hK.out _ _ (by exact hHeld.setCell (by simp only; omega) _) (fun hHeld => ?_)
    clear hK K
    refine mvR 13 (some 3) hHeld ?_
    refine wpAnyH_done (by kernel_rfl) ?_ _
    refine NoPanic.normal ?_
    skip
    clear hHeld c2 f1 c1
    go_wp2
    go_ret
    exact ⟨rfl, ⟨⟨me, ck, A1, cap1, us1, la, lc, log, ga, gc, gs, fell⟩, ⟨HQ.out.1, HQ.out.2.1, HN1.out, HQ.out.2.2.2.1, HQ.out.2.2.2.2.1, HQ.out.2.2.2.2.2⟩, HC.out.swap HB1.out HR1.out⟩, (HB1.out.mono HW.out.size).setCell (by simp only; omega) _⟩
  · skip
    go_simp
    refine hK.out _ _ (by exact hHeld) (fun hHeld => ?_)
    clear hK K
    refine take_one 1 (by kernel_rfl) rfl (fun K hK => ?_)
    go_simp
    refine hK.out _ _ (by exact hHeld) (fun hHeld => ?_)
    clear hK K
    refine take_one 6 (by kernel_rfl) rfl (fun K hK => ?_)
    go_simp
    ((with_reducible refine (HS.out _ (Below.refl _ _).drew).mono ?_); rintro e w1 ⟨A1, cap1, us1, rfl, hn1, hR1, hb1⟩; rw [← hn1.1]; have HR1 := hide hR1; have HN1 := hide hn1; have HB1 := hide (show Below W.heap.size W w1 from (Below.refl _ _).drew.trans (hb1.mono (Nat.le_refl _))); have c2 := (B0.out _ HB1.out).six; clear hn1 hR1)
    try go_wp2_with fail
    refine hK.out _ _ (by exact HW.out.trans (HB1.out.mono HW.out.size)) (fun hHeld => ?_)
    clear hK K
    refine mvR 7 (some 4) hHeld ?_
    refine mvR 8 (some 12) hHeld ?_
    refine mvR 9 (some 13) hHeld ?_
    refine mvR 10 (some 14) hHeld ?_
    refine mvR 11 (some 15) hHeld ?_
    refine take_one 12 (by kernel_rfl) rfl (fun K hK => ?_)
    go_simp
    refine hK.out _ _ (by exact hHeld.setCell (by simp only; omega) _) (fun hHeld => ?_)
    clear hK K
    refine mvR 13 (some 3) hHeld ?_
    refine wpAnyH_done (by kernel_rfl) ?_ _
    refine NoPanic.normal ?_
    skip
    clear hHeld c2 f1 c1
    go_wp2
    go_ret
    exact ⟨rfl, ⟨⟨me, ck, A1, cap1, us1, la, lc, log, ga, gc, gs, fell⟩, ⟨HQ.out.1, HQ.out.2.1, HN1.out, HQ.out.2.2.2.1, HQ.out.2.2.2.2.1, HQ.out.2.2.2.2.2⟩, HC.out.swap HB1.out HR1.out⟩, (HB1.out.mono HW.out.size).setCell (by simp only; omega) _⟩
end Go.Proofs.YtnaggcdhimcilaaGreat
/- Contract of the program's pass: the first that waits at a node of a chain of the caller's own comes to the next one, if that has room. Condition: at most four nodes, all valid. -/
namespace Go.Proofs.YtnaggcdhimcilaaGreat
open Go.RowKit Go.Joins
attribute [local go_sem ↓] Go.wp_at_zero Go.wp_at_succ

/-- What pass leaves. -/
def PassedP (w : World) (base G xc : Nat) (us : List Nd) (k : Nat) (e : Ending) (w' : World) : Prop :=
  ∃ us' : List Nd, e = .returned (.bool (canB us k)) ∧ NL us' (if canB us k = true then goN us k else us) ∧ GRow base w' (.slice (some ⟨G, 0, none⟩) us.length xc) us' ∧ Turn (TouchC w base) w w'
theorem GRow.cgs {base : Nat} {w : World} {G xc : Nat} {us : List Nd} (hG : GRow base w (.slice (some ⟨G, 0, none⟩) us.length xc) us) (h1 : 0 < us.length) : ∃ cur, Cg w G us cur := by
  obtain ⟨_, hR⟩ := hG.res
  rcases hR with h0 | ⟨G', cur, e, hR⟩
  · rw [h0] at h1; simp at h1
  · injection e with e
    injection e with e
    subst e
    exact ⟨cur, hR.cg⟩
/-- What waits, where something does. -/
theorem CRow.first {base : Nat} {w : World} {A : Option Addr} {c : Nat} {v : V} {r : List V} (h : CRow base w (.slice A (r.length + 1) c) (v :: r)) : ∃ g : Nat, A = some ⟨g, 0, none⟩ ∧ g < w.heap.size ∧ r.length + 1 ≤ c ∧ Six w g 0 v ∧ Vg w w.heap.size (some ⟨g, 6, none⟩) r ∧ Own1 w 0 w.heap.size v := by
  obtain ⟨A', cap', e', hR⟩ := h.resS
  injection e' with e' _ _
  subst e'
  have hvg := hR.vg
  rcases h.row.2 with ⟨_, e⟩ | ⟨g, cap, cr, e, q1, q2, q3, _⟩
  · simp at e
  · injection e with e _ e2
    subst e2
    subst e
    have hlt : g < w.heap.size := Blk.inside (show Blk w g 96 cr from q2)
    refine ⟨g, rfl, hlt, q3, ?_, by have := hvg.tail; simpa using this, (h.own 0 v rfl).low (Nat.zero_le _)⟩
    rcases hvg with q | ⟨b, off, e, _, hx⟩
    · cases q
    · injection e with e
      injection e with e1 e2
      subst e1 e2
      exact (hx 0 v rfl).1
end Go.Proofs.YtnaggcdhimcilaaGreat
/- Contract of the program's ChainPass. Condition: sizes that memory holds. -/
namespace Go.Proofs.YtnaggcdhimcilaaGreat
open Go.RowKit Go.Joins
attribute [local go_sem ↓] Go.wp_at_zero Go.wp_at_succ

set_option maxRecDepth 100000 in
set_option maxHeartbeats 2000000 in
/-- There is no such node. -/
theorem linkAt_out (G n c : Nat) (k : Int) (w : World) (hk : k < 0 ∨ (n : Int) ≤ k) :
    Calls Tryz.prog 67 #[.slice (some ⟨G, 0, none⟩) n c, .int .i64 k] w fun e w' => e = .returned (.pointer none) ∧ Below w.heap.size w w' := by
  have S0 := ((Inv.start w).box 30 #[.slice (some ⟨G, 0, none⟩) n c]).box 3 #[.int .i64 k]
  simp only [World.size_alloc] at S0
  by_cases h0 : k < 0
  · go_enter Tryz.func67, Tryz.ntmps67
    go_wp2
    go_ret
    exact ⟨rfl, S0.below⟩
  · have h1 : k ≥ (n : Int) := by omega
    go_enter Tryz.func67, Tryz.ntmps67
    go_wp2
    go_ret
    exact ⟨rfl, S0.below⟩
end Go.Proofs.YtnaggcdhimcilaaGreat
/- Contract of PlacePass, in the program. Condition: sizes that memory holds. -/
namespace Go.Proofs.YtnaggcdhimcilaaGreat
open Go.RowKit Go.Joins
attribute [local go_sem ↓] Go.wp_at_zero Go.wp_at_succ

theorem store_fn4 (P : Program) (w : World) (a : Addr) (fn : Fn) (x y : Array Value) (m : Mode) : (store a (.func fn x y) m).run P w = stored P w a (.func fn x y) m := run_store P w a _ m rfl
attribute [local go_sem] store_fn4
/-- What PlacePass answers. -/
def passP (p : Pl) (k : Int) : Pl := if plB p = true then (if passK p.ns k = true then noteP (chP p (passN p.ns k)) else chP p (passN p.ns k)) else noP
def passPK (p : Pl) (k : Int) : Bool := plB p && passK p.ns k
theorem chP_like' {p q : Pl} {us ns : List Nd} (h : LP p q) (hn : NL us ns) : LP (chP p us) (chP q ns) := ⟨h.1, h.2.1, hn, h.2.2.2.1, h.2.2.2.2.1, h.2.2.2.2.2⟩
theorem fineP_ch' {p : Pl} {ns : List Nd} (h : FineP p) (hn : FineN ns) : FineP (chP p ns) := ⟨hn, h.2.1, h.2.2.1, h.2.2.2⟩
end Go.Proofs.YtnaggcdhimcilaaGreat
/- A slice put behind one that is the call's own: it may be empty. No condition. -/
namespace Go.Proofs.YtnaggcdhimcilaaGreat
open Go.RowKit Go.Joins
attribute [local go_sem ↓] Go.wp_at_zero Go.wp_at_succ

section
variable {P : Program} (w : World)
theorem run_append_more (t ty : TypeId) (base : Nat) (e : TypeId) (i : TypeInfo) (z : Value) (size bytes : Nat) (ht : P.underlying t = some (.slice e)) (hi : P.info? e = some i) (hz : i.zero = some z)
    (hsize : i.size = size) (hby : i.bytes = bytes) (hzs : z.cells.size = size) (hsz : 0 < size)
    (g0 n c0 : Nat) (xs : List Value) (hown : w.ownsRow base e size (.slice (some ⟨g0, 0, none⟩) n c0) n xs)
    (ax : Option Addr) (m c : Nat) (news : List Value) (hl : news.length = m * size) (hax : m ≠ 0 → ∃ ad, ax = some ad ∧ ∀ j u, news[j]? = some u → w.cell? (ad.add j) = some u) (h1 : ∀ u ∈ news, u.oneCell' = true)
    (h63 : n + m ≤ maxLen) (hbytes : (n + m) * bytes ≤ 140737488355328) (hbase : base ≤ w.heap.size) (H : Nat) (hH : w.heap.size = H) :
    ∃ g cap w', (Builtin.append_ #[t, t] ty #[.slice (some ⟨g0, 0, none⟩) n c0, .slice ax m c]).run P w = .ok (.slice (some ⟨g, 0, none⟩) (n + m) cap) w' ∧
      w'.ownsRow base e size (.slice (some ⟨g, 0, none⟩) (n + m) cap) (n + m) (xs ++ news) ∧ w.grownBy w' (some g0) ∧ (g = g0 ∨ g = H) := by
  by_cases h0 : m = 0
  · subst h0
    have hn : news = [] := List.length_eq_zero_iff.1 (by omega)
    subst hn
    have hc : n ≤ c0 := by
      rcases hown.2 with ⟨q, _⟩ | ⟨g, cap, cr, q, _, _, h3, _⟩
      · cases q
      · injection q with _ _ q
        omega
    refine ⟨g0, c0, w, ?_, by simpa using hown, ⟨rfl, rfl, rfl, Nat.le_refl _, fun _ _ _ => rfl⟩, .inl rfl⟩
    cases ax <;> simp [Builtin.append_, run_underlying ht, sizeOf, typeInfo, hi, Builtin.lenOf, Builtin.firstCells, storeCells, loadCells, loadCellsFrom, hc]
  · obtain ⟨ad, rfl, hnews⟩ := hax h0
    obtain ⟨g, cap, w', hr, h2, h3, h4, _⟩ := run_append_lies (P := P) w t ty base e i z size bytes ht hi hz hsize hby hzs hsz _ n xs hown ad m c news hl hnews h1 (by omega) h63 hbytes hbase H hH
    refine ⟨g, cap, w', hr, h2, h3, ?_⟩
    rcases h4 with h4 | h4
    · simp only [Value.ownBlock] at h4
      injection h4 with h4
      exact .inl h4.symm
    · exact .inr h4
theorem wp_append_more {o : Oper} {a : Act} {K : Act → World → Prop} {Q : Exit → Act → World → Prop} (s x : Operand) (t : TypeId)
    (ho : o.op = .call { callee := .builtin .append, args := #[s, x], argTypes := #[t, t] })
    (base : Nat) (e : TypeId) (i : TypeInfo) (z : Value) (size bytes : Nat) (ht : P.underlying t = some (.slice e)) (hi : P.info? e = some i) (hz : i.zero = some z)
    (hsize : i.size = size) (hby : i.bytes = bytes) (hzs : z.cells.size = size) (hsz : 0 < size)
    (g0 n c0 : Nat) (xs : List Value) (hs : a.eval s = .slice (some ⟨g0, 0, none⟩) n c0) (hown : w.ownsRow base e size (.slice (some ⟨g0, 0, none⟩) n c0) n xs)
    (ax : Option Addr) (m c : Nat) (news : List Value) (hx : a.eval x = .slice ax m c) (hl : news.length = m * size) (hax : m ≠ 0 → ∃ ad, ax = some ad ∧ ∀ j u, news[j]? = some u → w.cell? (ad.add j) = some u) (h1 : ∀ u ∈ news, u.oneCell' = true)
    (h63 : n + m ≤ maxLen) (hbytes : (n + m) * bytes ≤ 140737488355328) (hbase : base ≤ w.heap.size) (H : Nat) (hH : w.heap.size = H)
    (h : ∀ g cap w', w'.ownsRow base e size (.slice (some ⟨g, 0, none⟩) (n + m) cap) (n + m) (xs ++ news) → w.grownBy w' (some g0) → (g = g0 ∨ g = H) → K (a.put o.dst (.slice (some ⟨g, 0, none⟩) (n + m) cap)) w') : o.wp P a w K Q := by
  obtain ⟨g, cap, w', hr, h2, h3, h4⟩ := run_append_more (P := P) w t o.type base e i z size bytes ht hi hz hsize hby hzs hsz g0 n c0 xs hown ax m c news hl hax h1 h63 hbytes hbase H hH
  unfold Oper.wp execOp
  simp only [ho, resolve, invoke, builtin, Sem.run_bind, Sem.run_pure, Result.andThen_ok, List.map_toArray, List.map_cons, List.map_nil, hs, hx, hr]
  exact h g cap w' h2 h3 h4
theorem wpList_append_more {ops : Array Oper} {rest : List Oper} {o : Oper} {a : Act} {Q : Exit → Act → World → Prop} (hgd : o.guard = none) (s x : Operand) (t : TypeId)
    (ho : o.op = .call { callee := .builtin .append, args := #[s, x], argTypes := #[t, t] })
    (base : Nat) (e : TypeId) (i : TypeInfo) (z : Value) (size bytes : Nat) (ht : P.underlying t = some (.slice e)) (hi : P.info? e = some i) (hz : i.zero = some z)
    (hsize : i.size = size) (hby : i.bytes = bytes) (hzs : z.cells.size = size) (hsz : 0 < size)
    (g0 n c0 : Nat) (xs : List Value) (hs : a.eval s = .slice (some ⟨g0, 0, none⟩) n c0) (hown : w.ownsRow base e size (.slice (some ⟨g0, 0, none⟩) n c0) n xs)
    (ax : Option Addr) (m c : Nat) (news : List Value) (hx : a.eval x = .slice ax m c) (hl : news.length = m * size) (hax : m ≠ 0 → ∃ ad, ax = some ad ∧ ∀ j u, news[j]? = some u → w.cell? (ad.add j) = some u) (h1 : ∀ u ∈ news, u.oneCell' = true)
    (h63 : n + m ≤ maxLen) (hbytes : (n + m) * bytes ≤ 140737488355328) (hbase : base ≤ w.heap.size) (H : Nat) (hH : w.heap.size = H)
    (h : ∀ g cap w', w'.ownsRow base e size (.slice (some ⟨g, 0, none⟩) (n + m) cap) (n + m) (xs ++ news) → w.grownBy w' (some g0) → (g = g0 ∨ g = H) → wpList P ops Q rest (a.put o.dst (.slice (some ⟨g, 0, none⟩) (n + m) cap)) w') : wpList P ops Q (o :: rest) a w :=
  wpList_plain hgd fun _ hK => wp_append_more w s x t ho base e i z size bytes ht hi hz hsize hby hzs hsz g0 n c0 xs hs hown ax m c news hx hl hax h1 h63 hbytes hbase H hH fun g cap w' h2 h3 h4 => hK _ _ (h g cap w' h2 h3 h4)
theorem step_append_more {ops : Array Oper} {o : Oper} {a : Act} {K : Act → World → Prop} {Q : Exit → Act → World → Prop} {E : Prop} (hgd : o.guard = none) (s x : Operand) (t : TypeId)
    (ho : o.op = .call { callee := .builtin .append, args := #[s, x], argTypes := #[t, t] })
    (base : Nat) (e : TypeId) (i : TypeInfo) (z : Value) (size bytes : Nat) (ht : P.underlying t = some (.slice e)) (hi : P.info? e = some i) (hz : i.zero = some z)
    (hsize : i.size = size) (hby : i.bytes = bytes) (hzs : z.cells.size = size) (hsz : 0 < size)
    (g0 n c0 : Nat) (xs : List Value) (hs : a.eval s = .slice (some ⟨g0, 0, none⟩) n c0) (hown : w.ownsRow base e size (.slice (some ⟨g0, 0, none⟩) n c0) n xs)
    (ax : Option Addr) (m c : Nat) (news : List Value) (hx : a.eval x = .slice ax m c) (hl : news.length = m * size) (hax : m ≠ 0 → ∃ ad, ax = some ad ∧ ∀ j u, news[j]? = some u → w.cell? (ad.add j) = some u) (h1 : ∀ u ∈ news, u.oneCell' = true)
    (h63 : n + m ≤ maxLen) (hbytes : (n + m) * bytes ≤ 140737488355328) (hbase : base ≤ w.heap.size) (H : Nat) (hH : w.heap.size = H)
    (h : ∀ g cap w', w'.ownsRow base e size (.slice (some ⟨g, 0, none⟩) (n + m) cap) (n + m) (xs ++ news) → w.grownBy w' (some g0) → (g = g0 ∨ g = H) → K (a.put o.dst (.slice (some ⟨g, 0, none⟩) (n + m) cap)) w') :
    if Region.wanted o (yielded ops a.tmps) = true then Oper.wp P o a w K Q else E := by
  have hw : Region.wanted o (yielded ops a.tmps) = true := by simp [Region.wanted, hgd]
  rw [if_pos hw]
  exact wp_append_more w s x t ho base e i z size bytes ht hi hz hsize hby hzs hsz g0 n c0 xs hs hown ax m c news hx hl hax h1 h63 hbytes hbase H hH h
end
end Go.Proofs.YtnaggcdhimcilaaGreat
