/- A step of the chain as a need of a change. Condition: what is said of the step. -/
import Derived.Test.YtnaggcdhimcilaaGreatJChange
import Derived.Test.YtnaggcdhimcilaaGreatJChainPass
import Derived.Test.YtnaggcdhimcilaaGreatJChainClone2
namespace Go.Proofs.YtnaggcdhimcilaaGreat
open Go.RowKit Go.Joins
attribute [local go_sem ↓] Go.wp_at_zero Go.wp_at_succ

theorem store_fn2 (P : Program) (w : World) (a : Addr) (fn : Fn) (x y : Array Value) (m : Mode) : (store a (.func fn x y) m).run P w = stored P w a (.func fn x y) m := run_store P w a _ m rfl
attribute [local go_sem] store_fn2
set_option maxHeartbeats 1000000 in
theorem atChain_any (N : Nat) (caps : Array Value) (w : World) :
    Calls Tryz.prog 28 #[.func (.func N) #[] caps] w fun e w' => e = .returned (.func (.func 64) #[] #[.pointer (some ⟨w.heap.size, 0, none⟩)]) ∧ Blk w' w.heap.size 60 #[.func (.func N) #[] caps] ∧ Below w.heap.size w w' := by
  have HB := hide (Blk.made w 60 #[.func (.func N) #[] caps])
  have HL := hide (below_alloc1 w (.cells #[.func (.func N) #[] caps] 60))
  go_enter Tryz.func28, Tryz.ntmps28
  go_wp2
  go_ret
  exact ⟨rfl, HB.out, HL.out⟩
/-- A place whose chain another takes the place of. -/
theorem Ctr.swap {W W' : World} {B C : Nat} {q : Pl} {A : Option Addr} {cap : Nat} {us : List Nd} (h : Ctr W B C q) (hb : Below W.heap.size W W') (hr : ResN W' W.heap.size W'.heap.size A us) :
    Ctr (W'.setCell ⟨C, 0, none⟩ (.slice A us.length cap)) B C ⟨q.me, q.ck, A, cap, us, q.la, q.lc, q.log, q.ga, q.gc, q.gs, q.fell⟩ := by
  have hW := h.on hb
  have ht : Turn (fun g => g = C) W' (W'.setCell ⟨C, 0, none⟩ (.slice A us.length cap)) := (Turn.refl (fun g => g = C) W').set (p := ⟨C, 0, none⟩) rfl _
  have hz : (W'.setCell ⟨C, 0, none⟩ (.slice A us.length cap)).heap.size = W'.heap.size := by simp [World.setCell]
  have hCi := h.blk.inside
  have zb := hb.size
  have hlo := h.lo
  have f1 : ∀ g, FootC A us g → W.heap.size ≤ g := fun g hf => (hr.foot hf).1
  have f2 : ∀ g, FootV q.la q.lc q.log g → g < W.heap.size := fun g hf => (h.log.foot hf).2
  have f3 : ∀ g, FootH (.slice q.ga q.gs.length q.gc) q.gs g → g < W.heap.size := fun g hf => (h.got.foot hf).2
  refine ⟨?_, h.lo, ?_, hW.log.turnP ht (fun g hf e => h.nl (e ▸ hf)), hW.got.turned ht (fun g hf e => h.ng (e ▸ hf)), fun g a b => by have := f1 g a; have := f2 g b; omega, fun g a b => by have := f1 g a; have := f3 g b; omega, h.lg, fun a => by have := f1 C a; omega, h.nl, h.ng⟩
  · have := hW.blk.put 0 (.slice A us.length cap)
    simpa [ctC] using this
  · rw [hz]
    exact (hr.turnF ht (fun g hf e => by have := f1 g hf; omega)).wide (by omega) (Nat.le_refl _)
set_option maxRecDepth 100000 in
set_option maxHeartbeats 4000000 in
theorem atChainStep_any (w0 : World) (b N : Nat) (caps : Array Value) (r : Pl) (rs : List Nd) (ob : Bool) (hb : Blk w0 b 60 #[.func (.func N) #[] caps]) (hN : EnteredV N)
    (hstep : ∀ W q B C, Below w0.heap.size w0 W → LP q r → Ctr W B C q → Calls Tryz.prog N (#[.agg #[.slice q.ca q.ns.length q.cc]] ++ caps) W (AnswerCB W rs ob)) :
    NeedOk w0 64 #[.pointer (some ⟨b, 0, none⟩)] r (chP r rs) ob := by
  intro W C q hW hq hC
  have HS := hide (fun W' hb' => hstep W' q w0.heap.size C (hW.trans (hb'.mono hW.size)) hq (hC.on hb'))
  have HF := hide (fun W' (hb' : Below W.heap.size W W') => (hb.on hW).on hb')
  have HC := hide hC
  have HQ := hide hq
  have HW := hide hW
  unfold EnteredV at hN
  have hlo := hC.lo
  clear hstep hb hW hq hC
  obtain ⟨me, ck, ca, cc, ns, la, lc, log, ga, gc, gs, fell⟩ := q
  have B0 : Hid (∀ W', Below W.heap.size W W' → Blk W' C 73 (ctAt me ck ca ns.length cc la log.length lc ga gs.length gc fell)) := fun W' h => HC.out.blk.on h
  simp only at HS
  go_enter Tryz.func64, Tryz.ntmps64
  go_wp2_with fail
  have f1 := (HF.out W (Below.refl _ _)).one.1
  have c1 := (B0.out W (Below.refl _ _)).six
  refine wp_region_noPanic ?_
  refine wp_region_held_drew (S := (fun w' => Below w0.heap.size w0 w')) (by kernel_rfl) (by exact HW.out.drew) (fun hHeld => ?_)
  refine take_run 0 (some 5) (v := ?_) rfl rfl (by kernel_rfl) (by kernel_rfl) (by kernel_rfl) (fun _ _ _ h => h) (by rfl) ?_ hHeld ?_
  rotate_left
  · ((intro w hSw); (try dsimp only at hSw); go_simp <;> with_reducible rfl)
  simp only [Act.put, List.setIfInBounds_toArray, List.set_cons_zero, List.set_cons_succ]
  refine take_run 2 (some 7) (v := ?_) rfl rfl (by kernel_rfl) (by kernel_rfl) (by kernel_rfl) (fun _ _ _ h => h) (by rfl) ?_ hHeld ?_
  rotate_left
  · ((intro w hSw); (try dsimp only at hSw); go_simp <;> with_reducible rfl)
  simp only [Act.put, List.setIfInBounds_toArray, List.set_cons_zero, List.set_cons_succ]
  refine take_run 3 (some 8) (v := ?_) rfl rfl (by kernel_rfl) (by kernel_rfl) (by kernel_rfl) (fun _ _ _ h => h) (by rfl) ?_ hHeld ?_
  rotate_left
  · ((intro w hSw); (try dsimp only at hSw); go_simp <;> with_reducible rfl)
  simp only [Act.put, List.setIfInBounds_toArray, List.set_cons_zero, List.set_cons_succ]
  refine take_run 4 (some 9) (v := ?_) rfl rfl (by kernel_rfl) (by kernel_rfl) (by kernel_rfl) (fun _ _ _ h => h) (by rfl) ?_ hHeld ?_
  rotate_left
  · ((intro w hSw); (try dsimp only at hSw); go_simp <;> with_reducible rfl)
  simp only [Act.put, List.setIfInBounds_toArray, List.set_cons_zero, List.set_cons_succ]
  refine wpAnyH_ready (rs := [1, 5]) (by kernel_rfl) (by simp) ?_
  refine AllReadyH.cons rfl (fun K hK => ?_) (AllReadyH.cons rfl (fun K hK => ?_) AllReadyH.nil)
  · skip
    go_simp
    refine hK.out _ _ (by exact hHeld) (fun hHeld => ?_)
    clear hK K
    refine take_one 5 (by kernel_rfl) rfl (fun K hK => ?_)
    go_simp
    refine hK.out _ _ (by exact hHeld) (fun hHeld => ?_)
    clear hK K
    refine take_one 6 (by kernel_rfl) rfl (fun K hK => ?_)
    go_simp
    ((with_reducible refine (HS.out _ (Below.refl _ _).drew).mono ?_); rintro e w1 ⟨A1, cap1, us1, rfl, hn1, hR1, hb1⟩; rw [← hn1.1]; have HR1 := hide hR1; have HN1 := hide hn1; have HB1 := hide (show Below W.heap.size W w1 from (Below.refl _ _).drew.trans (hb1.mono (Nat.le_refl _))); have c2 := (B0.out _ HB1.out).six; clear hn1 hR1)
    try go_wp2_with fail
    refine hK.out _ _ (by exact HW.out.trans (HB1.out.mono HW.out.size)) (fun hHeld => ?_)
    clear hK K
    refine take_run 7 (some 4) (v := ?_) rfl rfl (by kernel_rfl) (by kernel_rfl) (by kernel_rfl) (fun _ _ _ h => h) (by rfl) ?_ hHeld ?_
    rotate_left
    · ((intro w hSw); (try dsimp only at hSw); go_simp <;> with_reducible rfl)
    simp only [Act.put, List.setIfInBounds_toArray, List.set_cons_zero, List.set_cons_succ]
    refine take_run 8 (some 12) (v := ?_) rfl rfl (by kernel_rfl) (by kernel_rfl) (by kernel_rfl) (fun _ _ _ h => h) (by rfl) ?_ hHeld ?_
    rotate_left
    · ((intro w hSw); (try dsimp only at hSw); go_simp <;> with_reducible rfl)
    simp only [Act.put, List.setIfInBounds_toArray, List.set_cons_zero, List.set_cons_succ]
    refine take_run 9 (some 13) (v := ?_) rfl rfl (by kernel_rfl) (by kernel_rfl) (by kernel_rfl) (fun _ _ _ h => h) (by rfl) ?_ hHeld ?_
    rotate_left
    · ((intro w hSw); (try dsimp only at hSw); go_simp <;> with_reducible rfl)
    simp only [Act.put, List.setIfInBounds_toArray, List.set_cons_zero, List.set_cons_succ]
    refine take_run 10 (some 14) (v := ?_) rfl rfl (by kernel_rfl) (by kernel_rfl) (by kernel_rfl) (fun _ _ _ h => h) (by rfl) ?_ hHeld ?_
    rotate_left
    · ((intro w hSw); (try dsimp only at hSw); go_simp <;> with_reducible rfl)
    simp only [Act.put, List.setIfInBounds_toArray, List.set_cons_zero, List.set_cons_succ]
    refine take_run 11 (some 15) (v := ?_) rfl rfl (by kernel_rfl) (by kernel_rfl) (by kernel_rfl) (fun _ _ _ h => h) (by rfl) ?_ hHeld ?_
    rotate_left
    · ((intro w hSw); (try dsimp only at hSw); go_simp <;> with_reducible rfl)
    simp only [Act.put, List.setIfInBounds_toArray, List.set_cons_zero, List.set_cons_succ]
    refine take_one 12 (by kernel_rfl) rfl (fun K hK => ?_)
    go_simp
    refine hK.out _ _ (by exact hHeld.setCell (by simp only; omega) _) (fun hHeld => ?_)
    clear hK K
    refine take_run 13 (some 3) (v := ?_) rfl rfl (by kernel_rfl) (by kernel_rfl) (by kernel_rfl) (fun _ _ _ h => h) (by rfl) ?_ hHeld ?_
    rotate_left
    · ((intro w hSw); (try dsimp only at hSw); go_simp <;> with_reducible rfl)
    simp only [Act.put, List.setIfInBounds_toArray, List.set_cons_zero, List.set_cons_succ]
    refine wpAnyH_done (by kernel_rfl) ?_ _
    refine NoPanic.normal ?_
    skip
    clear hHeld c2 f1 c1
    go_wp2
    go_ret
    exact ⟨rfl, ⟨⟨me, ck, A1, cap1, us1, la, lc, log, ga, gc, gs, fell⟩, ⟨HQ.out.1, HQ.out.2.1, HN1.out, HQ.out.2.2.2.1, HQ.out.2.2.2.2.1, HQ.out.2.2.2.2.2⟩, HC.out.swap HB1.out HR1.out⟩, (HB1.out.mono HW.out.size).setCell (by simp only; omega) _⟩
  · skip
    go_simp
    refine hK.out _ _ (by exact hHeld) (fun hHeld => ?_)
    clear hK K
    refine take_one 1 (by kernel_rfl) rfl (fun K hK => ?_)
    go_simp
    refine hK.out _ _ (by exact hHeld) (fun hHeld => ?_)
    clear hK K
    refine take_one 6 (by kernel_rfl) rfl (fun K hK => ?_)
    go_simp
    ((with_reducible refine (HS.out _ (Below.refl _ _).drew).mono ?_); rintro e w1 ⟨A1, cap1, us1, rfl, hn1, hR1, hb1⟩; rw [← hn1.1]; have HR1 := hide hR1; have HN1 := hide hn1; have HB1 := hide (show Below W.heap.size W w1 from (Below.refl _ _).drew.trans (hb1.mono (Nat.le_refl _))); have c2 := (B0.out _ HB1.out).six; clear hn1 hR1)
    try go_wp2_with fail
    refine hK.out _ _ (by exact HW.out.trans (HB1.out.mono HW.out.size)) (fun hHeld => ?_)
    clear hK K
    refine take_run 7 (some 4) (v := ?_) rfl rfl (by kernel_rfl) (by kernel_rfl) (by kernel_rfl) (fun _ _ _ h => h) (by rfl) ?_ hHeld ?_
    rotate_left
    · ((intro w hSw); (try dsimp only at hSw); go_simp <;> with_reducible rfl)
    simp only [Act.put, List.setIfInBounds_toArray, List.set_cons_zero, List.set_cons_succ]
    refine take_run 8 (some 12) (v := ?_) rfl rfl (by kernel_rfl) (by kernel_rfl) (by kernel_rfl) (fun _ _ _ h => h) (by rfl) ?_ hHeld ?_
    rotate_left
    · ((intro w hSw); (try dsimp only at hSw); go_simp <;> with_reducible rfl)
    simp only [Act.put, List.setIfInBounds_toArray, List.set_cons_zero, List.set_cons_succ]
    refine take_run 9 (some 13) (v := ?_) rfl rfl (by kernel_rfl) (by kernel_rfl) (by kernel_rfl) (fun _ _ _ h => h) (by rfl) ?_ hHeld ?_
    rotate_left
    · ((intro w hSw); (try dsimp only at hSw); go_simp <;> with_reducible rfl)
    simp only [Act.put, List.setIfInBounds_toArray, List.set_cons_zero, List.set_cons_succ]
    refine take_run 10 (some 14) (v := ?_) rfl rfl (by kernel_rfl) (by kernel_rfl) (by kernel_rfl) (fun _ _ _ h => h) (by rfl) ?_ hHeld ?_
    rotate_left
    · ((intro w hSw); (try dsimp only at hSw); go_simp <;> with_reducible rfl)
    simp only [Act.put, List.setIfInBounds_toArray, List.set_cons_zero, List.set_cons_succ]
    refine take_run 11 (some 15) (v := ?_) rfl rfl (by kernel_rfl) (by kernel_rfl) (by kernel_rfl) (fun _ _ _ h => h) (by rfl) ?_ hHeld ?_
    rotate_left
    · ((intro w hSw); (try dsimp only at hSw); go_simp <;> with_reducible rfl)
    simp only [Act.put, List.setIfInBounds_toArray, List.set_cons_zero, List.set_cons_succ]
    refine take_one 12 (by kernel_rfl) rfl (fun K hK => ?_)
    go_simp
    refine hK.out _ _ (by exact hHeld.setCell (by simp only; omega) _) (fun hHeld => ?_)
    clear hK K
    refine take_run 13 (some 3) (v := ?_) rfl rfl (by kernel_rfl) (by kernel_rfl) (by kernel_rfl) (fun _ _ _ h => h) (by rfl) ?_ hHeld ?_
    rotate_left
    · ((intro w hSw); (try dsimp only at hSw); go_simp <;> with_reducible rfl)
    simp only [Act.put, List.setIfInBounds_toArray, List.set_cons_zero, List.set_cons_succ]
    refine wpAnyH_done (by kernel_rfl) ?_ _
    refine NoPanic.normal ?_
    skip
    clear hHeld c2 f1 c1
    go_wp2
    go_ret
    exact ⟨rfl, ⟨⟨me, ck, A1, cap1, us1, la, lc, log, ga, gc, gs, fell⟩, ⟨HQ.out.1, HQ.out.2.1, HN1.out, HQ.out.2.2.2.1, HQ.out.2.2.2.2.1, HQ.out.2.2.2.2.2⟩, HC.out.swap HB1.out HR1.out⟩, (HB1.out.mono HW.out.size).setCell (by simp only; omega) _⟩
end Go.Proofs.YtnaggcdhimcilaaGreat
/- Contract of PlaceJoin, in the program. Condition: sizes that memory holds. -/
namespace Go.Proofs.YtnaggcdhimcilaaGreat
open Go.RowKit Go.Joins
attribute [local go_sem ↓] Go.wp_at_zero Go.wp_at_succ

theorem store_fn3 (P : Program) (w : World) (a : Addr) (fn : Fn) (x y : Array Value) (m : Mode) : (store a (.func fn x y) m).run P w = stored P w a (.func fn x y) m := run_store P w a _ m rfl
attribute [local go_sem] store_fn3
/-- What PlaceJoin answers. -/
def joinP (p : Pl) : Pl := if plB p = true then chP p (joinN p.ns) else noP
def joinPK (p : Pl) : Bool := plB p && joinK p.ns
theorem joinP_no {p : Pl} (h : plB p = false) : joinP p = noP ∧ joinPK p = false := by unfold joinP joinPK; rw [h]; exact ⟨rfl, rfl⟩
theorem joinP_yes {p : Pl} (h : plB p = true) : joinP p = chP p (joinN p.ns) ∧ joinPK p = joinK p.ns := by unfold joinP joinPK; rw [h]; exact ⟨rfl, rfl⟩
theorem chP_like {p q : Pl} {us ns : List Nd} (h : LP p q) (hn : NL us ns) : LP (chP p us) (chP q ns) := ⟨h.1, h.2.1, hn, h.2.2.2.1, h.2.2.2.2.1, h.2.2.2.2.2⟩
set_option maxHeartbeats 1000000 in
theorem joinThen_any (w0 : World) (r : Pl) : ThenOk w0 50 #[] r r := by
  intro W C q hW hq hC
  have HQ := hide hq
  have HC := hide hC
  clear hW hq hC
  go_enter Tryz.func50, Tryz.ntmps50
  go_wp2
  refine bodyPost_end (v := .tuple #[]) (by simp [results, Tryz.results50, go_sem]) rfl ?_
  exact ⟨rfl, ⟨q, HQ.out, HC.out⟩, Below.refl _ _⟩
/-- What a change with one need comes to, for a place with joined nodes. -/
theorem chg_join {p r : Pl} {b : Bool} (h : Chg p 1 (fun i => if i = 0 then p else chP p (joinN p.ns)) (fun _ => joinK p.ns) (chP p (joinN p.ns)) r b) : r = joinP p ∧ b = joinPK p := by
  rcases h with ⟨h1, h2, h3⟩ | ⟨h1, ⟨k, hk, _, h2, h3, h4⟩ | ⟨h2, h3, h4⟩⟩
  · rw [h2, h3, (joinP_no h1).1, (joinP_no h1).2]; exact ⟨rfl, rfl⟩
  · have e2 : joinK p.ns = false := h2
    have e3 : r = chP p (joinN p.ns) := h3.trans (if_neg (by omega))
    rw [e3, h4, (joinP_yes h1).1, (joinP_yes h1).2, e2]; exact ⟨rfl, rfl⟩
  · have e2 : joinK p.ns = true := h2 0 (by omega)
    rw [h3, h4, (joinP_yes h1).1, (joinP_yes h1).2, e2]; exact ⟨rfl, rfl⟩
set_option maxRecDepth 100000 in
set_option maxHeartbeats 4000000 in
theorem implPlaceJoin_any (p : Pl) (w : World) (hm : SmP p) (hcap : p.log.length ≤ p.lc ∧ ∀ l ∈ p.gs, l.vs.length ≤ l.c) (hC : Cp w p) :
    Calls Tryz.prog 16 #[.agg (plCells p)] w (AnswerPB w (joinP p) (joinPK p)) := by
  have HCH : Hid (∀ W (nb b nc : Nat), Below w.heap.size w W → nb < W.heap.size → W.cell? ⟨nb, 0, none⟩ = some (.func (.func 64) #[] #[.pointer (some ⟨b, 0, none⟩)]) → Blk W b 60 #[.func (.func 49) #[] #[]] → Calls Tryz.prog 31 #[.agg (plCells p), .slice (some ⟨nb, 0, none⟩) 1 nc, .func (.func 50) #[] #[]] W (AnswerPB W (joinP p) (joinPK p))) := fun W nb b nc hW hnb hcell hblk => by
    refine (change_any p W nb nc [(64, #[.pointer (some ⟨b, 0, none⟩)])] 50 #[] (fun i => if i = 0 then p else chP p (joinN p.ns)) (fun _ => joinK p.ns) (chP p (joinN p.ns)) hm hcap (hC.on hW) (by simp) hnb ?_ ?_ (run_enterV Tryz.func50 (by kernel_rfl) rfl) rfl ?_ ?_).mono ?_
    · intro i m hi
      match i, hi with
      | 0, hi =>
        simp only [List.getElem?_cons_zero, Option.some.injEq] at hi
        subst hi
        exact hcell
      | i + 1, hi => simp at hi
    · intro m hmm
      rw [List.mem_singleton.1 hmm]
      exact run_enterV Tryz.func64 (by kernel_rfl) rfl
    · intro _ w0 h0 i m hi _
      match i, hi with
      | 0, hi =>
        simp only [List.getElem?_cons_zero, Option.some.injEq] at hi
        subst hi
        exact atChainStep_any w0 b 49 #[] p (joinN p.ns) (joinK p.ns) (hblk.on h0) (run_enterV Tryz.func49 (by kernel_rfl) rfl) (fun W' q B C _ hq hc => by
          have hn := hq.2.2.1
          have CT := implChainJoin_any q.ca q.cc q.ns W' (by rw [hn.1]; exact hm.1.1) (smN_like hn hm.1.2) hc.chain.cg
          refine CT.mono fun e w' ⟨A, cap, us, he, h1, h2, h3⟩ => ?_
          have hl := joinN_like hn
          exact ⟨A, cap, us, by rw [he, hl.1.1, hl.2], nl_trans h1 hl.1, h2, h3⟩)
      | i + 1, hi => simp at hi
    · intro _ w0 _ _
      exact joinThen_any w0 _
    · rintro e w' ⟨r, b', hch, ha⟩
      obtain ⟨rfl, rfl⟩ := chg_join hch
      exact ha
  obtain ⟨me, ck, ca, cc, ns, la, lc, log, ga, gc, gs, fell⟩ := p
  have S0 := ((Inv.start w).box 36 (plAt me ck ca ns.length cc la log.length lc ga gs.length gc fell)).box 36 (plAt 0 0 none 0 0 none 0 0 none 0 0 false)
  simp only [World.size_alloc] at S0
  generalize joinP ⟨me, ck, ca, cc, ns, la, lc, log, ga, gc, gs, fell⟩ = rp at HCH ⊢
  generalize joinPK ⟨me, ck, ca, cc, ns, la, lc, log, ga, gc, gs, fell⟩ = rb at HCH ⊢
  clear hm hcap hC
  go_enter Tryz.func16, Tryz.ntmps16
  go_wp2_with fail
  generalize (w.alloc (.cells (plAt me ck ca ns.length cc la log.length lc ga gs.length gc fell) 36)).alloc (.cells (plAt 0 0 none 0 0 none 0 0 none 0 0 false) 36) = W0 at S0 ⊢
  refine wp_region_noPanic ?_
  refine wp_region_held_drew (S := (fun w' => (w'.cell? ⟨w.heap.size, 0, none⟩ = some (.int .i64 me) ∧ w'.cell? ⟨w.heap.size, 1, none⟩ = some (.int .i64 ck) ∧ w'.cell? ⟨w.heap.size, 2, none⟩ = some (.slice ca ns.length cc) ∧ w'.cell? ⟨w.heap.size, 3, none⟩ = some (.slice la log.length lc) ∧ w'.cell? ⟨w.heap.size, 4, none⟩ = some (.slice ga gs.length gc) ∧ w'.cell? ⟨w.heap.size, 5, none⟩ = some (.bool fell)) ∧ Below w.heap.size w w')) (by kernel_rfl) (by exact ⟨(S0.drew.nth 1 rfl).six.1, S0.drew.below⟩) (fun hHeld => ?_)
  refine take_run 0 (some 4) (v := ?_) rfl rfl (by kernel_rfl) (by kernel_rfl) (by kernel_rfl) (fun _ _ _ h => h) (by rfl) ?_ hHeld ?_
  rotate_left
  · ((intro w hSw); (try dsimp only at hSw); go_simp <;> with_reducible rfl)
  simp only [Act.put, List.setIfInBounds_toArray, List.set_cons_zero, List.set_cons_succ]
  refine take_one 1 (by kernel_rfl) rfl (fun K hK => ?_)
  go_simp
  ((with_reducible refine (atChain_any 49 #[] _).mono ?_); rintro e w1 ⟨rfl, hB1, hb1⟩; have S1 := S0.drew.on hb1; have HB1 := hide hB1; clear hB1)
  try go_wp2_with fail
  refine hK.out _ _ (by exact ⟨(S1.nth 1 rfl).six.1, S1.below⟩) (fun hHeld => ?_)
  clear hK K
  refine take_one 2 (by kernel_rfl) rfl (fun K hK => ?_)
  go_simp
  refine hK.out _ _ (by exact ⟨((S1.alloc _).nth 1 rfl).six.1, (S1.alloc _).below⟩) (fun hHeld => ?_)
  clear hK K
  refine take_one 3 (by kernel_rfl) rfl (fun K hK => ?_)
  go_simp
  ((with_reducible refine (HCH.out _ w1.heap.size _ _ hHeld.2 (by simp) (Blk.made w1 _ _).one.1 (HB1.out.on (below_alloc1 _ _))).mono ?_); rintro e w2 ⟨q2, rfl, hq2, hr2, hb2⟩; have S2 := (S1.alloc _).on hb2; have HQ2 := hide hq2; have HR2 := hide hr2; have s2 := (S2.nth 0 rfl).six; have zz := S1.room; have z2 := hb2.size; obtain ⟨me2, ck2, ca2, cc2, ns2, la2, lc2, log2, ga2, gc2, gs2, fell2⟩ := q2; clear hq2 hr2)
  try go_wp2_with fail
  refine hK.out _ _ (by exact ⟨(S2.nth 1 rfl).six.1, S2.below⟩) (fun hHeld => ?_)
  clear hK K
  refine take_run 4 (some 8) (v := ?_) rfl rfl (by kernel_rfl) (by kernel_rfl) (by kernel_rfl) (fun _ _ _ h => h) (by rfl) ?_ hHeld ?_
  rotate_left
  · ((intro w hSw); (try dsimp only at hSw); go_simp <;> with_reducible rfl)
  simp only [Act.put, List.setIfInBounds_toArray, List.set_cons_zero, List.set_cons_succ]
  refine take_run 5 (some 9) (v := ?_) rfl rfl (by kernel_rfl) (by kernel_rfl) (by kernel_rfl) (fun _ _ _ h => h) (by rfl) ?_ hHeld ?_
  rotate_left
  · ((intro w hSw); (try dsimp only at hSw); go_simp <;> with_reducible rfl)
  simp only [Act.put, List.setIfInBounds_toArray, List.set_cons_zero, List.set_cons_succ]
  refine take_one 6 (by kernel_rfl) rfl (fun K hK => ?_)
  go_simp
  refine hK.out _ _ (by exact ⟨((S2.nth 1 rfl).turned (turn_w6 w2 (w.heap.size + 1) (.int .i64 me2) (.int .i64 ck2) (.slice ca2 ns2.length cc2) (.slice la2 log2.length lc2) (.slice ga2 gs2.length gc2) (.bool fell2)) (by simp)).six.1, below_set6 S2.below (by simp) (.int .i64 me2) (.int .i64 ck2) (.slice ca2 ns2.length cc2) (.slice la2 log2.length lc2) (.slice ga2 gs2.length gc2) (.bool fell2)⟩) (fun hHeld => ?_)
  clear hK K
  refine take_run 7 (some 3) (v := ?_) rfl rfl (by kernel_rfl) (by kernel_rfl) (by kernel_rfl) (fun _ _ _ h => h) (by rfl) ?_ hHeld ?_
  rotate_left
  · ((intro w hSw); (try dsimp only at hSw); go_simp <;> with_reducible rfl)
  simp only [Act.put, List.setIfInBounds_toArray, List.set_cons_zero, List.set_cons_succ]
  refine wpAnyH_done (by kernel_rfl) ?_ _
  refine NoPanic.normal ?_
  have HL := hide hHeld.2
  clear hHeld s2
  have V9 := ((((((S2.nth 0 rfl).put 0 (.int .i64 me2)).put 1 (.int .i64 ck2)).put 2 (.slice ca2 ns2.length cc2)).put 3 (.slice la2 log2.length lc2)).put 4 (.slice ga2 gs2.length gc2)).put 5 (.bool fell2)
  simp only [List.setIfInBounds_toArray, List.set_cons_zero, List.set_cons_succ] at V9
  have q9 := V9.six
  go_wp2
  refine bodyPost_ret (v := .tuple #[.agg (plAt me2 ck2 ca2 ns2.length cc2 la2 log2.length lc2 ga2 gs2.length gc2 fell2), .bool rb]) (by simp [results, Tryz.results16, go_sem, q9]) rfl ?_
  refine ⟨⟨me2, ck2, ca2, cc2, ns2, la2, lc2, log2, ga2, gc2, gs2, fell2⟩, rfl, HQ2.out, ?_, HL.out⟩
  rw [size_w6]
  exact (HR2.out.turn (turn_w6 w2 (w.heap.size + 1) (.int .i64 me2) (.int .i64 ck2) (.slice ca2 ns2.length cc2) (.slice la2 log2.length lc2) (.slice ga2 gs2.length gc2) (.bool fell2)) (fun g a b e => by simp at a; omega)).wide (by simp; omega) (Nat.le_refl _)
end Go.Proofs.YtnaggcdhimcilaaGreat
/- Contract of a copy of a log, in the model. Condition: sizes that memory holds. -/
namespace Go.Proofs.YtnaggcdhimcilaaGreat
open Go.RowKit Go.Joins
attribute [local go_sem ↓] Go.wp_at_zero Go.wp_at_succ

theorem crow_empty (w : World) : CRow w.heap.size (w.alloc (.cells #[] 96)) (.slice (some ⟨w.heap.size, 0, none⟩) 0 0) [] :=
  ⟨⟨rfl, .inr ⟨w.heap.size, 0, #[], rfl, Nat.le_refl _, heap_alloc_new w _, Nat.le_refl _, by unfold maxLen; omega, rfl, rfl⟩⟩, fun i v h => by simp at h, fun i j v v' _ h => by simp at h, by simp⟩
set_option maxRecDepth 100000 in
set_option maxHeartbeats 4000000 in
theorem l4Vers_any (a : Option Addr) (c : Nat) (vs : List V) (w : World) (hn : vs.length ≤ 1048576) (hm : ∀ v ∈ vs, v.ts.length ≤ 1048576) (hv : Vg w w.heap.size a vs) :
    Calls Tryz.prog 58 #[.slice a vs.length c] w (CopiedR w vs) := by
  obtain ⟨i0, hi0, hz0, hz1, hz2⟩ := info_parts ver_info
  have I0 := hide hi0
  have I1 := hide hz0
  have I2 := hide hz1
  have I3 := hide hz2
  clear hi0 hz0 hz1 hz2
  have HM := hide hm
  clear hm
  generalize hnn : vs.length = n at *
  have HN := hide hnn
  clear hnn
  go_enter Tryz.func58, Tryz.ntmps58
  have BE := hide (below_alloc1 w (.cells #[] 96))
  have HC0 := hide (crow_empty w)
  go_wp2
  go_loopw [3, 4] (fun x i wr => ∃ (k : Nat) (us : List V), k ≤ n ∧ i = .int .i64 (k : Int) ∧ Hid (us.length = k) ∧ Hid (Like us vs) ∧ Hid (CRow w.heap.size wr x us) ∧ Below w.heap.size w wr) (fun _ i _ => n - (intOf i).toNat)
  case atStart => exact ⟨0, [], Nat.zero_le _, rfl, rfl, fun i v v' hi => by simp at hi, HC0.out, BE.out⟩
  case round =>
    obtain ⟨k, us, hk, rfl, HU, HL, HC, hLL⟩ := hrel
    by_cases hlt : k < n
    · rcases hv with h0 | ⟨b, off, rfl, hb, hx⟩
      · have := HN.out; subst h0; simp at this; omega
      · have hkl : k < vs.length := by have := HN.out; omega
        obtain ⟨hS, hT⟩ := hx k _ (List.getElem?_eq_getElem hkl)
        have HX := hide (List.getElem?_eq_getElem hkl)
        generalize vs[k] = v at hS hT HX
        have HB := hide (HM.out v (List.mem_of_getElem? HX.out))
        have hL := hLL
        obtain ⟨s0, s1, s2, s3, s4, s5⟩ := hS.keep hb fun _ hp => hL.cell hp
        have hzz := hL.size
        have HT := hide (((hT.on hL).up hzz))
        have i1 : (0 : Int) ≤ (k : Int) := by omega
        have i2 : (k : Int) < (n : Int) := by omega
        have hbw : b < wr.heap.size := by omega
        clear hS hT hx hL
        go_wp2_with fail
        refine (l2Copy_any v _ HB.out HT.out).mono ?_
        rintro e w1 ⟨v', rfl, hlike, hown, hb1⟩
        have L1 := hide hb1
        have CR := HC.out.on L1.out
        have HLI := hide hlike
        have HOW := hide hown
        have z1 : wr.heap.size ≤ w1.heap.size := hb1.size
        have HR := hide (show w1.ownsRow w.heap.size 96 6 u3 k (flat6 us) by have := CR.row; rw [HU.out] at this; exact this)
        clear s0 s1 s2 s3 s4 s5 hlike hown hb1 CR
        go_wp2_with (at_builtin; (refine wpList_append_lies _ rfl (.tmp 12) (.tmp 18) 33 rfl w.heap.size 96 i0 _ 6 72 Tryz.underlying33 I0.out I1.out I2.out I3.out rfl (by omega) u3 k (flat6 us) rfl (HR.out.alloc _) ⟨w1.heap.size, 0, none⟩ 1 1 (cells6 v') rfl rfl (World.news_of_block (cs := verC v'.k v'.t v'.u v'.a v'.ts.length v'.c v'.s v'.g) (by simpa using heap_alloc_new w1 (.cells (verC v'.k v'.t v'.u v'.a v'.ts.length v'.c v'.s v'.g) 96))) (by simp [cells6, Value.oneCell']) (by omega) (by unfold maxLen; omega) (by omega) (by simp; omega) _ rfl ?_; intro g2 cap2 w2 hown2 hgrow hat hlt2; have OW := hide hown2; have GW := hide hgrow; clear hown2 hgrow hat))
        refine ⟨⟨k + 1, us ++ [v'], by omega, by go_num, ?_, like_step HL.out HU.out HX.out HLI.out, ?_, ((hLL.trans (L1.out.mono hzz)).alloc (by omega) _).grown GW.out (by simp; omega) (fun r hr => (HC.out.typed r hr).elim fun _ h => h.2.1)⟩, by simp [intOf]; omega⟩
        · unfold Hid
          rw [List.length_append, HU.out]
          rfl
        · have hp := HC.out.push (w1 := w1.alloc (.cells (verC v'.k v'.t v'.u v'.a v'.ts.length v'.c v'.s v'.g) 96)) (B := wr.heap.size) (v := v') (g := g2) (cap := cap2) (w2 := w2) (L1.out.trans ((below_alloc1 w1 _).mono L1.out.size)) (by omega) (((by simpa using HOW.out : Own1 w1 wr.heap.size w1.heap.size v').on (below_alloc1 w1 _)).wide (by simp)) (by rw [HU.out]; exact OW.out) GW.out
          rw [HU.out] at hp
          exact hp
    · have hkn : k = n := by omega
      subst hkn
      clear hlt
      go_wp2
      go_ret
      exact ⟨_, us, rfl, HU.out.trans HN.out.symm, HL.out, HC.out, hLL⟩
end Go.Proofs.YtnaggcdhimcilaaGreat
/- A copy of a place, in the model: its parts in memory of their own. Condition: sizes that memory holds. -/
namespace Go.Proofs.YtnaggcdhimcilaaGreat
open Go.RowKit Go.Joins
attribute [local go_sem ↓] Go.wp_at_zero Go.wp_at_succ

/-- The blocks of a row of nodes, that of the row among them. -/
def FootK (x : Value) (us : List Nd) (g : Nat) : Prop := x.ownBlock = some g ∨ ∃ (i : Nat) (n : Nd), us[i]? = some n ∧ FootO n g
theorem GRow.footK {base : Nat} {wr : World} {x : Value} {us : List Nd} (h : GRow base wr x us) {g : Nat} (hf : FootK x us g) : base ≤ g ∧ g < wr.heap.size := by
  rcases hf with hf | ⟨i, n, hi, hf⟩
  · obtain ⟨_, _, h1⟩ := h.typed g hf
    exact h1
  · exact h.foot hi hf
theorem GRow.turnK {P : Nat → Prop} {base : Nat} {wr w2 : World} {x : Value} {us : List Nd} (h : GRow base wr x us) (ht : Turn P wr w2) (hp : ∀ g, FootK x us g → ¬ P g) : GRow base w2 x us := by
  refine ⟨⟨h.row.1, ?_⟩, fun i v hi => ((h.store i v hi).turnF ht (fun g hf => hp g (.inr ⟨i, v, hi, .inl hf⟩))).wide ht.size, fun i v hi => ((h.wait i v hi).turnF ht (fun g hf => hp g (.inr ⟨i, v, hi, .inr (.inl hf)⟩))).wide ht.size, h.two, h.apart, Nat.le_trans h.lo ht.size, fun i v hi => (h.own i v hi).turnP ht (fun g hf => hp g (.inr ⟨i, v, hi, .inr hf⟩))⟩
  rcases h.row.2 with h' | ⟨g, cap, cr, h1, h2, h3, h4⟩
  · exact .inl h'
  · exact .inr ⟨g, cap, cr, h1, h2, Blk.turned (show Blk wr g 90 cr from h3) ht (hp g (.inl (by rw [h1]; rfl))), h4⟩
theorem inv_set6 {w w1 : World} {n b : Nat} {bs : List (Nat × TypeId × Array Value)} (h : Inv w n bs w1) (hp : n ≤ b) (hw : w.heap.size ≤ b) (x0 x1 x2 x3 x4 x5 : Value) :
    Inv w n bs ((((((w1.setCell ⟨b, 0, none⟩ x0).setCell ⟨b, 1, none⟩ x1).setCell ⟨b, 2, none⟩ x2).setCell ⟨b, 3, none⟩ x3).setCell ⟨b, 4, none⟩ x4).setCell ⟨b, 5, none⟩ x5) :=
  (((((h.set (p := ⟨b, 0, none⟩) hp hw x0).set (p := ⟨b, 1, none⟩) hp hw x1).set (p := ⟨b, 2, none⟩) hp hw x2).set (p := ⟨b, 3, none⟩) hp hw x3).set (p := ⟨b, 4, none⟩) hp hw x4).set (p := ⟨b, 5, none⟩) hp hw x5
/-- The parts of a place, each in blocks of its own: the chain below M1, the log below M2, what was heard from there on. -/
structure OwnP (w : World) (B M1 M2 : Nat) (q : Pl) : Prop where
  chain : GRow B w (.slice q.ca q.ns.length q.cc) q.ns
  log : CRow B w (.slice q.la q.log.length q.lc) q.log
  got : HRow B w (.slice q.ga q.gs.length q.gc) q.gs
  fc : ∀ g, FootK (.slice q.ca q.ns.length q.cc) q.ns g → g < M1
  fl : ∀ g, FootV q.la q.lc q.log g → M1 ≤ g ∧ g < M2
  fg : ∀ g, FootH (.slice q.ga q.gs.length q.gc) q.gs g → M2 ≤ g
  m1 : B ≤ M1
  m2 : M1 ≤ M2
/-- What a copy of a place is. -/
def OwnedP (w : World) (p : Pl) (e : Ending) (w' : World) : Prop :=
  ∃ (q : Pl) (M1 M2 : Nat), e = .returned (.agg (plCells q)) ∧ LP q p ∧ OwnP w' w.heap.size M1 M2 q ∧ Below w.heap.size w w'
end Go.Proofs.YtnaggcdhimcilaaGreat
