/- The law FnExactChainPut holds: for every chain and every version the program's ChainPut answers as the model's, leaves its arguments as they were, and answers in memory of its own. No condition. -/
import Derived.Test.YtpelibkdphgpjaaJVerOk0
import Derived.Test.YtpelibkdphgpjaaJChainCopy
import Derived.Test.YtpelibkdphgpjaaJChainPut
import Derived.Test.YtpelibkdphgpjaaJChainPut3
import Derived.Test.YtpelibkdphgpjaaJTags
import Derived.Deep.DeepCutAuto
namespace Go.Proofs.Ytpelibkdphgpjaa.LawChainPut
open Go.ChangeShapes Go.WideShapes Go.ChangeAt Go.RowKit Go.Joins
attribute [local go_sem ↓] Go.wp_at_zero Go.wp_at_succ

theorem answerCB_like {w w' : World} {rs rs' : List Nd} {b b' : Bool} {e : Ending} (h : AnswerCB w rs b e w') (hl : NL rs rs' ∧ b = b') : AnswerCB w rs' b' e w' := by
  obtain ⟨A, cap, us, he, h1, h2, h3⟩ := h
  exact ⟨A, cap, us, by rw [he, hl.1.1, hl.2], nl_trans h1 hl.1, h2, h3⟩
theorem own_tags {v : V} {W : World} {g : Nat} {cur : Array Value} (hB : Blk W g 53 cur) (hs : cur.size = v.ts.length * 2) (hc : ∀ i x, v.ts[i]? = some x → TagAt cur i x) : Own1 W 0 W.heap.size ⟨v.k, v.t, v.u, some ⟨g, 0, none⟩, v.ts.length, v.ts, v.s, v.g⟩ := .inr ⟨g, cur, rfl, Nat.zero_le _, hB.inside, hB, Nat.le_of_eq hs.symm, hc⟩
set_option maxRecDepth 100000 in
set_option maxHeartbeats 8000000 in
theorem walk0 (a : Option Addr) (c : Nat) (ns : List Nd) (v : V) (w : World) (hv : Ng w w.heap.size a ns) (hl : ns.length ≤ 9223372036854775807) (hm0 : BigN ns) (ht : Tg w w.heap.size v.a v.ts) (hl1 : v.ts.length ≤ 9223372036854775807) (hs1 : v.s.size ≤ 9223372036854775807) :
    Calls Try.prog 5 #[.agg #[.slice a ns.length c], .agg (verC v.k v.t v.u v.a v.ts.length v.c v.s v.g)] w fun e w' => e = .returned (.bool true) ∧ Below w.heap.size w w' := by
  have S0 := ((Inv.start w).box 39 #[.slice a ns.length c]).box 49 (verC v.k v.t v.u v.a v.ts.length v.c v.s v.g)
  simp only [World.size_alloc] at S0
  have HM := hide hm0
  clear hm0
  by_cases hsum : ns.length + totNs ns ≤ 1048576
  · have hn : ns.length ≤ 1048576 := by omega
    have SM := hide (smN_fits HM.out hsum)
    have HTO : Hid (∀ W, Below w.heap.size w W → Calls Try.prog 20 #[.agg #[.slice a ns.length c]] W (CopiedC W ns)) := fun W hW => toChain_own a c ns W hn SM.out ((hv.on hW).up hW.size)
    have hp : ¬ ((1048576 : Int) - (ns.length : Int) - (totNs ns : Int) < 0) := by omega
    go_enter Try.func5, Try.ntmps5
    go_wp2_with fail
    generalize (w.alloc (.cells #[.slice a ns.length c] 39)).alloc (.cells (verC v.k v.t v.u v.a v.ts.length v.c v.s v.g) 49) = W at S0 ⊢
    refine (szChain_fits a c ns 1048576 _ (by omega) (by omega) ((hv.on S0.below).up S0.base)).mono ?_
    rintro e w1 ⟨rfl, hb1⟩
    have S1 := S0.on hb1
    have k1 := (S1.nth 0 rfl).six.1
    clear S0
    go_wp2_with fail
    by_cases hsum2 : (v.ts.length : Int) + v.s.size ≤ 1048576 - (ns.length : Int) - (totNs ns : Int)
    · have hn1 : v.ts.length ≤ 1048576 := by omega
      have hp2 : ¬ ((1048576 : Int) - (ns.length : Int) - (totNs ns : Int) - (v.ts.length : Int) - (v.s.size : Int) < 0) := by omega
      have HSP : Hid (∀ (g : Nat) us cur B U gb W, NRow W B U g us cur → NL us ns → Own1 W 0 W.heap.size ⟨v.k, v.t, v.u, some ⟨gb, 0, none⟩, v.ts.length, v.ts, v.s, v.g⟩ → Calls Try.prog 23 #[.agg #[.slice (some ⟨g, 0, none⟩) ns.length ns.length], .agg (verC v.k v.t v.u (some ⟨gb, 0, none⟩) v.ts.length v.ts.length v.s v.g)] W (AnswerCB W (putN ns v) (putK ns v))) := fun g us cur B U gb W hR hN hO => by
        have C := specChainPut_any (some ⟨g, 0, none⟩) ns.length us ⟨v.k, v.t, v.u, some ⟨gb, 0, none⟩, v.ts.length, v.ts, v.s, v.g⟩ W (by rw [hN.1]; exact hn) (smN_like hN SM.out) (.inr ⟨g, cur, rfl, hR.cg⟩) hn1 hs1 hO
        rw [hN.1] at C
        exact C.mono fun e w' h => answerCB_like h (putN_like hN ⟨rfl, rfl, rfl, rfl, rfl, rfl⟩)
      have HIM : Hid (∀ (g : Nat) us cur B U gb W, NRow W B U g us cur → NL us ns → Own1 W 0 W.heap.size ⟨v.k, v.t, v.u, some ⟨gb, 0, none⟩, v.ts.length, v.ts, v.s, v.g⟩ → Calls Try.prog 25 #[.agg #[.slice (some ⟨g, 0, none⟩) ns.length ns.length], .agg (verC v.k v.t v.u (some ⟨gb, 0, none⟩) v.ts.length v.ts.length v.s v.g)] W (AnswerCB W (putN ns v) (putK ns v))) := fun g us cur B U gb W hR hN hO => by
        have C := implChainPut_any (some ⟨g, 0, none⟩) ns.length us ⟨v.k, v.t, v.u, some ⟨gb, 0, none⟩, v.ts.length, v.ts, v.s, v.g⟩ W (by rw [hN.1]; exact hn) (smN_like hN SM.out) (.inr ⟨g, cur, rfl, hR.cg⟩) hn1 hs1 hO
        rw [hN.1] at C
        exact C.mono fun e w' h => answerCB_like h (putN_like hN ⟨rfl, rfl, rfl, rfl, rfl, rfl⟩)
      have FN := hide (putN_fine ns v)
      generalize putN ns v = rs at HSP HIM FN
      generalize putK ns v = ob at HSP HIM
      refine (szVer_fits v.k v.t v.u v.a v.ts.length v.c v.s v.g _ _ (by omega) hsum2).mono ?_
      rintro e w2 ⟨rfl, hb2⟩
      have S2 := (S1.on hb2)
      clear S1 k1 hb1 hb2
      go_wp2_with fail
      clear hp hp2
      go_upto_region 8 with (fail)
      go_cut [6, 7] (fun s t wx => ∃ (p : Nat) (A : Option Addr) (cap B U : Nat) (us : List Nd), s = .pointer (some ⟨p, 0, none⟩) ∧ t = .bool ob ∧ Blk wx p 26 #[.slice A rs.length cap] ∧ NL us rs ∧ ResN wx B U A us ∧ Inv w (w.heap.size + 1 + 1) [(w.heap.size + 1, 49, (verC v.k v.t v.u v.a v.ts.length v.c v.s v.g)), (w.heap.size, 39, #[.slice a ns.length c])] wx ∧ (w.heap.size + 1 + 1) ≤ p ∧ (w.heap.size + 1 + 1) ≤ B ∧ U ≤ wx.heap.size ∧ (p < B ∨ U ≤ p))
      case first =>
        refine wp_region_noPanic ?_
        refine wp_region_held_drew (S := (fun w' => w'.cell? ⟨w.heap.size, 0, none⟩ = some (.slice a ns.length c) ∧ (w'.cell? ⟨w.heap.size + 1, 0, none⟩ = some (.int .i64 v.k) ∧ w'.cell? ⟨w.heap.size + 1, 1, none⟩ = some (.int .i64 v.t) ∧ w'.cell? ⟨w.heap.size + 1, 2, none⟩ = some (.int .i64 v.u) ∧ w'.cell? ⟨w.heap.size + 1, 3, none⟩ = some (.slice v.a v.ts.length v.c) ∧ w'.cell? ⟨w.heap.size + 1, 4, none⟩ = some (.string v.s) ∧ w'.cell? ⟨w.heap.size + 1, 5, none⟩ = some (.bool v.g)) ∧ Inv w (w.heap.size + 1 + 1) [(w.heap.size + 1, 49, (verC v.k v.t v.u v.a v.ts.length v.c v.s v.g)), (w.heap.size, 39, #[.slice a ns.length c])] w')) (by kernel_rfl) (by exact ⟨(S2.drew.nth 1 rfl).at 0, (S2.drew.nth 0 rfl).six.1, S2.drew⟩) (fun hHeld => ?_)
        refine take_run 0 (some 28) (v := ?_) rfl rfl (by kernel_rfl) (by kernel_rfl) (by kernel_rfl) (fun _ _ _ h => h) (by rfl) ?_ hHeld ?_
        rotate_left
        · ((intro w hSw); (try dsimp only at hSw); go_simp <;> with_reducible rfl)
        simp only [Act.put, List.setIfInBounds_toArray, List.set_cons_zero, List.set_cons_succ]
        refine take_run 2 (some 30) (v := ?_) rfl rfl (by kernel_rfl) (by kernel_rfl) (by kernel_rfl) (fun _ _ _ h => h) (by rfl) ?_ hHeld ?_
        rotate_left
        · ((intro w hSw); (try dsimp only at hSw); go_simp <;> with_reducible rfl)
        simp only [Act.put, List.setIfInBounds_toArray, List.set_cons_zero, List.set_cons_succ]
        refine wpAnyH_ready (rs := [1, 8]) (by kernel_rfl) (by simp) ?_
        refine AllReadyH.cons rfl (fun K hK => ?_) (AllReadyH.cons rfl (fun K hK => ?_) AllReadyH.nil)
        · skip
          go_simp
          (have hr := hHeld.2.2.room; (try simp at hr); (with_reducible refine (HTO.out _ hHeld.2.2.below).mono ?_); rintro e wa ⟨ga, usa, cura, rfl, hlia, hRa, hb⟩; have HIa := hide hlia; have HRa := hide hRa; clear hlia hRa; have hz := hb.size; (try simp at hz); (first | (with_reducible have hx := Blk.on (Blk.drew (Blk.made _ _ #[.slice none 0 0])) hb) | (with_reducible have hx := Blk.on (Blk.made _ _ #[.slice none 0 0]) hb) | (with_reducible have hx := Blk.on (cs := #[.slice none 0 0]) (by assumption) hb) | skip); (try have kx := hx.one))
          try go_wp2_with fail
          refine hK.out _ _ (by exact ⟨((hHeld.2.2.on hb).nth 1 rfl).at 0, ((hHeld.2.2.on hb).nth 0 rfl).six.1, (hHeld.2.2.on hb)⟩) (fun hHeld => ?_)
          clear hK K
          refine wpAnyH_ready (rs := [3, 8]) (by kernel_rfl) (by simp) ?_
          refine AllReadyH.cons rfl (fun K hK => ?_) (AllReadyH.cons rfl (fun K hK => ?_) AllReadyH.nil)
          · skip
            go_simp
            (have hr := hHeld.2.2.room; (try simp at hr); refine (toVer_any v.k v.t v.u v.a v.c v.ts v.s v.g _ hn1 ((ht.on hHeld.2.2.below).up hHeld.2.2.base)).mono ?_; rintro e wb ⟨gb, curb, rfl, hgb, hBb, hszb, hcurb, hb⟩; have HOb := hide (own_tags hBb hszb hcurb (v := v)); clear hcurb; (first | have HRa' := hide (HRa.out.on hb) | have HRa' := hide ((HRa.out.on (below_alloc1 _ _)).on hb)); have hz := hb.size; (try simp at hz); (first | (with_reducible have hx := Blk.on (Blk.drew (Blk.made _ _ #[.slice none 0 0])) hb) | (with_reducible have hx := Blk.on (Blk.made _ _ #[.slice none 0 0]) hb) | (with_reducible have hx := Blk.on (cs := #[.slice none 0 0]) (by assumption) hb) | skip); (try have kx := hx.one))
            try go_wp2_with fail
            refine hK.out _ _ (by exact ⟨((hHeld.2.2.on hb).nth 1 rfl).at 0, ((hHeld.2.2.on hb).nth 0 rfl).six.1, (hHeld.2.2.on hb)⟩) (fun hHeld => ?_)
            clear hK K
            refine wpAnyH_ready (rs := [4, 8]) (by kernel_rfl) (by simp) ?_
            refine AllReadyH.cons rfl (fun K hK => ?_) (AllReadyH.cons rfl (fun K hK => ?_) AllReadyH.nil)
            · skip
              go_simp
              (have hr := hHeld.2.2.room; (try simp at hr); (first | (with_reducible refine (HSP.out ga usa cura _ _ gb _ HRa'.out HIa.out HOb.out).mono ?_) | (with_reducible refine (HSP.out ga usa cura _ _ gb _ (HRa'.out.on (below_alloc1 _ _)) HIa.out ((HOb.out.on (below_alloc1 _ _)).wide (by simp))).mono ?_)); rintro e wc ⟨A5, cap5, us5, rfl, hl5, hR5, hb⟩; have HL5 := hide hl5; clear hl5; have hz := hb.size; (try simp at hz); (first | (with_reducible have hx := Blk.on (Blk.drew (Blk.made _ _ #[.slice none 0 0])) hb) | (with_reducible have hx := Blk.on (Blk.made _ _ #[.slice none 0 0]) hb) | (with_reducible have hx := Blk.on (cs := #[.slice none 0 0]) (by assumption) hb) | skip); (try have kx := hx.one))
              try go_wp2_with fail
              refine hK.out _ _ (by exact ⟨((hHeld.2.2.on hb).nth 1 rfl).at 0, ((hHeld.2.2.on hb).nth 0 rfl).six.1, (hHeld.2.2.on hb)⟩) (fun hHeld => ?_)
              clear hK K
              refine take_run 5 (some 27) (v := ?_) rfl rfl (by kernel_rfl) (by kernel_rfl) (by kernel_rfl) (fun _ _ _ h => h) (by rfl) ?_ hHeld ?_
              rotate_left
              · ((intro w hSw); (try dsimp only at hSw); go_simp <;> with_reducible rfl)
              simp only [Act.put, List.setIfInBounds_toArray, List.set_cons_zero, List.set_cons_succ]
              refine take_run 6 (some 33) (v := ?_) rfl rfl (by kernel_rfl) (by kernel_rfl) (by kernel_rfl) (fun _ _ _ h => h) (by rfl) ?_ hHeld ?_
              rotate_left
              · ((intro w hSw); (try dsimp only at hSw); go_simp <;> with_reducible rfl)
              simp only [Act.put, List.setIfInBounds_toArray, List.set_cons_zero, List.set_cons_succ]
              refine take_run 7 (some 34) (v := ?_) rfl rfl (by kernel_rfl) (by kernel_rfl) (by kernel_rfl) (fun _ _ _ h => h) (by rfl) ?_ hHeld ?_
              rotate_left
              · ((intro w hSw); (try dsimp only at hSw); go_simp <;> with_reducible rfl)
              simp only [Act.put, List.setIfInBounds_toArray, List.set_cons_zero, List.set_cons_succ]
              refine take_one 8 (by kernel_rfl) rfl (fun K hK => ?_)
              go_simp
              (have hr5 := hHeld.2.2.room; (try simp at hr5))
              try go_wp2_with fail
              refine hK.out _ _ (by exact ⟨((hHeld.2.2.alloc _).nth 1 rfl).at 0, ((hHeld.2.2.alloc _).nth 0 rfl).six.1, (hHeld.2.2.alloc _)⟩) (fun hHeld => ?_)
              clear hK K
              refine take_one 9 (by kernel_rfl) rfl (fun K hK => ?_)
              go_simp
              refine hK.out _ _ (by first | exact ⟨((hHeld.2.2.swap (o := .cells #[.slice none 0 0] 26) (by first | omega | (simp <;> omega)) (by first | omega | (simp <;> omega))).nth 1 rfl).at 0, ((hHeld.2.2.swap (o := .cells #[.slice none 0 0] 26) (by first | omega | (simp <;> omega)) (by first | omega | (simp <;> omega))).nth 0 rfl).six.1, (hHeld.2.2.swap (o := .cells #[.slice none 0 0] 26) (by first | omega | (simp <;> omega)) (by first | omega | (simp <;> omega)))⟩ | exact ⟨((hHeld.2.2.set (by first | omega | (simp <;> omega)) (by first | omega | (simp <;> omega)) _).nth 1 rfl).at 0, ((hHeld.2.2.set (by first | omega | (simp <;> omega)) (by first | omega | (simp <;> omega)) _).nth 0 rfl).six.1, (hHeld.2.2.set (by first | omega | (simp <;> omega)) (by first | omega | (simp <;> omega)) _)⟩) (fun hHeld => ?_)
              clear hK K
              refine take_run 10 (some 7) (v := ?_) rfl rfl (by kernel_rfl) (by kernel_rfl) (by kernel_rfl) (fun _ _ _ h => h) (by rfl) ?_ hHeld ?_
              rotate_left
              · ((intro w hSw); (try dsimp only at hSw); go_simp <;> with_reducible rfl)
              simp only [Act.put, List.setIfInBounds_toArray, List.set_cons_zero, List.set_cons_succ]
              refine wpAnyH_done (by kernel_rfl) ?_ _
              refine NoPanic.normal ?_
              go_wp2_with fail
              go_meet
              first | exact ⟨_, A5, cap5, _, _, us5, rfl, rfl, Blk.made _ _ _, HL5.out, hR5.alloc _, hHeld.2.2, (by first | omega | (simp <;> omega)), (by first | omega | (simp <;> omega)), (by first | omega | (simp <;> omega)), (by first | exact .inr (by first | omega | (simp <;> omega)) | exact .inl (by first | omega | (simp <;> omega)))⟩ | exact ⟨_, A5, cap5, _, _, us5, rfl, rfl, hx.put 0 _, HL5.out, hR5.set (by first | exact .inl (by first | omega | (simp <;> omega)) | exact .inr (by first | omega | (simp <;> omega))) _, hHeld.2.2, (by first | omega | (simp <;> omega)), (by first | omega | (simp <;> omega)), (by first | omega | (simp [World.setCell] <;> omega)), (by first | exact .inl (by first | omega | (simp <;> omega)) | exact .inr (by first | omega | (simp <;> omega)))⟩
            · skip
              go_simp
              (have hr5 := hHeld.2.2.room; (try simp at hr5))
              try go_wp2_with fail
              refine hK.out _ _ (by exact ⟨((hHeld.2.2.alloc _).nth 1 rfl).at 0, ((hHeld.2.2.alloc _).nth 0 rfl).six.1, (hHeld.2.2.alloc _)⟩) (fun hHeld => ?_)
              clear hK K
              refine take_one 4 (by kernel_rfl) rfl (fun K hK => ?_)
              go_simp
              (have hr := hHeld.2.2.room; (try simp at hr); (first | (with_reducible refine (HSP.out ga usa cura _ _ gb _ HRa'.out HIa.out HOb.out).mono ?_) | (with_reducible refine (HSP.out ga usa cura _ _ gb _ (HRa'.out.on (below_alloc1 _ _)) HIa.out ((HOb.out.on (below_alloc1 _ _)).wide (by simp))).mono ?_)); rintro e wc ⟨A5, cap5, us5, rfl, hl5, hR5, hb⟩; have HL5 := hide hl5; clear hl5; have hz := hb.size; (try simp at hz); (first | (with_reducible have hx := Blk.on (Blk.drew (Blk.made _ _ #[.slice none 0 0])) hb) | (with_reducible have hx := Blk.on (Blk.made _ _ #[.slice none 0 0]) hb) | (with_reducible have hx := Blk.on (cs := #[.slice none 0 0]) (by assumption) hb) | skip); (try have kx := hx.one))
              try go_wp2_with fail
              refine hK.out _ _ (by exact ⟨((hHeld.2.2.on hb).nth 1 rfl).at 0, ((hHeld.2.2.on hb).nth 0 rfl).six.1, (hHeld.2.2.on hb)⟩) (fun hHeld => ?_)
              clear hK K
              refine take_run 5 (some 27) (v := ?_) rfl rfl (by kernel_rfl) (by kernel_rfl) (by kernel_rfl) (fun _ _ _ h => h) (by rfl) ?_ hHeld ?_
              rotate_left
              · ((intro w hSw); (try dsimp only at hSw); go_simp <;> with_reducible rfl)
              simp only [Act.put, List.setIfInBounds_toArray, List.set_cons_zero, List.set_cons_succ]
              refine take_run 6 (some 33) (v := ?_) rfl rfl (by kernel_rfl) (by kernel_rfl) (by kernel_rfl) (fun _ _ _ h => h) (by rfl) ?_ hHeld ?_
              rotate_left
              · ((intro w hSw); (try dsimp only at hSw); go_simp <;> with_reducible rfl)
              simp only [Act.put, List.setIfInBounds_toArray, List.set_cons_zero, List.set_cons_succ]
              refine take_run 7 (some 34) (v := ?_) rfl rfl (by kernel_rfl) (by kernel_rfl) (by kernel_rfl) (fun _ _ _ h => h) (by rfl) ?_ hHeld ?_
              rotate_left
              · ((intro w hSw); (try dsimp only at hSw); go_simp <;> with_reducible rfl)
              simp only [Act.put, List.setIfInBounds_toArray, List.set_cons_zero, List.set_cons_succ]
              refine take_one 9 (by kernel_rfl) rfl (fun K hK => ?_)
              go_simp
              refine hK.out _ _ (by first | exact ⟨((hHeld.2.2.swap (o := .cells #[.slice none 0 0] 26) (by first | omega | (simp <;> omega)) (by first | omega | (simp <;> omega))).nth 1 rfl).at 0, ((hHeld.2.2.swap (o := .cells #[.slice none 0 0] 26) (by first | omega | (simp <;> omega)) (by first | omega | (simp <;> omega))).nth 0 rfl).six.1, (hHeld.2.2.swap (o := .cells #[.slice none 0 0] 26) (by first | omega | (simp <;> omega)) (by first | omega | (simp <;> omega)))⟩ | exact ⟨((hHeld.2.2.set (by first | omega | (simp <;> omega)) (by first | omega | (simp <;> omega)) _).nth 1 rfl).at 0, ((hHeld.2.2.set (by first | omega | (simp <;> omega)) (by first | omega | (simp <;> omega)) _).nth 0 rfl).six.1, (hHeld.2.2.set (by first | omega | (simp <;> omega)) (by first | omega | (simp <;> omega)) _)⟩) (fun hHeld => ?_)
              clear hK K
              refine take_run 10 (some 7) (v := ?_) rfl rfl (by kernel_rfl) (by kernel_rfl) (by kernel_rfl) (fun _ _ _ h => h) (by rfl) ?_ hHeld ?_
              rotate_left
              · ((intro w hSw); (try dsimp only at hSw); go_simp <;> with_reducible rfl)
              simp only [Act.put, List.setIfInBounds_toArray, List.set_cons_zero, List.set_cons_succ]
              refine wpAnyH_done (by kernel_rfl) ?_ _
              refine NoPanic.normal ?_
              go_wp2_with fail
              go_meet
              first | exact ⟨_, A5, cap5, _, _, us5, rfl, rfl, Blk.made _ _ _, HL5.out, hR5.alloc _, hHeld.2.2, (by first | omega | (simp <;> omega)), (by first | omega | (simp <;> omega)), (by first | omega | (simp <;> omega)), (by first | exact .inr (by first | omega | (simp <;> omega)) | exact .inl (by first | omega | (simp <;> omega)))⟩ | exact ⟨_, A5, cap5, _, _, us5, rfl, rfl, hx.put 0 _, HL5.out, hR5.set (by first | exact .inl (by first | omega | (simp <;> omega)) | exact .inr (by first | omega | (simp <;> omega))) _, hHeld.2.2, (by first | omega | (simp <;> omega)), (by first | omega | (simp <;> omega)), (by first | omega | (simp [World.setCell] <;> omega)), (by first | exact .inl (by first | omega | (simp <;> omega)) | exact .inr (by first | omega | (simp <;> omega)))⟩
          · skip
            go_simp
            (have hr5 := hHeld.2.2.room; (try simp at hr5))
            try go_wp2_with fail
            refine hK.out _ _ (by exact ⟨((hHeld.2.2.alloc _).nth 1 rfl).at 0, ((hHeld.2.2.alloc _).nth 0 rfl).six.1, (hHeld.2.2.alloc _)⟩) (fun hHeld => ?_)
            clear hK K
            refine take_one 3 (by kernel_rfl) rfl (fun K hK => ?_)
            go_simp
            (have hr := hHeld.2.2.room; (try simp at hr); refine (toVer_any v.k v.t v.u v.a v.c v.ts v.s v.g _ hn1 ((ht.on hHeld.2.2.below).up hHeld.2.2.base)).mono ?_; rintro e wb ⟨gb, curb, rfl, hgb, hBb, hszb, hcurb, hb⟩; have HOb := hide (own_tags hBb hszb hcurb (v := v)); clear hcurb; (first | have HRa' := hide (HRa.out.on hb) | have HRa' := hide ((HRa.out.on (below_alloc1 _ _)).on hb)); have hz := hb.size; (try simp at hz); (first | (with_reducible have hx := Blk.on (Blk.drew (Blk.made _ _ #[.slice none 0 0])) hb) | (with_reducible have hx := Blk.on (Blk.made _ _ #[.slice none 0 0]) hb) | (with_reducible have hx := Blk.on (cs := #[.slice none 0 0]) (by assumption) hb) | skip); (try have kx := hx.one))
            try go_wp2_with fail
            refine hK.out _ _ (by exact ⟨((hHeld.2.2.on hb).nth 1 rfl).at 0, ((hHeld.2.2.on hb).nth 0 rfl).six.1, (hHeld.2.2.on hb)⟩) (fun hHeld => ?_)
            clear hK K
            refine take_one 4 (by kernel_rfl) rfl (fun K hK => ?_)
            go_simp
            (have hr := hHeld.2.2.room; (try simp at hr); (first | (with_reducible refine (HSP.out ga usa cura _ _ gb _ HRa'.out HIa.out HOb.out).mono ?_) | (with_reducible refine (HSP.out ga usa cura _ _ gb _ (HRa'.out.on (below_alloc1 _ _)) HIa.out ((HOb.out.on (below_alloc1 _ _)).wide (by simp))).mono ?_)); rintro e wc ⟨A5, cap5, us5, rfl, hl5, hR5, hb⟩; have HL5 := hide hl5; clear hl5; have hz := hb.size; (try simp at hz); (first | (with_reducible have hx := Blk.on (Blk.drew (Blk.made _ _ #[.slice none 0 0])) hb) | (with_reducible have hx := Blk.on (Blk.made _ _ #[.slice none 0 0]) hb) | (with_reducible have hx := Blk.on (cs := #[.slice none 0 0]) (by assumption) hb) | skip); (try have kx := hx.one))
            try go_wp2_with fail
            refine hK.out _ _ (by exact ⟨((hHeld.2.2.on hb).nth 1 rfl).at 0, ((hHeld.2.2.on hb).nth 0 rfl).six.1, (hHeld.2.2.on hb)⟩) (fun hHeld => ?_)
            clear hK K
            refine take_run 5 (some 27) (v := ?_) rfl rfl (by kernel_rfl) (by kernel_rfl) (by kernel_rfl) (fun _ _ _ h => h) (by rfl) ?_ hHeld ?_
            rotate_left
            · ((intro w hSw); (try dsimp only at hSw); go_simp <;> with_reducible rfl)
            simp only [Act.put, List.setIfInBounds_toArray, List.set_cons_zero, List.set_cons_succ]
            refine take_run 6 (some 33) (v := ?_) rfl rfl (by kernel_rfl) (by kernel_rfl) (by kernel_rfl) (fun _ _ _ h => h) (by rfl) ?_ hHeld ?_
            rotate_left
            · ((intro w hSw); (try dsimp only at hSw); go_simp <;> with_reducible rfl)
            simp only [Act.put, List.setIfInBounds_toArray, List.set_cons_zero, List.set_cons_succ]
            refine take_run 7 (some 34) (v := ?_) rfl rfl (by kernel_rfl) (by kernel_rfl) (by kernel_rfl) (fun _ _ _ h => h) (by rfl) ?_ hHeld ?_
            rotate_left
            · ((intro w hSw); (try dsimp only at hSw); go_simp <;> with_reducible rfl)
            simp only [Act.put, List.setIfInBounds_toArray, List.set_cons_zero, List.set_cons_succ]
            refine take_one 9 (by kernel_rfl) rfl (fun K hK => ?_)
            go_simp
            refine hK.out _ _ (by first | exact ⟨((hHeld.2.2.swap (o := .cells #[.slice none 0 0] 26) (by first | omega | (simp <;> omega)) (by first | omega | (simp <;> omega))).nth 1 rfl).at 0, ((hHeld.2.2.swap (o := .cells #[.slice none 0 0] 26) (by first | omega | (simp <;> omega)) (by first | omega | (simp <;> omega))).nth 0 rfl).six.1, (hHeld.2.2.swap (o := .cells #[.slice none 0 0] 26) (by first | omega | (simp <;> omega)) (by first | omega | (simp <;> omega)))⟩ | exact ⟨((hHeld.2.2.set (by first | omega | (simp <;> omega)) (by first | omega | (simp <;> omega)) _).nth 1 rfl).at 0, ((hHeld.2.2.set (by first | omega | (simp <;> omega)) (by first | omega | (simp <;> omega)) _).nth 0 rfl).six.1, (hHeld.2.2.set (by first | omega | (simp <;> omega)) (by first | omega | (simp <;> omega)) _)⟩) (fun hHeld => ?_)
            clear hK K
            refine take_run 10 (some 7) (v := ?_) rfl rfl (by kernel_rfl) (by kernel_rfl) (by kernel_rfl) (fun _ _ _ h => h) (by rfl) ?_ hHeld ?_
            rotate_left
            · ((intro w hSw); (try dsimp only at hSw); go_simp <;> with_reducible rfl)
            simp only [Act.put, List.setIfInBounds_toArray, List.set_cons_zero, List.set_cons_succ]
            refine wpAnyH_done (by kernel_rfl) ?_ _
            refine NoPanic.normal ?_
            go_wp2_with fail
            go_meet
            first | exact ⟨_, A5, cap5, _, _, us5, rfl, rfl, Blk.made _ _ _, HL5.out, hR5.alloc _, hHeld.2.2, (by first | omega | (simp <;> omega)), (by first | omega | (simp <;> omega)), (by first | omega | (simp <;> omega)), (by first | exact .inr (by first | omega | (simp <;> omega)) | exact .inl (by first | omega | (simp <;> omega)))⟩ | exact ⟨_, A5, cap5, _, _, us5, rfl, rfl, hx.put 0 _, HL5.out, hR5.set (by first | exact .inl (by first | omega | (simp <;> omega)) | exact .inr (by first | omega | (simp <;> omega))) _, hHeld.2.2, (by first | omega | (simp <;> omega)), (by first | omega | (simp <;> omega)), (by first | omega | (simp [World.setCell] <;> omega)), (by first | exact .inl (by first | omega | (simp <;> omega)) | exact .inr (by first | omega | (simp <;> omega)))⟩
        · skip
          go_simp
          (have hr5 := hHeld.2.2.room; (try simp at hr5))
          try go_wp2_with fail
          refine hK.out _ _ (by exact ⟨((hHeld.2.2.alloc _).nth 1 rfl).at 0, ((hHeld.2.2.alloc _).nth 0 rfl).six.1, (hHeld.2.2.alloc _)⟩) (fun hHeld => ?_)
          clear hK K
          refine take_one 1 (by kernel_rfl) rfl (fun K hK => ?_)
          go_simp
          (have hr := hHeld.2.2.room; (try simp at hr); (with_reducible refine (HTO.out _ hHeld.2.2.below).mono ?_); rintro e wa ⟨ga, usa, cura, rfl, hlia, hRa, hb⟩; have HIa := hide hlia; have HRa := hide hRa; clear hlia hRa; have hz := hb.size; (try simp at hz); (first | (with_reducible have hx := Blk.on (Blk.drew (Blk.made _ _ #[.slice none 0 0])) hb) | (with_reducible have hx := Blk.on (Blk.made _ _ #[.slice none 0 0]) hb) | (with_reducible have hx := Blk.on (cs := #[.slice none 0 0]) (by assumption) hb) | skip); (try have kx := hx.one))
          try go_wp2_with fail
          refine hK.out _ _ (by exact ⟨((hHeld.2.2.on hb).nth 1 rfl).at 0, ((hHeld.2.2.on hb).nth 0 rfl).six.1, (hHeld.2.2.on hb)⟩) (fun hHeld => ?_)
          clear hK K
          refine take_one 3 (by kernel_rfl) rfl (fun K hK => ?_)
          go_simp
          (have hr := hHeld.2.2.room; (try simp at hr); refine (toVer_any v.k v.t v.u v.a v.c v.ts v.s v.g _ hn1 ((ht.on hHeld.2.2.below).up hHeld.2.2.base)).mono ?_; rintro e wb ⟨gb, curb, rfl, hgb, hBb, hszb, hcurb, hb⟩; have HOb := hide (own_tags hBb hszb hcurb (v := v)); clear hcurb; (first | have HRa' := hide (HRa.out.on hb) | have HRa' := hide ((HRa.out.on (below_alloc1 _ _)).on hb)); have hz := hb.size; (try simp at hz); (first | (with_reducible have hx := Blk.on (Blk.drew (Blk.made _ _ #[.slice none 0 0])) hb) | (with_reducible have hx := Blk.on (Blk.made _ _ #[.slice none 0 0]) hb) | (with_reducible have hx := Blk.on (cs := #[.slice none 0 0]) (by assumption) hb) | skip); (try have kx := hx.one))
          try go_wp2_with fail
          refine hK.out _ _ (by exact ⟨((hHeld.2.2.on hb).nth 1 rfl).at 0, ((hHeld.2.2.on hb).nth 0 rfl).six.1, (hHeld.2.2.on hb)⟩) (fun hHeld => ?_)
          clear hK K
          refine take_one 4 (by kernel_rfl) rfl (fun K hK => ?_)
          go_simp
          (have hr := hHeld.2.2.room; (try simp at hr); (first | (with_reducible refine (HSP.out ga usa cura _ _ gb _ HRa'.out HIa.out HOb.out).mono ?_) | (with_reducible refine (HSP.out ga usa cura _ _ gb _ (HRa'.out.on (below_alloc1 _ _)) HIa.out ((HOb.out.on (below_alloc1 _ _)).wide (by simp))).mono ?_)); rintro e wc ⟨A5, cap5, us5, rfl, hl5, hR5, hb⟩; have HL5 := hide hl5; clear hl5; have hz := hb.size; (try simp at hz); (first | (with_reducible have hx := Blk.on (Blk.drew (Blk.made _ _ #[.slice none 0 0])) hb) | (with_reducible have hx := Blk.on (Blk.made _ _ #[.slice none 0 0]) hb) | (with_reducible have hx := Blk.on (cs := #[.slice none 0 0]) (by assumption) hb) | skip); (try have kx := hx.one))
          try go_wp2_with fail
          refine hK.out _ _ (by exact ⟨((hHeld.2.2.on hb).nth 1 rfl).at 0, ((hHeld.2.2.on hb).nth 0 rfl).six.1, (hHeld.2.2.on hb)⟩) (fun hHeld => ?_)
          clear hK K
          refine take_run 5 (some 27) (v := ?_) rfl rfl (by kernel_rfl) (by kernel_rfl) (by kernel_rfl) (fun _ _ _ h => h) (by rfl) ?_ hHeld ?_
          rotate_left
          · ((intro w hSw); (try dsimp only at hSw); go_simp <;> with_reducible rfl)
          simp only [Act.put, List.setIfInBounds_toArray, List.set_cons_zero, List.set_cons_succ]
          refine take_run 6 (some 33) (v := ?_) rfl rfl (by kernel_rfl) (by kernel_rfl) (by kernel_rfl) (fun _ _ _ h => h) (by rfl) ?_ hHeld ?_
          rotate_left
          · ((intro w hSw); (try dsimp only at hSw); go_simp <;> with_reducible rfl)
          simp only [Act.put, List.setIfInBounds_toArray, List.set_cons_zero, List.set_cons_succ]
          refine take_run 7 (some 34) (v := ?_) rfl rfl (by kernel_rfl) (by kernel_rfl) (by kernel_rfl) (fun _ _ _ h => h) (by rfl) ?_ hHeld ?_
          rotate_left
          · ((intro w hSw); (try dsimp only at hSw); go_simp <;> with_reducible rfl)
          simp only [Act.put, List.setIfInBounds_toArray, List.set_cons_zero, List.set_cons_succ]
          refine take_one 9 (by kernel_rfl) rfl (fun K hK => ?_)
          go_simp
          refine hK.out _ _ (by first | exact ⟨((hHeld.2.2.swap (o := .cells #[.slice none 0 0] 26) (by first | omega | (simp <;> omega)) (by first | omega | (simp <;> omega))).nth 1 rfl).at 0, ((hHeld.2.2.swap (o := .cells #[.slice none 0 0] 26) (by first | omega | (simp <;> omega)) (by first | omega | (simp <;> omega))).nth 0 rfl).six.1, (hHeld.2.2.swap (o := .cells #[.slice none 0 0] 26) (by first | omega | (simp <;> omega)) (by first | omega | (simp <;> omega)))⟩ | exact ⟨((hHeld.2.2.set (by first | omega | (simp <;> omega)) (by first | omega | (simp <;> omega)) _).nth 1 rfl).at 0, ((hHeld.2.2.set (by first | omega | (simp <;> omega)) (by first | omega | (simp <;> omega)) _).nth 0 rfl).six.1, (hHeld.2.2.set (by first | omega | (simp <;> omega)) (by first | omega | (simp <;> omega)) _)⟩) (fun hHeld => ?_)
          clear hK K
          refine take_run 10 (some 7) (v := ?_) rfl rfl (by kernel_rfl) (by kernel_rfl) (by kernel_rfl) (fun _ _ _ h => h) (by rfl) ?_ hHeld ?_
          rotate_left
          · ((intro w hSw); (try dsimp only at hSw); go_simp <;> with_reducible rfl)
          simp only [Act.put, List.setIfInBounds_toArray, List.set_cons_zero, List.set_cons_succ]
          refine wpAnyH_done (by kernel_rfl) ?_ _
          refine NoPanic.normal ?_
          go_wp2_with fail
          go_meet
          first | exact ⟨_, A5, cap5, _, _, us5, rfl, rfl, Blk.made _ _ _, HL5.out, hR5.alloc _, hHeld.2.2, (by first | omega | (simp <;> omega)), (by first | omega | (simp <;> omega)), (by first | omega | (simp <;> omega)), (by first | exact .inr (by first | omega | (simp <;> omega)) | exact .inl (by first | omega | (simp <;> omega)))⟩ | exact ⟨_, A5, cap5, _, _, us5, rfl, rfl, hx.put 0 _, HL5.out, hR5.set (by first | exact .inl (by first | omega | (simp <;> omega)) | exact .inr (by first | omega | (simp <;> omega))) _, hHeld.2.2, (by first | omega | (simp <;> omega)), (by first | omega | (simp <;> omega)), (by first | omega | (simp [World.setCell] <;> omega)), (by first | exact .inl (by first | omega | (simp <;> omega)) | exact .inr (by first | omega | (simp <;> omega)))⟩
      case rest =>
      obtain ⟨p0, A0, cap0, B0, U0, us0, rfl, rfl, hBp, HL0', R0, I0, hp0, hb0, hu0, hx0⟩ := hcut
      have HL0 := hide HL0'
      have I1 := (I0.add (by omega) hBp)
      have i0 := hBp.inside
      have k1 := (I1.nth 2 rfl).one.1
      clear S2 I0 hBp HL0'
      go_wp2_with fail
      with_reducible refine (HTO.out _ I1.below).mono ?_
      rintro e w7 ⟨g7, us7, cur7, rfl, hli7, hR7, hb7⟩
      have z7 := hb7.size
      have zb7 := I1.base
      have I2 := ((I1.on hb7).top).box 26 #[.slice (some ⟨g7, 0, none⟩) ns.length ns.length]
      have R1 := (R0.on hb7).alloc (.cells #[.slice (some ⟨g7, 0, none⟩) ns.length ns.length] 26)
      obtain ⟨B7, e7⟩ : ∃ B7, B7 = max U0 (p0 + 1) := ⟨_, rfl⟩
      have b7a : U0 ≤ B7 := by omega
      have b7b : p0 < B7 := by omega
      have hR7' : NRow w7 B7 w7.heap.size g7 us7 cur7 := hR7.low (by omega)
      clear e7
      have O7 := hide (hR7'.on (below_alloc1 w7 (.cells #[.slice (some ⟨g7, 0, none⟩) ns.length ns.length] 26)))
      have HI7 := hide hli7
      have lo7 := hR7'.lo
      have k2 := (I2.nth 2 rfl).six.1
      clear I1 R0 hb7 hR7 hR7' hli7 k1
      go_wp2_with fail
      generalize hW7 : w7.alloc (.cells #[.slice (some ⟨g7, 0, none⟩) ns.length ns.length] 26) = W7 at I2 R1 O7 k2 ⊢
      have zW7 : w7.heap.size < W7.heap.size := by rw [← hW7]; simp
      clear hW7
      refine (toVer_any v.k v.t v.u v.a v.c v.ts v.s v.g W7 hn1 ((ht.on I2.below).up I2.base)).mono ?_
      rintro e w8 ⟨g8, cur8, rfl, hg8, hB8, hsz8, hcur8, hb8⟩
      have z8 := hb8.size
      have in8 := hB8.inside
      have zb8 := I2.base
      have I3 := (((I2.on hb8).add (by omega) hB8)).box 55 (verC v.k v.t v.u (some ⟨g8, 0, none⟩) v.ts.length v.ts.length v.s v.g)
      have R2 := (R1.on hb8).alloc (.cells (verC v.k v.t v.u (some ⟨g8, 0, none⟩) v.ts.length v.ts.length v.s v.g) 55)
      have O8 := hide ((O7.out.on hb8).on (below_alloc1 w8 (.cells (verC v.k v.t v.u (some ⟨g8, 0, none⟩) v.ts.length v.ts.length v.s v.g) 55)))
      have HC8 := hide hcur8
      have k3 := (I3.nth 2 rfl).one.1
      clear I2 R1 hb8 O7 hcur8 hB8 k2
      go_wp2_with fail
      generalize hW8 : w8.alloc (.cells (verC v.k v.t v.u (some ⟨g8, 0, none⟩) v.ts.length v.ts.length v.s v.g) 55) = W8 at I3 R2 O8 k3 ⊢
      have zW8 : w8.heap.size < W8.heap.size := by rw [← hW8]; simp
      clear hW8
      have CI := hide (HIM.out g7 us7 cur7 _ _ g8 W8 O8.out HI7.out (own_tags (v := v) (I3.nth 1 rfl) hsz8 HC8.out))
      with_reducible refine CI.out.mono ?_
      rintro e w9 ⟨A9, cap9, us9, rfl, hn9, Q0, hb9⟩
      have HN9 := hide hn9
      have z9 := hb9.size
      have I4 := ((I3.on hb9).top).box 26 #[.slice A9 rs.length cap9]
      have R3 := (R2.on hb9).alloc (.cells #[.slice A9 rs.length cap9] 26)
      have Q1 := Q0.alloc (.cells #[.slice A9 rs.length cap9] 26)
      have O9 := hide ((O8.out.on hb9).on (below_alloc1 w9 (.cells #[.slice A9 rs.length cap9] 26)))
      have k4 := (I4.nth 4 rfl).one.1
      clear I3 R2 Q0 hb9 O8 hn9 k3 CI
      go_wp2_with fail
      generalize hW9 : w9.alloc (.cells #[.slice A9 rs.length cap9] 26) = W9 at I4 R3 Q1 O9 k4 ⊢
      have zW9 : w9.heap.size < W9.heap.size := by rw [← hW9]; simp
      clear hW9
      with_reducible refine (eqChain_fine _ _ _ _ A9 A0 cap9 cap0 rs us9 us0 W9 FN.out HN9.out HL0.out Q1 R3).mono ?_
      rintro e w10 ⟨rfl, hb10⟩
      have z10 := hb10.size
      have I5 := (I4.on hb10).top
      have R4 := R3.on hb10
      have Q2 := Q1.on hb10
      have O10 := hide (O9.out.on hb10)
      clear I4 R3 Q1 O9 k4 hb10
      go_wp2_with fail
      refine wp_region_noPanic ?_
      refine wp_region_held_drew (S := (fun w' => w'.cell? ⟨w7.heap.size, 0, none⟩ = some (.slice (some ⟨g7, 0, none⟩) ns.length ns.length) ∧ w'.cell? ⟨w.heap.size, 0, none⟩ = some (.slice a ns.length c) ∧ Inv w w10.heap.size [(w9.heap.size, 26, #[.slice A9 rs.length cap9]), (w8.heap.size, 55, (verC v.k v.t v.u (some ⟨g8, 0, none⟩) v.ts.length v.ts.length v.s v.g)), (g8, 53, cur8), (w7.heap.size, 26, #[.slice (some ⟨g7, 0, none⟩) ns.length ns.length]), (p0, 26, #[.slice A0 rs.length cap0]), (w.heap.size + 1, 49, (verC v.k v.t v.u v.a v.ts.length v.c v.s v.g)), (w.heap.size, 39, #[.slice a ns.length c])] w' ∧ Hid (NRow w' B7 w7.heap.size g7 us7 cur7) ∧ ResN w' B0 U0 A0 us0 ∧ ResN w' W8.heap.size w9.heap.size A9 us9)) (by kernel_rfl) (by exact ⟨(I5.nth 3 rfl).at 0, (I5.nth 6 rfl).at 0, I5.drew, O10.out.on (Below.refl _ _).drew, R4.on (Below.refl _ _).drew, Q2.on (Below.refl _ _).drew⟩) (fun hHeld => ?_)
      refine take_run 0 (some 54) (v := ?_) rfl rfl (by kernel_rfl) (by kernel_rfl) (by kernel_rfl) (fun _ _ _ h => h) (by rfl) ?_ hHeld ?_
      rotate_left
      · ((intro w hSw); (try dsimp only at hSw); go_simp <;> with_reducible rfl)
      simp only [Act.put, List.setIfInBounds_toArray, List.set_cons_zero, List.set_cons_succ]
      refine take_run 1 (some 55) (v := ?_) rfl rfl (by kernel_rfl) (by kernel_rfl) (by kernel_rfl) (fun _ _ _ h => h) (by rfl) ?_ hHeld ?_
      rotate_left
      · ((intro w hSw); (try dsimp only at hSw); go_simp <;> with_reducible rfl)
      simp only [Act.put, List.setIfInBounds_toArray, List.set_cons_zero, List.set_cons_succ]
      refine take_one 2 (by kernel_rfl) rfl (fun K hK => ?_)
      go_simp
      ((with_reducible refine (HTO.out _ hHeld.2.2.1.below).mono ?_); rintro e wd ⟨gd, usd, curd, rfl, hlid, hRd, hb⟩; have Rd := hide hRd; have HId := hide hlid; clear hRd hlid)
      try go_wp2_with fail
      refine hK.out _ _ (by exact ⟨((hHeld.2.2.1.on hb).nth 3 rfl).at 0, ((hHeld.2.2.1.on hb).nth 6 rfl).at 0, hHeld.2.2.1.on hb, hHeld.2.2.2.1.out.on hb, hHeld.2.2.2.2.1.on hb, hHeld.2.2.2.2.2.on hb⟩) (fun hHeld => ?_)
      clear hK K
      refine take_one 3 (by kernel_rfl) rfl (fun K hK => ?_)
      go_simp
      ((with_reducible refine (eqChain_copies _ _ _ _ _ _ _ _ ns us7 usd cur7 curd _ hn SM.out HI7.out HId.out hHeld.2.2.2.1.out Rd.out).mono ?_); rintro e we ⟨rfl, hb⟩)
      try go_wp2_with fail
      refine hK.out _ _ (by exact ⟨((hHeld.2.2.1.on hb).nth 3 rfl).at 0, ((hHeld.2.2.1.on hb).nth 6 rfl).at 0, hHeld.2.2.1.on hb, hHeld.2.2.2.1.out.on hb, hHeld.2.2.2.2.1.on hb, hHeld.2.2.2.2.2.on hb⟩) (fun hHeld => ?_)
      clear hK K
      refine take_run 4 (some 58) (v := ?_) rfl rfl (by kernel_rfl) (by kernel_rfl) (by kernel_rfl) (fun _ _ _ h => h) (by rfl) ?_ hHeld ?_
      rotate_left
      · ((intro w hSw); (try dsimp only at hSw); go_simp <;> with_reducible rfl)
      simp only [Act.put, List.setIfInBounds_toArray, List.set_cons_zero, List.set_cons_succ]
      refine wpAnyH_done (by kernel_rfl) ?_ _
      refine NoPanic.normal ?_
      obtain ⟨-, -, I6, O11, R5, Q3⟩ := hHeld
      clear I5 R4 Q2 O10 Rd HId
      go_wp2_with fail
      refine wp_region_noPanic ?_
      refine wp_region_held_drew (S := (fun w' => (w'.cell? ⟨w8.heap.size, 0, none⟩ = some (.int .i64 v.k) ∧ w'.cell? ⟨w8.heap.size, 1, none⟩ = some (.int .i64 v.t) ∧ w'.cell? ⟨w8.heap.size, 2, none⟩ = some (.int .i64 v.u) ∧ w'.cell? ⟨w8.heap.size, 3, none⟩ = some (.slice (some ⟨g8, 0, none⟩) v.ts.length v.ts.length) ∧ w'.cell? ⟨w8.heap.size, 4, none⟩ = some (.string v.s) ∧ w'.cell? ⟨w8.heap.size, 5, none⟩ = some (.bool v.g)) ∧ (w'.cell? ⟨w.heap.size + 1, 0, none⟩ = some (.int .i64 v.k) ∧ w'.cell? ⟨w.heap.size + 1, 1, none⟩ = some (.int .i64 v.t) ∧ w'.cell? ⟨w.heap.size + 1, 2, none⟩ = some (.int .i64 v.u) ∧ w'.cell? ⟨w.heap.size + 1, 3, none⟩ = some (.slice v.a v.ts.length v.c) ∧ w'.cell? ⟨w.heap.size + 1, 4, none⟩ = some (.string v.s) ∧ w'.cell? ⟨w.heap.size + 1, 5, none⟩ = some (.bool v.g)) ∧ Inv w w10.heap.size [(w9.heap.size, 26, #[.slice A9 rs.length cap9]), (w8.heap.size, 55, (verC v.k v.t v.u (some ⟨g8, 0, none⟩) v.ts.length v.ts.length v.s v.g)), (g8, 53, cur8), (w7.heap.size, 26, #[.slice (some ⟨g7, 0, none⟩) ns.length ns.length]), (p0, 26, #[.slice A0 rs.length cap0]), (w.heap.size + 1, 49, (verC v.k v.t v.u v.a v.ts.length v.c v.s v.g)), (w.heap.size, 39, #[.slice a ns.length c])] w' ∧ Hid (NRow w' B7 w7.heap.size g7 us7 cur7) ∧ ResN w' B0 U0 A0 us0 ∧ ResN w' W8.heap.size w9.heap.size A9 us9)) (by kernel_rfl) (by exact ⟨(I6.nth 1 rfl).six.1, (I6.nth 5 rfl).six.1, I6.drew, O11.out.on (Below.refl _ _).drew, R5.on (Below.refl _ _).drew, Q3.on (Below.refl _ _).drew⟩) (fun hHeld => ?_)
      refine take_run 0 (some 59) (v := ?_) rfl rfl (by kernel_rfl) (by kernel_rfl) (by kernel_rfl) (fun _ _ _ h => h) (by rfl) ?_ hHeld ?_
      rotate_left
      · ((intro w hSw); (try dsimp only at hSw); go_simp <;> with_reducible rfl)
      simp only [Act.put, List.setIfInBounds_toArray, List.set_cons_zero, List.set_cons_succ]
      refine take_run 1 (some 60) (v := ?_) rfl rfl (by kernel_rfl) (by kernel_rfl) (by kernel_rfl) (fun _ _ _ h => h) (by rfl) ?_ hHeld ?_
      rotate_left
      · ((intro w hSw); (try dsimp only at hSw); go_simp <;> with_reducible rfl)
      simp only [Act.put, List.setIfInBounds_toArray, List.set_cons_zero, List.set_cons_succ]
      refine take_one 2 (by kernel_rfl) rfl (fun K hK => ?_)
      go_simp
      (refine (toVer_any v.k v.t v.u v.a v.c v.ts v.s v.g _ hn1 ((ht.on hHeld.2.2.1.below).up hHeld.2.2.1.base)).mono ?_; rintro e wf ⟨gf, curf, rfl, hgf, hBf, hszf, hcurf, hb⟩; have HCf := hide hcurf; clear hcurf)
      try go_wp2_with fail
      refine hK.out _ _ (by exact ⟨((hHeld.2.2.1.on hb).nth 1 rfl).six.1, ((hHeld.2.2.1.on hb).nth 5 rfl).six.1, hHeld.2.2.1.on hb, hHeld.2.2.2.1.out.on hb, hHeld.2.2.2.2.1.on hb, hHeld.2.2.2.2.2.on hb⟩) (fun hHeld => ?_)
      clear hK K
      refine take_one 3 (by kernel_rfl) rfl (fun K hK => ?_)
      go_simp
      (refine (eqVer_same v.k v.t v.u _ _ _ _ v.ts v.s v.g _ hn1 (Tg.of (hHeld.2.2.1.nth 2 rfl) (hHeld.2.2.1.nth 2 rfl).inside HC8.out) (Tg.of hBf hBf.inside HCf.out)).mono ?_; rintro e wg ⟨rfl, hb⟩)
      try go_wp2_with fail
      refine hK.out _ _ (by exact ⟨((hHeld.2.2.1.on hb).nth 1 rfl).six.1, ((hHeld.2.2.1.on hb).nth 5 rfl).six.1, hHeld.2.2.1.on hb, hHeld.2.2.2.1.out.on hb, hHeld.2.2.2.2.1.on hb, hHeld.2.2.2.2.2.on hb⟩) (fun hHeld => ?_)
      clear hK K
      refine take_run 4 (some 63) (v := ?_) rfl rfl (by kernel_rfl) (by kernel_rfl) (by kernel_rfl) (fun _ _ _ h => h) (by rfl) ?_ hHeld ?_
      rotate_left
      · ((intro w hSw); (try dsimp only at hSw); go_simp <;> with_reducible rfl)
      simp only [Act.put, List.setIfInBounds_toArray, List.set_cons_zero, List.set_cons_succ]
      refine wpAnyH_done (by kernel_rfl) ?_ _
      refine NoPanic.normal ?_
      obtain ⟨-, -, I7, O12, R6, Q4⟩ := hHeld
      clear I6 R5 Q3 O11 hBf HCf
      have I8 := I7.top
      have zg := I7.room
      have k5 := (I8.nth 3 rfl).one.1
      clear I7
      have hwp := (wtNs_few HI7.out hsum).2
      have hwq := (wtNs_few HI7.out hsum).1
      have C9 := hide (markChain_copy B7 w7.heap.size g7 ns.length us7 ns cur7 wg O12.out HI7.out SM.out hsum)
      go_wp2_with fail
      with_reducible refine C9.out.mono ?_
      rintro e wh ⟨rfl, hTh⟩
      have R7 := R6.turn hTh (fun g h1 h2 h3 => by omega)
      have Q5 := Q4.turn hTh (fun g h1 h2 h3 => by omega)
      have I9 := I8.turned hTh (fun g h => by have hq := h.1; omega) (fun x hx h => by
        simp only [List.mem_cons, List.not_mem_nil, or_false] at hx
        rcases hx with rfl | rfl | rfl | rfl | rfl | rfl | rfl <;> simp only at h <;> omega)
      have zh := hTh.size
      have k6 := (I9.nth 1 rfl).six.1
      clear R6 Q4 I8 hTh O12 C9 k5
      go_wp2_with fail
      refine (markVer_any v.k v.t v.u g8 v.ts.length v.ts.length v.s v.g _ cur8 (1 + wtNs us7) wh (I9.nth 2 rfl) (by omega) hn1 (by omega) (by omega)).mono ?_
      rintro e wi ⟨rfl, hTi⟩
      have R8 := R7.turn hTi (fun g h1 h2 h3 => by omega)
      have Q6 := Q5.turn hTi (fun g h1 h2 h3 => by omega)
      have I10 := (I9.sub (bs' := [(w9.heap.size, 26, #[.slice A9 rs.length cap9]), (p0, 26, #[.slice A0 rs.length cap0]), (w.heap.size + 1, 49, (verC v.k v.t v.u v.a v.ts.length v.c v.s v.g)), (w.heap.size, 39, #[.slice a ns.length c])]) (fun x hx => by
        simp only [List.mem_cons, List.not_mem_nil, or_false] at hx ⊢
        rcases hx with rfl | rfl | rfl | rfl <;> simp)).turned hTi (fun g h => by omega) (fun x hx h => by
        simp only [List.mem_cons, List.not_mem_nil, or_false] at hx
        rcases hx with rfl | rfl | rfl | rfl <;> simp only at h <;> omega)
      have zi := hTi.size
      have hpi : ¬ ((1 : Int) + wtNs us7 + 2 * (v.ts.length : Int) < 0) := by omega
      have k7 := (I10.nth 0 rfl).one.1
      have k8 := (I10.nth 1 rfl).one.1
      clear R7 Q5 I9 hTi k6 HC8
      go_wp2_with fail
      with_reducible refine (eqChain_fine _ _ _ _ A9 A0 cap9 cap0 rs us9 us0 wi FN.out HN9.out HL0.out Q6 R8).mono ?_
      rintro e wj ⟨rfl, hbj⟩
      have zj := hbj.size
      have I11 := (I10.on hbj).top
      have R9 := R8.on hbj
      have Q7 := Q6.on hbj
      clear I10 R8 Q6 hbj k7 k8
      have k7 := (I11.nth 0 rfl).one.1
      go_wp2_with fail
      with_reducible refine (markChain_fine W8.heap.size w9.heap.size A9 cap9 rs us9 wj FN.out HN9.out Q7).mono ?_
      rintro e wk ⟨rfl, Q8, hTk⟩
      have R10 := R9.turn hTk (fun g h1 h2 h3 => by omega)
      have I12 := I11.turned hTk (fun g h => by have hq := h.1; omega) (fun x hx h => by
        simp only [List.mem_cons, List.not_mem_nil, or_false] at hx
        rcases hx with rfl | rfl | rfl | rfl <;> simp only at h <;> omega)
      have zk := hTk.size
      clear R9 Q7 I11 hTk k7
      have k7 := (I12.nth 0 rfl).one.1
      go_wp2_with fail
      with_reducible refine (heldChain_fine W8.heap.size w9.heap.size A9 cap9 rs us9 wk FN.out HN9.out Q8).mono ?_
      rintro e wl ⟨rfl, hbl⟩
      have zl := hbl.size
      have I13 := (I12.on hbl).top
      have R11 := R10.on hbl
      have Q9 := Q8.on hbl
      clear I12 R10 Q8 hbl k7
      have hwp9 := wtNs_pos us9
      have hp12 : ¬ ((1 : Int) + wtNs us9 < 0) := by omega
      have hne : ((1 : Int) + wtNs us9 != 1 + wtNs us9) = false := by simp
      have zb13 := I13.base
      go_wp2_with fail
      go_upto_region 31 with (fail)
      go_cut [15, 16] (fun s t wx => ∃ (p : Nat) (A : Option Addr) (cap B U : Nat) (us : List Nd), s = .pointer (some ⟨p, 0, none⟩) ∧ t = .bool ob ∧ Blk wx p 26 #[.slice A rs.length cap] ∧ NL us rs ∧ ResN wx B U A us ∧ Inv w wl.heap.size [(w9.heap.size, 26, #[.slice A9 rs.length cap9]), (p0, 26, #[.slice A0 rs.length cap0]), (w.heap.size + 1, 49, (verC v.k v.t v.u v.a v.ts.length v.c v.s v.g)), (w.heap.size, 39, #[.slice a ns.length c])] wx ∧ ResN wx B0 U0 A0 us0 ∧ ResN wx W8.heap.size w9.heap.size A9 (mkNs 1 us9) ∧ wl.heap.size ≤ p ∧ wl.heap.size ≤ B ∧ U ≤ wx.heap.size ∧ (p < B ∨ U ≤ p))
      case first =>
        refine wp_region_noPanic ?_
        refine wp_region_held_drew (S := (fun w' => w'.cell? ⟨w.heap.size, 0, none⟩ = some (.slice a ns.length c) ∧ (w'.cell? ⟨w.heap.size + 1, 0, none⟩ = some (.int .i64 v.k) ∧ w'.cell? ⟨w.heap.size + 1, 1, none⟩ = some (.int .i64 v.t) ∧ w'.cell? ⟨w.heap.size + 1, 2, none⟩ = some (.int .i64 v.u) ∧ w'.cell? ⟨w.heap.size + 1, 3, none⟩ = some (.slice v.a v.ts.length v.c) ∧ w'.cell? ⟨w.heap.size + 1, 4, none⟩ = some (.string v.s) ∧ w'.cell? ⟨w.heap.size + 1, 5, none⟩ = some (.bool v.g)) ∧ Inv w wl.heap.size [(w9.heap.size, 26, #[.slice A9 rs.length cap9]), (p0, 26, #[.slice A0 rs.length cap0]), (w.heap.size + 1, 49, (verC v.k v.t v.u v.a v.ts.length v.c v.s v.g)), (w.heap.size, 39, #[.slice a ns.length c])] w' ∧ ResN w' B0 U0 A0 us0 ∧ ResN w' W8.heap.size w9.heap.size A9 (mkNs 1 us9))) (by kernel_rfl) (by exact ⟨(I13.drew.nth 3 rfl).at 0, (I13.drew.nth 2 rfl).six.1, I13.drew, R11.on (Below.refl _ _).drew, Q9.on (Below.refl _ _).drew⟩) (fun hHeld => ?_)
        refine take_run 0 (some 95) (v := ?_) rfl rfl (by kernel_rfl) (by kernel_rfl) (by kernel_rfl) (fun _ _ _ h => h) (by rfl) ?_ hHeld ?_
        rotate_left
        · ((intro w hSw); (try dsimp only at hSw); go_simp <;> with_reducible rfl)
        simp only [Act.put, List.setIfInBounds_toArray, List.set_cons_zero, List.set_cons_succ]
        refine take_run 2 (some 97) (v := ?_) rfl rfl (by kernel_rfl) (by kernel_rfl) (by kernel_rfl) (fun _ _ _ h => h) (by rfl) ?_ hHeld ?_
        rotate_left
        · ((intro w hSw); (try dsimp only at hSw); go_simp <;> with_reducible rfl)
        simp only [Act.put, List.setIfInBounds_toArray, List.set_cons_zero, List.set_cons_succ]
        refine wpAnyH_ready (rs := [1, 8]) (by kernel_rfl) (by simp) ?_
        refine AllReadyH.cons rfl (fun K hK => ?_) (AllReadyH.cons rfl (fun K hK => ?_) AllReadyH.nil)
        · skip
          go_simp
          (have hr := hHeld.2.2.1.room; (try simp at hr); (with_reducible refine (HTO.out _ hHeld.2.2.1.below).mono ?_); rintro e wa ⟨ga, usa, cura, rfl, hlia, hRa, hb⟩; have HIa := hide hlia; have HRa := hide hRa; clear hlia hRa; have hz := hb.size; (try simp at hz); (first | (with_reducible have hx := Blk.on (Blk.drew (Blk.made _ _ #[.slice none 0 0])) hb) | (with_reducible have hx := Blk.on (Blk.made _ _ #[.slice none 0 0]) hb) | (with_reducible have hx := Blk.on (cs := #[.slice none 0 0]) (by assumption) hb) | skip); (try have kx := hx.one))
          try go_wp2_with fail
          refine hK.out _ _ (by exact ⟨((hHeld.2.2.1.on hb).nth 3 rfl).at 0, ((hHeld.2.2.1.on hb).nth 2 rfl).six.1, (hHeld.2.2.1.on hb), (hHeld.2.2.2.1).on hb, (hHeld.2.2.2.2).on hb⟩) (fun hHeld => ?_)
          clear hK K
          refine wpAnyH_ready (rs := [3, 8]) (by kernel_rfl) (by simp) ?_
          refine AllReadyH.cons rfl (fun K hK => ?_) (AllReadyH.cons rfl (fun K hK => ?_) AllReadyH.nil)
          · skip
            go_simp
            (have hr := hHeld.2.2.1.room; (try simp at hr); refine (toVer_any v.k v.t v.u v.a v.c v.ts v.s v.g _ hn1 ((ht.on hHeld.2.2.1.below).up hHeld.2.2.1.base)).mono ?_; rintro e wb ⟨gb, curb, rfl, hgb, hBb, hszb, hcurb, hb⟩; have HOb := hide (own_tags hBb hszb hcurb (v := v)); clear hcurb; (first | have HRa' := hide (HRa.out.on hb) | have HRa' := hide ((HRa.out.on (below_alloc1 _ _)).on hb)); have hz := hb.size; (try simp at hz); (first | (with_reducible have hx := Blk.on (Blk.drew (Blk.made _ _ #[.slice none 0 0])) hb) | (with_reducible have hx := Blk.on (Blk.made _ _ #[.slice none 0 0]) hb) | (with_reducible have hx := Blk.on (cs := #[.slice none 0 0]) (by assumption) hb) | skip); (try have kx := hx.one))
            try go_wp2_with fail
            refine hK.out _ _ (by exact ⟨((hHeld.2.2.1.on hb).nth 3 rfl).at 0, ((hHeld.2.2.1.on hb).nth 2 rfl).six.1, (hHeld.2.2.1.on hb), (hHeld.2.2.2.1).on hb, (hHeld.2.2.2.2).on hb⟩) (fun hHeld => ?_)
            clear hK K
            refine wpAnyH_ready (rs := [4, 8]) (by kernel_rfl) (by simp) ?_
            refine AllReadyH.cons rfl (fun K hK => ?_) (AllReadyH.cons rfl (fun K hK => ?_) AllReadyH.nil)
            · skip
              go_simp
              (have hr := hHeld.2.2.1.room; (try simp at hr); (first | (with_reducible refine (HIM.out ga usa cura _ _ gb _ HRa'.out HIa.out HOb.out).mono ?_) | (with_reducible refine (HIM.out ga usa cura _ _ gb _ (HRa'.out.on (below_alloc1 _ _)) HIa.out ((HOb.out.on (below_alloc1 _ _)).wide (by simp))).mono ?_)); rintro e wc ⟨A5, cap5, us5, rfl, hl5, hR5, hb⟩; have HL5 := hide hl5; clear hl5; have hz := hb.size; (try simp at hz); (first | (with_reducible have hx := Blk.on (Blk.drew (Blk.made _ _ #[.slice none 0 0])) hb) | (with_reducible have hx := Blk.on (Blk.made _ _ #[.slice none 0 0]) hb) | (with_reducible have hx := Blk.on (cs := #[.slice none 0 0]) (by assumption) hb) | skip); (try have kx := hx.one))
              try go_wp2_with fail
              refine hK.out _ _ (by exact ⟨((hHeld.2.2.1.on hb).nth 3 rfl).at 0, ((hHeld.2.2.1.on hb).nth 2 rfl).six.1, (hHeld.2.2.1.on hb), (hHeld.2.2.2.1).on hb, (hHeld.2.2.2.2).on hb⟩) (fun hHeld => ?_)
              clear hK K
              refine take_run 5 (some 94) (v := ?_) rfl rfl (by kernel_rfl) (by kernel_rfl) (by kernel_rfl) (fun _ _ _ h => h) (by rfl) ?_ hHeld ?_
              rotate_left
              · ((intro w hSw); (try dsimp only at hSw); go_simp <;> with_reducible rfl)
              simp only [Act.put, List.setIfInBounds_toArray, List.set_cons_zero, List.set_cons_succ]
              refine take_run 6 (some 100) (v := ?_) rfl rfl (by kernel_rfl) (by kernel_rfl) (by kernel_rfl) (fun _ _ _ h => h) (by rfl) ?_ hHeld ?_
              rotate_left
              · ((intro w hSw); (try dsimp only at hSw); go_simp <;> with_reducible rfl)
              simp only [Act.put, List.setIfInBounds_toArray, List.set_cons_zero, List.set_cons_succ]
              refine take_run 7 (some 101) (v := ?_) rfl rfl (by kernel_rfl) (by kernel_rfl) (by kernel_rfl) (fun _ _ _ h => h) (by rfl) ?_ hHeld ?_
              rotate_left
              · ((intro w hSw); (try dsimp only at hSw); go_simp <;> with_reducible rfl)
              simp only [Act.put, List.setIfInBounds_toArray, List.set_cons_zero, List.set_cons_succ]
              refine take_one 8 (by kernel_rfl) rfl (fun K hK => ?_)
              go_simp
              (have hr5 := hHeld.2.2.1.room; (try simp at hr5))
              try go_wp2_with fail
              refine hK.out _ _ (by exact ⟨((hHeld.2.2.1.alloc _).nth 3 rfl).at 0, ((hHeld.2.2.1.alloc _).nth 2 rfl).six.1, (hHeld.2.2.1.alloc _), (hHeld.2.2.2.1).alloc _, (hHeld.2.2.2.2).alloc _⟩) (fun hHeld => ?_)
              clear hK K
              refine take_one 9 (by kernel_rfl) rfl (fun K hK => ?_)
              go_simp
              refine hK.out _ _ (by first | exact ⟨((hHeld.2.2.1.swap (o := .cells #[.slice none 0 0] 26) (by first | omega | (simp <;> omega)) (by first | omega | (simp <;> omega))).nth 3 rfl).at 0, ((hHeld.2.2.1.swap (o := .cells #[.slice none 0 0] 26) (by first | omega | (simp <;> omega)) (by first | omega | (simp <;> omega))).nth 2 rfl).six.1, (hHeld.2.2.1.swap (o := .cells #[.slice none 0 0] 26) (by first | omega | (simp <;> omega)) (by first | omega | (simp <;> omega))), ResN.swap (o := .cells #[.slice none 0 0] 26) (hHeld.2.2.2.1) (by first | omega | (simp <;> omega)), ResN.swap (o := .cells #[.slice none 0 0] 26) (hHeld.2.2.2.2) (by first | omega | (simp <;> omega))⟩ | exact ⟨((hHeld.2.2.1.set (by first | omega | (simp <;> omega)) (by first | omega | (simp <;> omega)) _).nth 3 rfl).at 0, ((hHeld.2.2.1.set (by first | omega | (simp <;> omega)) (by first | omega | (simp <;> omega)) _).nth 2 rfl).six.1, (hHeld.2.2.1.set (by first | omega | (simp <;> omega)) (by first | omega | (simp <;> omega)) _), (hHeld.2.2.2.1).set (.inr (by first | omega | (simp <;> omega))) _, (hHeld.2.2.2.2).set (.inr (by first | omega | (simp <;> omega))) _⟩) (fun hHeld => ?_)
              clear hK K
              refine take_run 10 (some 16) (v := ?_) rfl rfl (by kernel_rfl) (by kernel_rfl) (by kernel_rfl) (fun _ _ _ h => h) (by rfl) ?_ hHeld ?_
              rotate_left
              · ((intro w hSw); (try dsimp only at hSw); go_simp <;> with_reducible rfl)
              simp only [Act.put, List.setIfInBounds_toArray, List.set_cons_zero, List.set_cons_succ]
              refine wpAnyH_done (by kernel_rfl) ?_ _
              refine NoPanic.normal ?_
              go_wp2_with fail
              go_meet
              first | exact ⟨_, A5, cap5, _, _, us5, rfl, rfl, Blk.made _ _ _, HL5.out, hR5.alloc _, hHeld.2.2.1, hHeld.2.2.2.1, hHeld.2.2.2.2, (by first | omega | (simp <;> omega)), (by first | omega | (simp <;> omega)), (by first | omega | (simp <;> omega)), (by first | exact .inr (by first | omega | (simp <;> omega)) | exact .inl (by first | omega | (simp <;> omega)))⟩ | exact ⟨_, A5, cap5, _, _, us5, rfl, rfl, hx.put 0 _, HL5.out, hR5.set (by first | exact .inl (by first | omega | (simp <;> omega)) | exact .inr (by first | omega | (simp <;> omega))) _, hHeld.2.2.1, hHeld.2.2.2.1, hHeld.2.2.2.2, (by first | omega | (simp <;> omega)), (by first | omega | (simp <;> omega)), (by first | omega | (simp [World.setCell] <;> omega)), (by first | exact .inl (by first | omega | (simp <;> omega)) | exact .inr (by first | omega | (simp <;> omega)))⟩
            · skip
              go_simp
              (have hr5 := hHeld.2.2.1.room; (try simp at hr5))
              try go_wp2_with fail
              refine hK.out _ _ (by exact ⟨((hHeld.2.2.1.alloc _).nth 3 rfl).at 0, ((hHeld.2.2.1.alloc _).nth 2 rfl).six.1, (hHeld.2.2.1.alloc _), (hHeld.2.2.2.1).alloc _, (hHeld.2.2.2.2).alloc _⟩) (fun hHeld => ?_)
              clear hK K
              refine take_one 4 (by kernel_rfl) rfl (fun K hK => ?_)
              go_simp
              (have hr := hHeld.2.2.1.room; (try simp at hr); (first | (with_reducible refine (HIM.out ga usa cura _ _ gb _ HRa'.out HIa.out HOb.out).mono ?_) | (with_reducible refine (HIM.out ga usa cura _ _ gb _ (HRa'.out.on (below_alloc1 _ _)) HIa.out ((HOb.out.on (below_alloc1 _ _)).wide (by simp))).mono ?_)); rintro e wc ⟨A5, cap5, us5, rfl, hl5, hR5, hb⟩; have HL5 := hide hl5; clear hl5; have hz := hb.size; (try simp at hz); (first | (with_reducible have hx := Blk.on (Blk.drew (Blk.made _ _ #[.slice none 0 0])) hb) | (with_reducible have hx := Blk.on (Blk.made _ _ #[.slice none 0 0]) hb) | (with_reducible have hx := Blk.on (cs := #[.slice none 0 0]) (by assumption) hb) | skip); (try have kx := hx.one))
              try go_wp2_with fail
              refine hK.out _ _ (by exact ⟨((hHeld.2.2.1.on hb).nth 3 rfl).at 0, ((hHeld.2.2.1.on hb).nth 2 rfl).six.1, (hHeld.2.2.1.on hb), (hHeld.2.2.2.1).on hb, (hHeld.2.2.2.2).on hb⟩) (fun hHeld => ?_)
              clear hK K
              refine take_run 5 (some 94) (v := ?_) rfl rfl (by kernel_rfl) (by kernel_rfl) (by kernel_rfl) (fun _ _ _ h => h) (by rfl) ?_ hHeld ?_
              rotate_left
              · ((intro w hSw); (try dsimp only at hSw); go_simp <;> with_reducible rfl)
              simp only [Act.put, List.setIfInBounds_toArray, List.set_cons_zero, List.set_cons_succ]
              refine take_run 6 (some 100) (v := ?_) rfl rfl (by kernel_rfl) (by kernel_rfl) (by kernel_rfl) (fun _ _ _ h => h) (by rfl) ?_ hHeld ?_
              rotate_left
              · ((intro w hSw); (try dsimp only at hSw); go_simp <;> with_reducible rfl)
              simp only [Act.put, List.setIfInBounds_toArray, List.set_cons_zero, List.set_cons_succ]
              refine take_run 7 (some 101) (v := ?_) rfl rfl (by kernel_rfl) (by kernel_rfl) (by kernel_rfl) (fun _ _ _ h => h) (by rfl) ?_ hHeld ?_
              rotate_left
              · ((intro w hSw); (try dsimp only at hSw); go_simp <;> with_reducible rfl)
              simp only [Act.put, List.setIfInBounds_toArray, List.set_cons_zero, List.set_cons_succ]
              refine take_one 9 (by kernel_rfl) rfl (fun K hK => ?_)
              go_simp
              refine hK.out _ _ (by first | exact ⟨((hHeld.2.2.1.swap (o := .cells #[.slice none 0 0] 26) (by first | omega | (simp <;> omega)) (by first | omega | (simp <;> omega))).nth 3 rfl).at 0, ((hHeld.2.2.1.swap (o := .cells #[.slice none 0 0] 26) (by first | omega | (simp <;> omega)) (by first | omega | (simp <;> omega))).nth 2 rfl).six.1, (hHeld.2.2.1.swap (o := .cells #[.slice none 0 0] 26) (by first | omega | (simp <;> omega)) (by first | omega | (simp <;> omega))), ResN.swap (o := .cells #[.slice none 0 0] 26) (hHeld.2.2.2.1) (by first | omega | (simp <;> omega)), ResN.swap (o := .cells #[.slice none 0 0] 26) (hHeld.2.2.2.2) (by first | omega | (simp <;> omega))⟩ | exact ⟨((hHeld.2.2.1.set (by first | omega | (simp <;> omega)) (by first | omega | (simp <;> omega)) _).nth 3 rfl).at 0, ((hHeld.2.2.1.set (by first | omega | (simp <;> omega)) (by first | omega | (simp <;> omega)) _).nth 2 rfl).six.1, (hHeld.2.2.1.set (by first | omega | (simp <;> omega)) (by first | omega | (simp <;> omega)) _), (hHeld.2.2.2.1).set (.inr (by first | omega | (simp <;> omega))) _, (hHeld.2.2.2.2).set (.inr (by first | omega | (simp <;> omega))) _⟩) (fun hHeld => ?_)
              clear hK K
              refine take_run 10 (some 16) (v := ?_) rfl rfl (by kernel_rfl) (by kernel_rfl) (by kernel_rfl) (fun _ _ _ h => h) (by rfl) ?_ hHeld ?_
              rotate_left
              · ((intro w hSw); (try dsimp only at hSw); go_simp <;> with_reducible rfl)
              simp only [Act.put, List.setIfInBounds_toArray, List.set_cons_zero, List.set_cons_succ]
              refine wpAnyH_done (by kernel_rfl) ?_ _
              refine NoPanic.normal ?_
              go_wp2_with fail
              go_meet
              first | exact ⟨_, A5, cap5, _, _, us5, rfl, rfl, Blk.made _ _ _, HL5.out, hR5.alloc _, hHeld.2.2.1, hHeld.2.2.2.1, hHeld.2.2.2.2, (by first | omega | (simp <;> omega)), (by first | omega | (simp <;> omega)), (by first | omega | (simp <;> omega)), (by first | exact .inr (by first | omega | (simp <;> omega)) | exact .inl (by first | omega | (simp <;> omega)))⟩ | exact ⟨_, A5, cap5, _, _, us5, rfl, rfl, hx.put 0 _, HL5.out, hR5.set (by first | exact .inl (by first | omega | (simp <;> omega)) | exact .inr (by first | omega | (simp <;> omega))) _, hHeld.2.2.1, hHeld.2.2.2.1, hHeld.2.2.2.2, (by first | omega | (simp <;> omega)), (by first | omega | (simp <;> omega)), (by first | omega | (simp [World.setCell] <;> omega)), (by first | exact .inl (by first | omega | (simp <;> omega)) | exact .inr (by first | omega | (simp <;> omega)))⟩
          · skip
            go_simp
            (have hr5 := hHeld.2.2.1.room; (try simp at hr5))
            try go_wp2_with fail
            refine hK.out _ _ (by exact ⟨((hHeld.2.2.1.alloc _).nth 3 rfl).at 0, ((hHeld.2.2.1.alloc _).nth 2 rfl).six.1, (hHeld.2.2.1.alloc _), (hHeld.2.2.2.1).alloc _, (hHeld.2.2.2.2).alloc _⟩) (fun hHeld => ?_)
            clear hK K
            refine take_one 3 (by kernel_rfl) rfl (fun K hK => ?_)
            go_simp
            (have hr := hHeld.2.2.1.room; (try simp at hr); refine (toVer_any v.k v.t v.u v.a v.c v.ts v.s v.g _ hn1 ((ht.on hHeld.2.2.1.below).up hHeld.2.2.1.base)).mono ?_; rintro e wb ⟨gb, curb, rfl, hgb, hBb, hszb, hcurb, hb⟩; have HOb := hide (own_tags hBb hszb hcurb (v := v)); clear hcurb; (first | have HRa' := hide (HRa.out.on hb) | have HRa' := hide ((HRa.out.on (below_alloc1 _ _)).on hb)); have hz := hb.size; (try simp at hz); (first | (with_reducible have hx := Blk.on (Blk.drew (Blk.made _ _ #[.slice none 0 0])) hb) | (with_reducible have hx := Blk.on (Blk.made _ _ #[.slice none 0 0]) hb) | (with_reducible have hx := Blk.on (cs := #[.slice none 0 0]) (by assumption) hb) | skip); (try have kx := hx.one))
            try go_wp2_with fail
            refine hK.out _ _ (by exact ⟨((hHeld.2.2.1.on hb).nth 3 rfl).at 0, ((hHeld.2.2.1.on hb).nth 2 rfl).six.1, (hHeld.2.2.1.on hb), (hHeld.2.2.2.1).on hb, (hHeld.2.2.2.2).on hb⟩) (fun hHeld => ?_)
            clear hK K
            refine take_one 4 (by kernel_rfl) rfl (fun K hK => ?_)
            go_simp
            (have hr := hHeld.2.2.1.room; (try simp at hr); (first | (with_reducible refine (HIM.out ga usa cura _ _ gb _ HRa'.out HIa.out HOb.out).mono ?_) | (with_reducible refine (HIM.out ga usa cura _ _ gb _ (HRa'.out.on (below_alloc1 _ _)) HIa.out ((HOb.out.on (below_alloc1 _ _)).wide (by simp))).mono ?_)); rintro e wc ⟨A5, cap5, us5, rfl, hl5, hR5, hb⟩; have HL5 := hide hl5; clear hl5; have hz := hb.size; (try simp at hz); (first | (with_reducible have hx := Blk.on (Blk.drew (Blk.made _ _ #[.slice none 0 0])) hb) | (with_reducible have hx := Blk.on (Blk.made _ _ #[.slice none 0 0]) hb) | (with_reducible have hx := Blk.on (cs := #[.slice none 0 0]) (by assumption) hb) | skip); (try have kx := hx.one))
            try go_wp2_with fail
            refine hK.out _ _ (by exact ⟨((hHeld.2.2.1.on hb).nth 3 rfl).at 0, ((hHeld.2.2.1.on hb).nth 2 rfl).six.1, (hHeld.2.2.1.on hb), (hHeld.2.2.2.1).on hb, (hHeld.2.2.2.2).on hb⟩) (fun hHeld => ?_)
            clear hK K
            refine take_run 5 (some 94) (v := ?_) rfl rfl (by kernel_rfl) (by kernel_rfl) (by kernel_rfl) (fun _ _ _ h => h) (by rfl) ?_ hHeld ?_
            rotate_left
            · ((intro w hSw); (try dsimp only at hSw); go_simp <;> with_reducible rfl)
            simp only [Act.put, List.setIfInBounds_toArray, List.set_cons_zero, List.set_cons_succ]
            refine take_run 6 (some 100) (v := ?_) rfl rfl (by kernel_rfl) (by kernel_rfl) (by kernel_rfl) (fun _ _ _ h => h) (by rfl) ?_ hHeld ?_
            rotate_left
            · ((intro w hSw); (try dsimp only at hSw); go_simp <;> with_reducible rfl)
            simp only [Act.put, List.setIfInBounds_toArray, List.set_cons_zero, List.set_cons_succ]
            refine take_run 7 (some 101) (v := ?_) rfl rfl (by kernel_rfl) (by kernel_rfl) (by kernel_rfl) (fun _ _ _ h => h) (by rfl) ?_ hHeld ?_
            rotate_left
            · ((intro w hSw); (try dsimp only at hSw); go_simp <;> with_reducible rfl)
            simp only [Act.put, List.setIfInBounds_toArray, List.set_cons_zero, List.set_cons_succ]
            refine take_one 9 (by kernel_rfl) rfl (fun K hK => ?_)
            go_simp
            refine hK.out _ _ (by first | exact ⟨((hHeld.2.2.1.swap (o := .cells #[.slice none 0 0] 26) (by first | omega | (simp <;> omega)) (by first | omega | (simp <;> omega))).nth 3 rfl).at 0, ((hHeld.2.2.1.swap (o := .cells #[.slice none 0 0] 26) (by first | omega | (simp <;> omega)) (by first | omega | (simp <;> omega))).nth 2 rfl).six.1, (hHeld.2.2.1.swap (o := .cells #[.slice none 0 0] 26) (by first | omega | (simp <;> omega)) (by first | omega | (simp <;> omega))), ResN.swap (o := .cells #[.slice none 0 0] 26) (hHeld.2.2.2.1) (by first | omega | (simp <;> omega)), ResN.swap (o := .cells #[.slice none 0 0] 26) (hHeld.2.2.2.2) (by first | omega | (simp <;> omega))⟩ | exact ⟨((hHeld.2.2.1.set (by first | omega | (simp <;> omega)) (by first | omega | (simp <;> omega)) _).nth 3 rfl).at 0, ((hHeld.2.2.1.set (by first | omega | (simp <;> omega)) (by first | omega | (simp <;> omega)) _).nth 2 rfl).six.1, (hHeld.2.2.1.set (by first | omega | (simp <;> omega)) (by first | omega | (simp <;> omega)) _), (hHeld.2.2.2.1).set (.inr (by first | omega | (simp <;> omega))) _, (hHeld.2.2.2.2).set (.inr (by first | omega | (simp <;> omega))) _⟩) (fun hHeld => ?_)
            clear hK K
            refine take_run 10 (some 16) (v := ?_) rfl rfl (by kernel_rfl) (by kernel_rfl) (by kernel_rfl) (fun _ _ _ h => h) (by rfl) ?_ hHeld ?_
            rotate_left
            · ((intro w hSw); (try dsimp only at hSw); go_simp <;> with_reducible rfl)
            simp only [Act.put, List.setIfInBounds_toArray, List.set_cons_zero, List.set_cons_succ]
            refine wpAnyH_done (by kernel_rfl) ?_ _
            refine NoPanic.normal ?_
            go_wp2_with fail
            go_meet
            first | exact ⟨_, A5, cap5, _, _, us5, rfl, rfl, Blk.made _ _ _, HL5.out, hR5.alloc _, hHeld.2.2.1, hHeld.2.2.2.1, hHeld.2.2.2.2, (by first | omega | (simp <;> omega)), (by first | omega | (simp <;> omega)), (by first | omega | (simp <;> omega)), (by first | exact .inr (by first | omega | (simp <;> omega)) | exact .inl (by first | omega | (simp <;> omega)))⟩ | exact ⟨_, A5, cap5, _, _, us5, rfl, rfl, hx.put 0 _, HL5.out, hR5.set (by first | exact .inl (by first | omega | (simp <;> omega)) | exact .inr (by first | omega | (simp <;> omega))) _, hHeld.2.2.1, hHeld.2.2.2.1, hHeld.2.2.2.2, (by first | omega | (simp <;> omega)), (by first | omega | (simp <;> omega)), (by first | omega | (simp [World.setCell] <;> omega)), (by first | exact .inl (by first | omega | (simp <;> omega)) | exact .inr (by first | omega | (simp <;> omega)))⟩
        · skip
          go_simp
          (have hr5 := hHeld.2.2.1.room; (try simp at hr5))
          try go_wp2_with fail
          refine hK.out _ _ (by exact ⟨((hHeld.2.2.1.alloc _).nth 3 rfl).at 0, ((hHeld.2.2.1.alloc _).nth 2 rfl).six.1, (hHeld.2.2.1.alloc _), (hHeld.2.2.2.1).alloc _, (hHeld.2.2.2.2).alloc _⟩) (fun hHeld => ?_)
          clear hK K
          refine take_one 1 (by kernel_rfl) rfl (fun K hK => ?_)
          go_simp
          (have hr := hHeld.2.2.1.room; (try simp at hr); (with_reducible refine (HTO.out _ hHeld.2.2.1.below).mono ?_); rintro e wa ⟨ga, usa, cura, rfl, hlia, hRa, hb⟩; have HIa := hide hlia; have HRa := hide hRa; clear hlia hRa; have hz := hb.size; (try simp at hz); (first | (with_reducible have hx := Blk.on (Blk.drew (Blk.made _ _ #[.slice none 0 0])) hb) | (with_reducible have hx := Blk.on (Blk.made _ _ #[.slice none 0 0]) hb) | (with_reducible have hx := Blk.on (cs := #[.slice none 0 0]) (by assumption) hb) | skip); (try have kx := hx.one))
          try go_wp2_with fail
          refine hK.out _ _ (by exact ⟨((hHeld.2.2.1.on hb).nth 3 rfl).at 0, ((hHeld.2.2.1.on hb).nth 2 rfl).six.1, (hHeld.2.2.1.on hb), (hHeld.2.2.2.1).on hb, (hHeld.2.2.2.2).on hb⟩) (fun hHeld => ?_)
          clear hK K
          refine take_one 3 (by kernel_rfl) rfl (fun K hK => ?_)
          go_simp
          (have hr := hHeld.2.2.1.room; (try simp at hr); refine (toVer_any v.k v.t v.u v.a v.c v.ts v.s v.g _ hn1 ((ht.on hHeld.2.2.1.below).up hHeld.2.2.1.base)).mono ?_; rintro e wb ⟨gb, curb, rfl, hgb, hBb, hszb, hcurb, hb⟩; have HOb := hide (own_tags hBb hszb hcurb (v := v)); clear hcurb; (first | have HRa' := hide (HRa.out.on hb) | have HRa' := hide ((HRa.out.on (below_alloc1 _ _)).on hb)); have hz := hb.size; (try simp at hz); (first | (with_reducible have hx := Blk.on (Blk.drew (Blk.made _ _ #[.slice none 0 0])) hb) | (with_reducible have hx := Blk.on (Blk.made _ _ #[.slice none 0 0]) hb) | (with_reducible have hx := Blk.on (cs := #[.slice none 0 0]) (by assumption) hb) | skip); (try have kx := hx.one))
          try go_wp2_with fail
          refine hK.out _ _ (by exact ⟨((hHeld.2.2.1.on hb).nth 3 rfl).at 0, ((hHeld.2.2.1.on hb).nth 2 rfl).six.1, (hHeld.2.2.1.on hb), (hHeld.2.2.2.1).on hb, (hHeld.2.2.2.2).on hb⟩) (fun hHeld => ?_)
          clear hK K
          refine take_one 4 (by kernel_rfl) rfl (fun K hK => ?_)
          go_simp
          (have hr := hHeld.2.2.1.room; (try simp at hr); (first | (with_reducible refine (HIM.out ga usa cura _ _ gb _ HRa'.out HIa.out HOb.out).mono ?_) | (with_reducible refine (HIM.out ga usa cura _ _ gb _ (HRa'.out.on (below_alloc1 _ _)) HIa.out ((HOb.out.on (below_alloc1 _ _)).wide (by simp))).mono ?_)); rintro e wc ⟨A5, cap5, us5, rfl, hl5, hR5, hb⟩; have HL5 := hide hl5; clear hl5; have hz := hb.size; (try simp at hz); (first | (with_reducible have hx := Blk.on (Blk.drew (Blk.made _ _ #[.slice none 0 0])) hb) | (with_reducible have hx := Blk.on (Blk.made _ _ #[.slice none 0 0]) hb) | (with_reducible have hx := Blk.on (cs := #[.slice none 0 0]) (by assumption) hb) | skip); (try have kx := hx.one))
          try go_wp2_with fail
          refine hK.out _ _ (by exact ⟨((hHeld.2.2.1.on hb).nth 3 rfl).at 0, ((hHeld.2.2.1.on hb).nth 2 rfl).six.1, (hHeld.2.2.1.on hb), (hHeld.2.2.2.1).on hb, (hHeld.2.2.2.2).on hb⟩) (fun hHeld => ?_)
          clear hK K
          refine take_run 5 (some 94) (v := ?_) rfl rfl (by kernel_rfl) (by kernel_rfl) (by kernel_rfl) (fun _ _ _ h => h) (by rfl) ?_ hHeld ?_
          rotate_left
          · ((intro w hSw); (try dsimp only at hSw); go_simp <;> with_reducible rfl)
          simp only [Act.put, List.setIfInBounds_toArray, List.set_cons_zero, List.set_cons_succ]
          refine take_run 6 (some 100) (v := ?_) rfl rfl (by kernel_rfl) (by kernel_rfl) (by kernel_rfl) (fun _ _ _ h => h) (by rfl) ?_ hHeld ?_
          rotate_left
          · ((intro w hSw); (try dsimp only at hSw); go_simp <;> with_reducible rfl)
          simp only [Act.put, List.setIfInBounds_toArray, List.set_cons_zero, List.set_cons_succ]
          refine take_run 7 (some 101) (v := ?_) rfl rfl (by kernel_rfl) (by kernel_rfl) (by kernel_rfl) (fun _ _ _ h => h) (by rfl) ?_ hHeld ?_
          rotate_left
          · ((intro w hSw); (try dsimp only at hSw); go_simp <;> with_reducible rfl)
          simp only [Act.put, List.setIfInBounds_toArray, List.set_cons_zero, List.set_cons_succ]
          refine take_one 9 (by kernel_rfl) rfl (fun K hK => ?_)
          go_simp
          refine hK.out _ _ (by first | exact ⟨((hHeld.2.2.1.swap (o := .cells #[.slice none 0 0] 26) (by first | omega | (simp <;> omega)) (by first | omega | (simp <;> omega))).nth 3 rfl).at 0, ((hHeld.2.2.1.swap (o := .cells #[.slice none 0 0] 26) (by first | omega | (simp <;> omega)) (by first | omega | (simp <;> omega))).nth 2 rfl).six.1, (hHeld.2.2.1.swap (o := .cells #[.slice none 0 0] 26) (by first | omega | (simp <;> omega)) (by first | omega | (simp <;> omega))), ResN.swap (o := .cells #[.slice none 0 0] 26) (hHeld.2.2.2.1) (by first | omega | (simp <;> omega)), ResN.swap (o := .cells #[.slice none 0 0] 26) (hHeld.2.2.2.2) (by first | omega | (simp <;> omega))⟩ | exact ⟨((hHeld.2.2.1.set (by first | omega | (simp <;> omega)) (by first | omega | (simp <;> omega)) _).nth 3 rfl).at 0, ((hHeld.2.2.1.set (by first | omega | (simp <;> omega)) (by first | omega | (simp <;> omega)) _).nth 2 rfl).six.1, (hHeld.2.2.1.set (by first | omega | (simp <;> omega)) (by first | omega | (simp <;> omega)) _), (hHeld.2.2.2.1).set (.inr (by first | omega | (simp <;> omega))) _, (hHeld.2.2.2.2).set (.inr (by first | omega | (simp <;> omega))) _⟩) (fun hHeld => ?_)
          clear hK K
          refine take_run 10 (some 16) (v := ?_) rfl rfl (by kernel_rfl) (by kernel_rfl) (by kernel_rfl) (fun _ _ _ h => h) (by rfl) ?_ hHeld ?_
          rotate_left
          · ((intro w hSw); (try dsimp only at hSw); go_simp <;> with_reducible rfl)
          simp only [Act.put, List.setIfInBounds_toArray, List.set_cons_zero, List.set_cons_succ]
          refine wpAnyH_done (by kernel_rfl) ?_ _
          refine NoPanic.normal ?_
          go_wp2_with fail
          go_meet
          first | exact ⟨_, A5, cap5, _, _, us5, rfl, rfl, Blk.made _ _ _, HL5.out, hR5.alloc _, hHeld.2.2.1, hHeld.2.2.2.1, hHeld.2.2.2.2, (by first | omega | (simp <;> omega)), (by first | omega | (simp <;> omega)), (by first | omega | (simp <;> omega)), (by first | exact .inr (by first | omega | (simp <;> omega)) | exact .inl (by first | omega | (simp <;> omega)))⟩ | exact ⟨_, A5, cap5, _, _, us5, rfl, rfl, hx.put 0 _, HL5.out, hR5.set (by first | exact .inl (by first | omega | (simp <;> omega)) | exact .inr (by first | omega | (simp <;> omega))) _, hHeld.2.2.1, hHeld.2.2.2.1, hHeld.2.2.2.2, (by first | omega | (simp <;> omega)), (by first | omega | (simp <;> omega)), (by first | omega | (simp [World.setCell] <;> omega)), (by first | exact .inl (by first | omega | (simp <;> omega)) | exact .inr (by first | omega | (simp <;> omega)))⟩
      case rest =>
      obtain ⟨p1, A14, cap14, B14, U14, us14, rfl, rfl, hBq, HL14', P14, I14, R12, Q10, hp1, hb1, hu1, hx1⟩ := hcut
      have HL14 := hide HL14'
      have I15 := I14.add (by omega) hBq
      have k9 := (I15.nth 0 rfl).one.1
      have k10 := (I15.nth 2 rfl).one.1
      clear I13 R11 Q9 I14 hBq HL14'
      go_wp2_with fail
      with_reducible refine (eqChain_fine _ _ _ _ A14 A0 cap14 cap0 rs us14 us0 _ FN.out HL14.out HL0.out P14 R12).mono ?_
      rintro e wq ⟨rfl, hbq⟩
      have I16 := (I15.on hbq).top
      have Q11 := Q10.on hbq
      clear I15 R12 Q10 P14 hbq k9 k10
      have k9 := (I16.nth 1 rfl).one.1
      go_wp2_with fail
      with_reducible refine (heldChain_fine W8.heap.size w9.heap.size A9 cap9 rs us9 wq FN.out HN9.out Q11).mono ?_
      rintro e wr ⟨rfl, hbr⟩
      have I17 := I16.on hbr
      clear I16 Q11 k9 hbr
      go_wp2
      go_ret
      exact ⟨rfl, I17.below⟩
    · refine (szVer_not v.k v.t v.u v.a v.ts.length v.c v.s v.g _ _ (by omega) (by omega) hl1 hs1 (by omega)).mono ?_
      rintro e w2 ⟨rfl, hb2⟩
      have S2 := S1.on hb2
      clear S1 k1
      go_wp2
      go_ret
      exact ⟨rfl, S2.below⟩
  · go_enter Try.func5, Try.ntmps5
    go_wp2_with fail
    refine (szChain_not a c ns 1048576 _ (by omega) (by omega) hl HM.out (by omega) ((hv.on S0.below).up S0.base)).mono ?_
    rintro e w1 ⟨rfl, hb1⟩
    have S1 := S0.on hb1
    clear S0
    go_wp2
    go_ret
    exact ⟨rfl, S1.below⟩
theorem walk (a : Option Addr) (c : Nat) (ns : List Nd) (k t u : Int) (a1 : Option Addr) (c1 : Nat) (ts : List (Int × Int)) (s : ByteArray) (g : Bool) (w : World) (hv : Ng w w.heap.size a ns) (hl : ns.length ≤ 9223372036854775807) (hm0 : BigN ns) (ht : Tg w w.heap.size a1 ts) (hl1 : ts.length ≤ 9223372036854775807) (hs0 : s.size ≤ maxLen) :
    Calls Try.prog 5 #[.agg #[.slice a ns.length c], .agg (verC k t u a1 ts.length c1 s g)] w fun e w' => e = .returned (.bool true) ∧ Below w.heap.size w w' :=
  walk0 a c ns ⟨k, t, u, a1, c1, ts, s, g⟩ w hv hl hm0 ht hl1 (by unfold maxLen at hs0; simp only; omega)

set_option maxRecDepth 100000 in
theorem lifted (os : Os) (started : os.Started) (H : Type) (enc : TypeId × Value → H) :
    ReturnsInHanded {} Try.checked os 5 .any (Rows.fnExactChainPutSpec.pre6 enc Try.prog Try.f5 Rows.fnExactChainPutRow.domain false) (Rows.fnExactChainPutSpec.post enc Try.prog Try.f5 false true false false) := by
  refine returnsInHanded_of_change (C := Try.checked) own started (by kernel_rfl) Try.func5
    (ChangeSpec.witness6 (enc := enc) (C := Try.checked) false ⟨#[], #[.agg #[.slice none 0 0], .agg #[.int .i64 0, .int .i64 0, .int .i64 0, .slice none 0 0, .string ByteArray.empty, .bool false]], []⟩ 8 (by kernel_rfl) (by kernel_rfl) (by kernel_rfl) (by kernel_rfl)) ?_
  intro W base args ds gs before hval0 hW hcnd _
  have hval : ∀ (j : Nat) t v, Try.f5.params[j]? = some t → args[j]? = some v → Value.okWide Try.prog W .any base t v := hval0
  have hW' := hW
  obtain ⟨p, q, hA0, hV, rfl, hfz, hnd⟩ := hW
  have hA : DataW.TrodAll enc Try.prog W 0 (fun _ => true) true Try.f5.params.toList args.toList ds p := hA0
  rw [Try.params5] at hA hval
  have hK := hA
  obtain ⟨v0, vs0, d0, ds0, p0, q0, hargs, rfl, rfl, h0, r0⟩ := trodAll_cons hA
  obtain ⟨v1, vs1, d1, ds1, p1, q1, rfl, rfl, rfl, h1, r1⟩ := trodAll_cons r0
  obtain ⟨rfl, rfl, rfl⟩ := trodAll_nil r1
  obtain rfl : args = #[v0, v1] := by cases args; simp_all
  obtain ⟨rfl, rfl⟩ := trodVars_none hV
  obtain ⟨a0, cap0, z0, rfl, b0⟩ := read_chain (hval 0 39 v0 rfl rfl) h0
  obtain ⟨k1, t1, u1, a1, cap1, z1, s1, g1, rfl, b1⟩ := read_ver (hval 1 49 v1 rfl rfl) h1
  clear hA0 hval0
  refine (walk a0 cap0 z0 k1 t1 u1 a1 cap1 z1 s1 g1 W b0.1 b0.2.1 b0.2.2 b1.1 b1.2.1 b1.2.2).mono fun e W' ⟨he, hb⟩ => ?_
  subst he
  have hK' := stay_all hb (by intro t ht; simp only [List.mem_cons, List.not_mem_nil, or_false] at ht; rcases ht with rfl | rfl <;> exact ⟨by kernel_rfl, of_decide_eq_true (by kernel_rfl)⟩) hK
  exact ⟨_, rfl, _, _, _, [], _, [], hW', trodAll_mk1 (shut_bool Try.underlying4 _), hK', rfl, hb.frame _, fun h => by cases h⟩

theorem over : Rows.fnExactChainPutRow.holds Try.pinned (OpenSpec.ofChange Rows.fnExactChainPutSpec) :=
  OpenClaim.holds_of_wide 5 Try.f5 rfl rfl rfl rfl rfl rfl rfl ⟨rfl, rfl, rfl, rfl, rfl⟩ rfl rfl rfl rfl rfl (by kernel_rfl) Try.func5
    (by refine joined_of ?_; kernel_rfl) (of_decide_eq_true (by kernel_rfl)) (by unfold Func.isWrapper; first | (rw [if_pos (by decide +kernel)]; kernel_rfl) | (rw [if_neg (by decide +kernel)]; exact ⟨rfl, rfl⟩))
    (fun os started H enc _ => lifted os started H enc)
end Go.Proofs.Ytpelibkdphgpjaa.LawChainPut
namespace Go.Proofs.Ytpelibkdphgpjaa
/-- The statement itself. -/
theorem fnExactChainPut_holds : Rows.FnExactChainPutSaid := LawChainPut.over
#print axioms fnExactChainPut_holds
end Go.Proofs.Ytpelibkdphgpjaa
namespace Go.Proofs.Ytpelibkdphgpjaa.LawChainPut
end Go.Proofs.Ytpelibkdphgpjaa.LawChainPut
