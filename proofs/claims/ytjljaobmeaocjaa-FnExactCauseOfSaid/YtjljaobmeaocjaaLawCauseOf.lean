/- The law FnExactCauseOf holds: for every list of records and every tag the program's CauseOf answers as the model's, leaves its argument as it was, and answers in memory of its own. No condition. -/
import Derived.Test.YtjljaobmeaocjaaLiftT
import Derived.Test.YtjljaobmeaocjaaDoneMark
import Derived.Test.YtjljaobmeaocjaaCauseSpec
import Derived.Test.YtjljaobmeaocjaaReg
import Derived.Deep.DeepCutAuto
namespace Go.Proofs.Ytjljaobmeaocjaa.LawCauseOf
open Go.ChangeShapes Go.WideShapes Go.ChangeAt Go.RowKit Go.Joins
attribute [local go_sem ↓] Go.wp_at_zero Go.wp_at_succ

set_option maxRecDepth 100000 in
set_option maxHeartbeats 8000000 in
theorem walk (a : Option Addr) (c : Nat) (ds : List D) (t u : Int) (w : World) (hd : Dg w w.heap.size a ds) (hl : ds.length ≤ 9223372036854775807) (ht : inT t u = true) :
    Calls Try.prog 11 #[.slice a ds.length c, .agg #[.int .i64 t, .int .i64 u]] w fun e w' => e = .returned (.bool true) ∧ Below w.heap.size w w' := by
  have S0 := (Inv.start w).box 40 #[.int .i64 t, .int .i64 u]
  simp only [World.size_alloc] at S0
  by_cases hn : ds.length ≤ 1048576
  · have hp : ¬ ((1048576 : Int) - (ds.length : Int) < 0) := by omega
    have hrl := causeO_len ds t u
    have HTT := hide ht
    clear ht
    go_enter Try.func11, Try.ntmps11
    go_wp2_with fail
    generalize w.alloc (.cells #[.int .i64 t, .int .i64 u] 40) = W0 at S0 ⊢
    refine (szDoneS_fits a ds.length c 1048576 _ (by omega) (by omega)).mono ?_
    rintro e w1 ⟨rfl, rfl⟩
    go_wp2_with fail
    go_upto_region 5 with (fail)
    go_cut [6, 7] (fun s s2 wx => ∃ (p : Nat) (A : Option Addr) (cap B U : Nat), s = .pointer (some ⟨p, 0, none⟩) ∧ s2 = .bool (causeO ds t u).isSome ∧ Blk wx p 35 #[.slice A ((causeO ds t u).getD []).length cap] ∧ Res wx B U A ((causeO ds t u).getD []) ∧ Inv w (w.heap.size + 1) [(w.heap.size, 40, #[.int .i64 t, .int .i64 u])] wx ∧ (w.heap.size + 1) ≤ p ∧ (w.heap.size + 1) ≤ B ∧ U ≤ wx.heap.size ∧ (p < B ∨ U ≤ p))
    case first =>
      refine wp_region_noPanic ?_
      refine wp_region_held_drew (S := (fun w' => w'.cell? ⟨w.heap.size, 0, none⟩ = some (.int .i64 t) ∧ w'.cell? ⟨w.heap.size, 1, none⟩ = some (.int .i64 u) ∧ Inv w (w.heap.size + 1) [(w.heap.size, 40, #[.int .i64 t, .int .i64 u])] w')) (by kernel_rfl) (by exact ⟨(S0.drew.nth 0 rfl).at 0, (S0.drew.nth 0 rfl).at 1, S0.drew⟩) (fun hHeld => ?_)
      refine take_run 0 (some 22) (v := ?_) rfl rfl (by kernel_rfl) (by kernel_rfl) (by kernel_rfl) (fun _ _ _ h => h) (by rfl) ?_ hHeld ?_
      rotate_left
      · ((intro w hSw); (try dsimp only at hSw); go_simp <;> with_reducible rfl)
      simp only [Act.put, List.setIfInBounds_toArray, List.set_cons_zero, List.set_cons_succ]
      refine take_run 2 (some 24) (v := ?_) rfl rfl (by kernel_rfl) (by kernel_rfl) (by kernel_rfl) (fun _ _ _ h => h) (by rfl) ?_ hHeld ?_
      rotate_left
      · ((intro w hSw); (try dsimp only at hSw); go_simp <;> with_reducible rfl)
      simp only [Act.put, List.setIfInBounds_toArray, List.set_cons_zero, List.set_cons_succ]
      refine wpAnyH_ready (rs := [1, 8]) (by kernel_rfl) (by simp) ?_
      refine AllReadyH.cons rfl (fun K hK => ?_) (AllReadyH.cons rfl (fun K hK => ?_) AllReadyH.nil)
      · skip
        go_simp
        (have hr := hHeld.2.2.room; (try simp at hr); refine (toDoneS_any a c ds _ hn ((hd.on hHeld.2.2.below).up hHeld.2.2.base)).mono ?_; rintro e w3 ⟨g3, cur3, rfl, hg3, hB3, hsz3, hcur3, hb⟩; have HC3 := hide hcur3; clear hcur3; have hz := hb.size; (try simp at hz); (first | (with_reducible have hx := Blk.on (Blk.drew (Blk.made _ _ #[.slice none 0 0])) hb) | (with_reducible have hx := Blk.on (Blk.made _ _ #[.slice none 0 0]) hb) | (with_reducible have hx := Blk.on (cs := #[.slice none 0 0]) (by assumption) hb) | skip); (try have kx := hx.one))
        try go_wp2_with fail
        refine hK.out _ _ (by exact ⟨((hHeld.2.2.on hb).nth 0 rfl).at 0, ((hHeld.2.2.on hb).nth 0 rfl).at 1, (hHeld.2.2.on hb)⟩) (fun hHeld => ?_)
        clear hK K
        refine wpAnyH_ready (rs := [3, 8]) (by kernel_rfl) (by simp) ?_
        refine AllReadyH.cons rfl (fun K hK => ?_) (AllReadyH.cons rfl (fun K hK => ?_) AllReadyH.nil)
        · skip
          go_simp
          (have hr := hHeld.2.2.room; (try simp at hr); refine (toTag_any t u _).mono ?_; rintro e w4 ⟨rfl, hb⟩; (first | have hB3' := hB3.on hb | have hB3' := (hB3.more _).on hb); have hz := hb.size; (try simp at hz); (first | (with_reducible have hx := Blk.on (Blk.drew (Blk.made _ _ #[.slice none 0 0])) hb) | (with_reducible have hx := Blk.on (Blk.made _ _ #[.slice none 0 0]) hb) | (with_reducible have hx := Blk.on (cs := #[.slice none 0 0]) (by assumption) hb) | skip); (try have kx := hx.one))
          try go_wp2_with fail
          refine hK.out _ _ (by exact ⟨((hHeld.2.2.on hb).nth 0 rfl).at 0, ((hHeld.2.2.on hb).nth 0 rfl).at 1, (hHeld.2.2.on hb)⟩) (fun hHeld => ?_)
          clear hK K
          refine wpAnyH_ready (rs := [4, 8]) (by kernel_rfl) (by simp) ?_
          refine AllReadyH.cons rfl (fun K hK => ?_) (AllReadyH.cons rfl (fun K hK => ?_) AllReadyH.nil)
          · skip
            go_simp
            (have hr := hHeld.2.2.room; (try simp at hr); refine (specCauseOf_any _ _ ds t u _ hn (Nat.le_refl _) ?_).mono ?_; (first | exact Dg.of hB3' hB3'.inside HC3.out | exact Dg.of (hB3'.more _) (hB3'.more _).inside HC3.out); rintro e w5 ⟨A5, cap5, rfl, hR5, hb⟩; have hz := hb.size; (try simp at hz); (first | (with_reducible have hx := Blk.on (Blk.drew (Blk.made _ _ #[.slice none 0 0])) hb) | (with_reducible have hx := Blk.on (Blk.made _ _ #[.slice none 0 0]) hb) | (with_reducible have hx := Blk.on (cs := #[.slice none 0 0]) (by assumption) hb) | skip); (try have kx := hx.one))
            try go_wp2_with fail
            refine hK.out _ _ (by exact ⟨((hHeld.2.2.on hb).nth 0 rfl).at 0, ((hHeld.2.2.on hb).nth 0 rfl).at 1, (hHeld.2.2.on hb)⟩) (fun hHeld => ?_)
            clear hK K
            refine take_run 5 (some 21) (v := ?_) rfl rfl (by kernel_rfl) (by kernel_rfl) (by kernel_rfl) (fun _ _ _ h => h) (by rfl) ?_ hHeld ?_
            rotate_left
            · ((intro w hSw); (try dsimp only at hSw); go_simp <;> with_reducible rfl)
            simp only [Act.put, List.setIfInBounds_toArray, List.set_cons_zero, List.set_cons_succ]
            refine take_run 6 (some 27) (v := ?_) rfl rfl (by kernel_rfl) (by kernel_rfl) (by kernel_rfl) (fun _ _ _ h => h) (by rfl) ?_ hHeld ?_
            rotate_left
            · ((intro w hSw); (try dsimp only at hSw); go_simp <;> with_reducible rfl)
            simp only [Act.put, List.setIfInBounds_toArray, List.set_cons_zero, List.set_cons_succ]
            refine take_run 7 (some 28) (v := ?_) rfl rfl (by kernel_rfl) (by kernel_rfl) (by kernel_rfl) (fun _ _ _ h => h) (by rfl) ?_ hHeld ?_
            rotate_left
            · ((intro w hSw); (try dsimp only at hSw); go_simp <;> with_reducible rfl)
            simp only [Act.put, List.setIfInBounds_toArray, List.set_cons_zero, List.set_cons_succ]
            refine take_one 8 (by kernel_rfl) rfl (fun K hK => ?_)
            go_simp
            (have hr5 := hHeld.2.2.room; (try simp at hr5))
            try go_wp2_with fail
            refine hK.out _ _ (by exact ⟨((hHeld.2.2.alloc _).nth 0 rfl).at 0, ((hHeld.2.2.alloc _).nth 0 rfl).at 1, (hHeld.2.2.alloc _)⟩) (fun hHeld => ?_)
            clear hK K
            refine take_one 9 (by kernel_rfl) rfl (fun K hK => ?_)
            go_simp
            refine hK.out _ _ (by first | exact ⟨((hHeld.2.2.swap (o := .cells #[.slice none 0 0] 35) (by first | omega | (simp <;> omega)) (by first | omega | (simp <;> omega))).nth 0 rfl).at 0, ((hHeld.2.2.swap (o := .cells #[.slice none 0 0] 35) (by first | omega | (simp <;> omega)) (by first | omega | (simp <;> omega))).nth 0 rfl).at 1, (hHeld.2.2.swap (o := .cells #[.slice none 0 0] 35) (by first | omega | (simp <;> omega)) (by first | omega | (simp <;> omega)))⟩ | exact ⟨((hHeld.2.2.set (by first | omega | (simp <;> omega)) (by first | omega | (simp <;> omega)) _).nth 0 rfl).at 0, ((hHeld.2.2.set (by first | omega | (simp <;> omega)) (by first | omega | (simp <;> omega)) _).nth 0 rfl).at 1, (hHeld.2.2.set (by first | omega | (simp <;> omega)) (by first | omega | (simp <;> omega)) _)⟩) (fun hHeld => ?_)
            clear hK K
            refine take_run 10 (some 7) (v := ?_) rfl rfl (by kernel_rfl) (by kernel_rfl) (by kernel_rfl) (fun _ _ _ h => h) (by rfl) ?_ hHeld ?_
            rotate_left
            · ((intro w hSw); (try dsimp only at hSw); go_simp <;> with_reducible rfl)
            simp only [Act.put, List.setIfInBounds_toArray, List.set_cons_zero, List.set_cons_succ]
            refine wpAnyH_done (by kernel_rfl) ?_ _
            refine NoPanic.normal ?_
            go_wp2_with fail
            go_meet
            first | exact ⟨_, A5, cap5, _, _, rfl, rfl, Blk.made _ _ _, hR5.alloc _, hHeld.2.2, (by first | omega | (simp <;> omega)), (by first | omega | (simp <;> omega)), (by first | omega | (simp <;> omega)), (by first | exact .inr (by first | omega | (simp <;> omega)) | exact .inl (by first | omega | (simp <;> omega)))⟩ | exact ⟨_, A5, cap5, _, _, rfl, rfl, hx.put 0 _, hR5.set (by first | exact .inl (by first | omega | (simp <;> omega)) | exact .inr (by first | omega | (simp <;> omega))) _, hHeld.2.2, (by first | omega | (simp <;> omega)), (by first | omega | (simp <;> omega)), (by first | omega | (simp [World.setCell] <;> omega)), (by first | exact .inl (by first | omega | (simp <;> omega)) | exact .inr (by first | omega | (simp <;> omega)))⟩
          · skip
            go_simp
            (have hr5 := hHeld.2.2.room; (try simp at hr5))
            try go_wp2_with fail
            refine hK.out _ _ (by exact ⟨((hHeld.2.2.alloc _).nth 0 rfl).at 0, ((hHeld.2.2.alloc _).nth 0 rfl).at 1, (hHeld.2.2.alloc _)⟩) (fun hHeld => ?_)
            clear hK K
            refine take_one 4 (by kernel_rfl) rfl (fun K hK => ?_)
            go_simp
            (have hr := hHeld.2.2.room; (try simp at hr); refine (specCauseOf_any _ _ ds t u _ hn (Nat.le_refl _) ?_).mono ?_; (first | exact Dg.of hB3' hB3'.inside HC3.out | exact Dg.of (hB3'.more _) (hB3'.more _).inside HC3.out); rintro e w5 ⟨A5, cap5, rfl, hR5, hb⟩; have hz := hb.size; (try simp at hz); (first | (with_reducible have hx := Blk.on (Blk.drew (Blk.made _ _ #[.slice none 0 0])) hb) | (with_reducible have hx := Blk.on (Blk.made _ _ #[.slice none 0 0]) hb) | (with_reducible have hx := Blk.on (cs := #[.slice none 0 0]) (by assumption) hb) | skip); (try have kx := hx.one))
            try go_wp2_with fail
            refine hK.out _ _ (by exact ⟨((hHeld.2.2.on hb).nth 0 rfl).at 0, ((hHeld.2.2.on hb).nth 0 rfl).at 1, (hHeld.2.2.on hb)⟩) (fun hHeld => ?_)
            clear hK K
            refine take_run 5 (some 21) (v := ?_) rfl rfl (by kernel_rfl) (by kernel_rfl) (by kernel_rfl) (fun _ _ _ h => h) (by rfl) ?_ hHeld ?_
            rotate_left
            · ((intro w hSw); (try dsimp only at hSw); go_simp <;> with_reducible rfl)
            simp only [Act.put, List.setIfInBounds_toArray, List.set_cons_zero, List.set_cons_succ]
            refine take_run 6 (some 27) (v := ?_) rfl rfl (by kernel_rfl) (by kernel_rfl) (by kernel_rfl) (fun _ _ _ h => h) (by rfl) ?_ hHeld ?_
            rotate_left
            · ((intro w hSw); (try dsimp only at hSw); go_simp <;> with_reducible rfl)
            simp only [Act.put, List.setIfInBounds_toArray, List.set_cons_zero, List.set_cons_succ]
            refine take_run 7 (some 28) (v := ?_) rfl rfl (by kernel_rfl) (by kernel_rfl) (by kernel_rfl) (fun _ _ _ h => h) (by rfl) ?_ hHeld ?_
            rotate_left
            · ((intro w hSw); (try dsimp only at hSw); go_simp <;> with_reducible rfl)
            simp only [Act.put, List.setIfInBounds_toArray, List.set_cons_zero, List.set_cons_succ]
            refine take_one 9 (by kernel_rfl) rfl (fun K hK => ?_)
            go_simp
            refine hK.out _ _ (by first | exact ⟨((hHeld.2.2.swap (o := .cells #[.slice none 0 0] 35) (by first | omega | (simp <;> omega)) (by first | omega | (simp <;> omega))).nth 0 rfl).at 0, ((hHeld.2.2.swap (o := .cells #[.slice none 0 0] 35) (by first | omega | (simp <;> omega)) (by first | omega | (simp <;> omega))).nth 0 rfl).at 1, (hHeld.2.2.swap (o := .cells #[.slice none 0 0] 35) (by first | omega | (simp <;> omega)) (by first | omega | (simp <;> omega)))⟩ | exact ⟨((hHeld.2.2.set (by first | omega | (simp <;> omega)) (by first | omega | (simp <;> omega)) _).nth 0 rfl).at 0, ((hHeld.2.2.set (by first | omega | (simp <;> omega)) (by first | omega | (simp <;> omega)) _).nth 0 rfl).at 1, (hHeld.2.2.set (by first | omega | (simp <;> omega)) (by first | omega | (simp <;> omega)) _)⟩) (fun hHeld => ?_)
            clear hK K
            refine take_run 10 (some 7) (v := ?_) rfl rfl (by kernel_rfl) (by kernel_rfl) (by kernel_rfl) (fun _ _ _ h => h) (by rfl) ?_ hHeld ?_
            rotate_left
            · ((intro w hSw); (try dsimp only at hSw); go_simp <;> with_reducible rfl)
            simp only [Act.put, List.setIfInBounds_toArray, List.set_cons_zero, List.set_cons_succ]
            refine wpAnyH_done (by kernel_rfl) ?_ _
            refine NoPanic.normal ?_
            go_wp2_with fail
            go_meet
            first | exact ⟨_, A5, cap5, _, _, rfl, rfl, Blk.made _ _ _, hR5.alloc _, hHeld.2.2, (by first | omega | (simp <;> omega)), (by first | omega | (simp <;> omega)), (by first | omega | (simp <;> omega)), (by first | exact .inr (by first | omega | (simp <;> omega)) | exact .inl (by first | omega | (simp <;> omega)))⟩ | exact ⟨_, A5, cap5, _, _, rfl, rfl, hx.put 0 _, hR5.set (by first | exact .inl (by first | omega | (simp <;> omega)) | exact .inr (by first | omega | (simp <;> omega))) _, hHeld.2.2, (by first | omega | (simp <;> omega)), (by first | omega | (simp <;> omega)), (by first | omega | (simp [World.setCell] <;> omega)), (by first | exact .inl (by first | omega | (simp <;> omega)) | exact .inr (by first | omega | (simp <;> omega)))⟩
        · skip
          go_simp
          (have hr5 := hHeld.2.2.room; (try simp at hr5))
          try go_wp2_with fail
          refine hK.out _ _ (by exact ⟨((hHeld.2.2.alloc _).nth 0 rfl).at 0, ((hHeld.2.2.alloc _).nth 0 rfl).at 1, (hHeld.2.2.alloc _)⟩) (fun hHeld => ?_)
          clear hK K
          refine take_one 3 (by kernel_rfl) rfl (fun K hK => ?_)
          go_simp
          (have hr := hHeld.2.2.room; (try simp at hr); refine (toTag_any t u _).mono ?_; rintro e w4 ⟨rfl, hb⟩; (first | have hB3' := hB3.on hb | have hB3' := (hB3.more _).on hb); have hz := hb.size; (try simp at hz); (first | (with_reducible have hx := Blk.on (Blk.drew (Blk.made _ _ #[.slice none 0 0])) hb) | (with_reducible have hx := Blk.on (Blk.made _ _ #[.slice none 0 0]) hb) | (with_reducible have hx := Blk.on (cs := #[.slice none 0 0]) (by assumption) hb) | skip); (try have kx := hx.one))
          try go_wp2_with fail
          refine hK.out _ _ (by exact ⟨((hHeld.2.2.on hb).nth 0 rfl).at 0, ((hHeld.2.2.on hb).nth 0 rfl).at 1, (hHeld.2.2.on hb)⟩) (fun hHeld => ?_)
          clear hK K
          refine take_one 4 (by kernel_rfl) rfl (fun K hK => ?_)
          go_simp
          (have hr := hHeld.2.2.room; (try simp at hr); refine (specCauseOf_any _ _ ds t u _ hn (Nat.le_refl _) ?_).mono ?_; (first | exact Dg.of hB3' hB3'.inside HC3.out | exact Dg.of (hB3'.more _) (hB3'.more _).inside HC3.out); rintro e w5 ⟨A5, cap5, rfl, hR5, hb⟩; have hz := hb.size; (try simp at hz); (first | (with_reducible have hx := Blk.on (Blk.drew (Blk.made _ _ #[.slice none 0 0])) hb) | (with_reducible have hx := Blk.on (Blk.made _ _ #[.slice none 0 0]) hb) | (with_reducible have hx := Blk.on (cs := #[.slice none 0 0]) (by assumption) hb) | skip); (try have kx := hx.one))
          try go_wp2_with fail
          refine hK.out _ _ (by exact ⟨((hHeld.2.2.on hb).nth 0 rfl).at 0, ((hHeld.2.2.on hb).nth 0 rfl).at 1, (hHeld.2.2.on hb)⟩) (fun hHeld => ?_)
          clear hK K
          refine take_run 5 (some 21) (v := ?_) rfl rfl (by kernel_rfl) (by kernel_rfl) (by kernel_rfl) (fun _ _ _ h => h) (by rfl) ?_ hHeld ?_
          rotate_left
          · ((intro w hSw); (try dsimp only at hSw); go_simp <;> with_reducible rfl)
          simp only [Act.put, List.setIfInBounds_toArray, List.set_cons_zero, List.set_cons_succ]
          refine take_run 6 (some 27) (v := ?_) rfl rfl (by kernel_rfl) (by kernel_rfl) (by kernel_rfl) (fun _ _ _ h => h) (by rfl) ?_ hHeld ?_
          rotate_left
          · ((intro w hSw); (try dsimp only at hSw); go_simp <;> with_reducible rfl)
          simp only [Act.put, List.setIfInBounds_toArray, List.set_cons_zero, List.set_cons_succ]
          refine take_run 7 (some 28) (v := ?_) rfl rfl (by kernel_rfl) (by kernel_rfl) (by kernel_rfl) (fun _ _ _ h => h) (by rfl) ?_ hHeld ?_
          rotate_left
          · ((intro w hSw); (try dsimp only at hSw); go_simp <;> with_reducible rfl)
          simp only [Act.put, List.setIfInBounds_toArray, List.set_cons_zero, List.set_cons_succ]
          refine take_one 9 (by kernel_rfl) rfl (fun K hK => ?_)
          go_simp
          refine hK.out _ _ (by first | exact ⟨((hHeld.2.2.swap (o := .cells #[.slice none 0 0] 35) (by first | omega | (simp <;> omega)) (by first | omega | (simp <;> omega))).nth 0 rfl).at 0, ((hHeld.2.2.swap (o := .cells #[.slice none 0 0] 35) (by first | omega | (simp <;> omega)) (by first | omega | (simp <;> omega))).nth 0 rfl).at 1, (hHeld.2.2.swap (o := .cells #[.slice none 0 0] 35) (by first | omega | (simp <;> omega)) (by first | omega | (simp <;> omega)))⟩ | exact ⟨((hHeld.2.2.set (by first | omega | (simp <;> omega)) (by first | omega | (simp <;> omega)) _).nth 0 rfl).at 0, ((hHeld.2.2.set (by first | omega | (simp <;> omega)) (by first | omega | (simp <;> omega)) _).nth 0 rfl).at 1, (hHeld.2.2.set (by first | omega | (simp <;> omega)) (by first | omega | (simp <;> omega)) _)⟩) (fun hHeld => ?_)
          clear hK K
          refine take_run 10 (some 7) (v := ?_) rfl rfl (by kernel_rfl) (by kernel_rfl) (by kernel_rfl) (fun _ _ _ h => h) (by rfl) ?_ hHeld ?_
          rotate_left
          · ((intro w hSw); (try dsimp only at hSw); go_simp <;> with_reducible rfl)
          simp only [Act.put, List.setIfInBounds_toArray, List.set_cons_zero, List.set_cons_succ]
          refine wpAnyH_done (by kernel_rfl) ?_ _
          refine NoPanic.normal ?_
          go_wp2_with fail
          go_meet
          first | exact ⟨_, A5, cap5, _, _, rfl, rfl, Blk.made _ _ _, hR5.alloc _, hHeld.2.2, (by first | omega | (simp <;> omega)), (by first | omega | (simp <;> omega)), (by first | omega | (simp <;> omega)), (by first | exact .inr (by first | omega | (simp <;> omega)) | exact .inl (by first | omega | (simp <;> omega)))⟩ | exact ⟨_, A5, cap5, _, _, rfl, rfl, hx.put 0 _, hR5.set (by first | exact .inl (by first | omega | (simp <;> omega)) | exact .inr (by first | omega | (simp <;> omega))) _, hHeld.2.2, (by first | omega | (simp <;> omega)), (by first | omega | (simp <;> omega)), (by first | omega | (simp [World.setCell] <;> omega)), (by first | exact .inl (by first | omega | (simp <;> omega)) | exact .inr (by first | omega | (simp <;> omega)))⟩
      · skip
        go_simp
        (have hr5 := hHeld.2.2.room; (try simp at hr5))
        try go_wp2_with fail
        refine hK.out _ _ (by exact ⟨((hHeld.2.2.alloc _).nth 0 rfl).at 0, ((hHeld.2.2.alloc _).nth 0 rfl).at 1, (hHeld.2.2.alloc _)⟩) (fun hHeld => ?_)
        clear hK K
        refine take_one 1 (by kernel_rfl) rfl (fun K hK => ?_)
        go_simp
        (have hr := hHeld.2.2.room; (try simp at hr); refine (toDoneS_any a c ds _ hn ((hd.on hHeld.2.2.below).up hHeld.2.2.base)).mono ?_; rintro e w3 ⟨g3, cur3, rfl, hg3, hB3, hsz3, hcur3, hb⟩; have HC3 := hide hcur3; clear hcur3; have hz := hb.size; (try simp at hz); (first | (with_reducible have hx := Blk.on (Blk.drew (Blk.made _ _ #[.slice none 0 0])) hb) | (with_reducible have hx := Blk.on (Blk.made _ _ #[.slice none 0 0]) hb) | (with_reducible have hx := Blk.on (cs := #[.slice none 0 0]) (by assumption) hb) | skip); (try have kx := hx.one))
        try go_wp2_with fail
        refine hK.out _ _ (by exact ⟨((hHeld.2.2.on hb).nth 0 rfl).at 0, ((hHeld.2.2.on hb).nth 0 rfl).at 1, (hHeld.2.2.on hb)⟩) (fun hHeld => ?_)
        clear hK K
        refine take_one 3 (by kernel_rfl) rfl (fun K hK => ?_)
        go_simp
        (have hr := hHeld.2.2.room; (try simp at hr); refine (toTag_any t u _).mono ?_; rintro e w4 ⟨rfl, hb⟩; (first | have hB3' := hB3.on hb | have hB3' := (hB3.more _).on hb); have hz := hb.size; (try simp at hz); (first | (with_reducible have hx := Blk.on (Blk.drew (Blk.made _ _ #[.slice none 0 0])) hb) | (with_reducible have hx := Blk.on (Blk.made _ _ #[.slice none 0 0]) hb) | (with_reducible have hx := Blk.on (cs := #[.slice none 0 0]) (by assumption) hb) | skip); (try have kx := hx.one))
        try go_wp2_with fail
        refine hK.out _ _ (by exact ⟨((hHeld.2.2.on hb).nth 0 rfl).at 0, ((hHeld.2.2.on hb).nth 0 rfl).at 1, (hHeld.2.2.on hb)⟩) (fun hHeld => ?_)
        clear hK K
        refine take_one 4 (by kernel_rfl) rfl (fun K hK => ?_)
        go_simp
        (have hr := hHeld.2.2.room; (try simp at hr); refine (specCauseOf_any _ _ ds t u _ hn (Nat.le_refl _) ?_).mono ?_; (first | exact Dg.of hB3' hB3'.inside HC3.out | exact Dg.of (hB3'.more _) (hB3'.more _).inside HC3.out); rintro e w5 ⟨A5, cap5, rfl, hR5, hb⟩; have hz := hb.size; (try simp at hz); (first | (with_reducible have hx := Blk.on (Blk.drew (Blk.made _ _ #[.slice none 0 0])) hb) | (with_reducible have hx := Blk.on (Blk.made _ _ #[.slice none 0 0]) hb) | (with_reducible have hx := Blk.on (cs := #[.slice none 0 0]) (by assumption) hb) | skip); (try have kx := hx.one))
        try go_wp2_with fail
        refine hK.out _ _ (by exact ⟨((hHeld.2.2.on hb).nth 0 rfl).at 0, ((hHeld.2.2.on hb).nth 0 rfl).at 1, (hHeld.2.2.on hb)⟩) (fun hHeld => ?_)
        clear hK K
        refine take_run 5 (some 21) (v := ?_) rfl rfl (by kernel_rfl) (by kernel_rfl) (by kernel_rfl) (fun _ _ _ h => h) (by rfl) ?_ hHeld ?_
        rotate_left
        · ((intro w hSw); (try dsimp only at hSw); go_simp <;> with_reducible rfl)
        simp only [Act.put, List.setIfInBounds_toArray, List.set_cons_zero, List.set_cons_succ]
        refine take_run 6 (some 27) (v := ?_) rfl rfl (by kernel_rfl) (by kernel_rfl) (by kernel_rfl) (fun _ _ _ h => h) (by rfl) ?_ hHeld ?_
        rotate_left
        · ((intro w hSw); (try dsimp only at hSw); go_simp <;> with_reducible rfl)
        simp only [Act.put, List.setIfInBounds_toArray, List.set_cons_zero, List.set_cons_succ]
        refine take_run 7 (some 28) (v := ?_) rfl rfl (by kernel_rfl) (by kernel_rfl) (by kernel_rfl) (fun _ _ _ h => h) (by rfl) ?_ hHeld ?_
        rotate_left
        · ((intro w hSw); (try dsimp only at hSw); go_simp <;> with_reducible rfl)
        simp only [Act.put, List.setIfInBounds_toArray, List.set_cons_zero, List.set_cons_succ]
        refine take_one 9 (by kernel_rfl) rfl (fun K hK => ?_)
        go_simp
        refine hK.out _ _ (by first | exact ⟨((hHeld.2.2.swap (o := .cells #[.slice none 0 0] 35) (by first | omega | (simp <;> omega)) (by first | omega | (simp <;> omega))).nth 0 rfl).at 0, ((hHeld.2.2.swap (o := .cells #[.slice none 0 0] 35) (by first | omega | (simp <;> omega)) (by first | omega | (simp <;> omega))).nth 0 rfl).at 1, (hHeld.2.2.swap (o := .cells #[.slice none 0 0] 35) (by first | omega | (simp <;> omega)) (by first | omega | (simp <;> omega)))⟩ | exact ⟨((hHeld.2.2.set (by first | omega | (simp <;> omega)) (by first | omega | (simp <;> omega)) _).nth 0 rfl).at 0, ((hHeld.2.2.set (by first | omega | (simp <;> omega)) (by first | omega | (simp <;> omega)) _).nth 0 rfl).at 1, (hHeld.2.2.set (by first | omega | (simp <;> omega)) (by first | omega | (simp <;> omega)) _)⟩) (fun hHeld => ?_)
        clear hK K
        refine take_run 10 (some 7) (v := ?_) rfl rfl (by kernel_rfl) (by kernel_rfl) (by kernel_rfl) (fun _ _ _ h => h) (by rfl) ?_ hHeld ?_
        rotate_left
        · ((intro w hSw); (try dsimp only at hSw); go_simp <;> with_reducible rfl)
        simp only [Act.put, List.setIfInBounds_toArray, List.set_cons_zero, List.set_cons_succ]
        refine wpAnyH_done (by kernel_rfl) ?_ _
        refine NoPanic.normal ?_
        go_wp2_with fail
        go_meet
        first | exact ⟨_, A5, cap5, _, _, rfl, rfl, Blk.made _ _ _, hR5.alloc _, hHeld.2.2, (by first | omega | (simp <;> omega)), (by first | omega | (simp <;> omega)), (by first | omega | (simp <;> omega)), (by first | exact .inr (by first | omega | (simp <;> omega)) | exact .inl (by first | omega | (simp <;> omega)))⟩ | exact ⟨_, A5, cap5, _, _, rfl, rfl, hx.put 0 _, hR5.set (by first | exact .inl (by first | omega | (simp <;> omega)) | exact .inr (by first | omega | (simp <;> omega))) _, hHeld.2.2, (by first | omega | (simp <;> omega)), (by first | omega | (simp <;> omega)), (by first | omega | (simp [World.setCell] <;> omega)), (by first | exact .inl (by first | omega | (simp <;> omega)) | exact .inr (by first | omega | (simp <;> omega)))⟩
    case rest =>
    obtain ⟨p0, A3, cap3, B3, U3, rfl, rfl, hBp, R4, S1, hp0, hb0, hu0, hx0⟩ := hcut
    have I1 := S1.add (by omega) hBp
    have hi0 := hBp.inside
    clear S0 S1 hBp
    go_wp2_with fail
    refine (toDoneS_any a c ds _ hn ((hd.on I1.below).up I1.base)).mono ?_
    rintro e w4 ⟨g4, cur4, rfl, hg4, hB4, hsz4, hcur4, hb4⟩
    have z4' := hb4.size
    have I2 := (I1.on hb4).add (by have := I1.base; omega) hB4
    have R5 := R4.on hb4
    have in4 := hB4.inside
    have HC4 := hide hcur4
    have k2 := (I2.nth 2 rfl).two
    clear hcur4 hb4 I1 R4 hB4
    go_wp2_with fail
    refine (toTag_any t u w4).mono ?_
    rintro e w4b ⟨rfl, hb4b⟩
    have z4b := hb4b.size
    have I2b := (I2.on hb4b).top
    have R5b := R5.on hb4b
    clear I2 R5 k2 hb4b
    go_wp2_with fail
    refine (implCauseOf_any _ _ ds t u w4b hn HTT.out (Dg.of (I2b.nth 0 rfl) (I2b.nth 0 rfl).inside HC4.out)).mono ?_
    rintro e w5 ⟨A5, cap5, rfl, Q5, hb5⟩
    have z5 := hb5.size
    have I3 := ((I2b.on hb5).top).box 35 #[.slice A5 ((causeO ds t u).getD []).length cap5]
    have R6 := (R5b.on hb5).alloc (.cells #[.slice A5 ((causeO ds t u).getD []).length cap5] 35)
    have Q6 := Q5.alloc (.cells #[.slice A5 ((causeO ds t u).getD []).length cap5] 35)
    have k3 := (I3.nth 2 rfl).one.1
    clear I2b R5b Q5 hb5
    go_wp2_with fail
    generalize hW5 : w5.alloc (.cells #[.slice A5 ((causeO ds t u).getD []).length cap5] 35) = W5 at I3 R6 Q6 k3 ⊢
    have zW5 : w5.heap.size < W5.heap.size := by rw [← hW5]; simp
    clear hW5
    refine (eqPast_any _ _ _ _ ((causeO ds t u).getD []) ((causeO ds t u).getD []) W5 (by omega) (by omega) Q6.tg R6.tg).mono ?_
    rintro e w6 ⟨rfl, hb6⟩
    rw [decide_eq_true rfl]
    have z6 := hb6.size
    have I4 := (I3.on hb6).top
    have R7 := R6.on hb6
    have Q7 := Q6.on hb6
    have hbn : ((causeO ds t u).isSome != (causeO ds t u).isSome) = false := by simp
    clear I3 R6 Q6 k3 hb6
    go_wp2_with fail
    refine (toDoneS_any a c ds _ hn ((hd.on I4.below).up I4.base)).mono ?_
    rintro e w7 ⟨g7, cur7, rfl, hg7, hB7, hsz7, hcur7, hb7⟩
    have T7 : Dg w7 w7.heap.size (some ⟨g7, 0, none⟩) ds := Dg.of hB7 hB7.inside hcur7
    have z7 := hb7.size
    have I5 := (I4.on hb7).top
    have R8 := R7.on hb7
    have Q8 := Q7.on hb7
    clear I4 R7 Q7 hb7 hcur7 hB7
    go_wp2_with fail
    refine (eqDoneS_same _ _ _ _ ds _ hn (Dg.of (I5.nth 1 rfl) (I5.nth 1 rfl).inside HC4.out) T7).mono ?_
    rintro e w8 ⟨rfl, hb8⟩
    have z8 := hb8.size
    have I6 := (I5.on hb8).top
    have R9 := R8.on hb8
    have Q9 := Q8.on hb8
    clear I5 R8 Q8 hb8 T7
    go_wp2_with fail
    refine (markDoneS_any g4 _ ds.length _ cur4 1 _ (I6.nth 1 rfl) (by omega) hn (by omega) (by omega)).mono ?_
    rintro e w9 ⟨rfl, -, hG9⟩
    have R10 := R9.keep hG9 (fun g e => by injection e with e; omega)
    have Q10 := Q9.keep hG9 (fun g e => by injection e with e; omega)
    have I7 : Inv w w8.heap.size [(w5.heap.size, 35, #[.slice A5 ((causeO ds t u).getD []).length cap5]), (p0, 35, #[.slice A3 ((causeO ds t u).getD []).length cap3]), (w.heap.size, 40, #[.int .i64 t, .int .i64 u])] w9 := (I6.sub (bs' := [(w5.heap.size, 35, #[.slice A5 ((causeO ds t u).getD []).length cap5]), (p0, 35, #[.slice A3 ((causeO ds t u).getD []).length cap3]), (w.heap.size, 40, #[.int .i64 t, .int .i64 u])]) (fun x hx => by
      simp only [List.mem_cons, List.not_mem_nil, or_false] at hx ⊢
      rcases hx with rfl | rfl | rfl <;> simp)).part hG9 (fun g e => by injection e with e; have := I6.base; omega) (fun x hx g e => by
      simp only [List.mem_cons, List.not_mem_nil, or_false] at hx
      injection e with e
      rcases hx with rfl | rfl | rfl <;> simp only <;> omega)
    have z9 := hG9.size
    have hp9 : ¬ ((1 : Int) + 5 * (ds.length : Int) < 0) := by omega
    have k7 := (I7.nth 0 rfl).one.1
    have k8 := (I7.nth 1 rfl).one.1
    clear R9 Q9 I6 hG9 HC4
    go_wp2_with fail
    refine (eqPast_any _ _ _ _ ((causeO ds t u).getD []) ((causeO ds t u).getD []) w9 (by omega) (by omega) Q10.tg R10.tg).mono ?_
    rintro e w10 ⟨rfl, hb10⟩
    rw [decide_eq_true rfl]
    have z10 := hb10.size
    have I8 := (I7.on hb10).top
    have R11 := R10.on hb10
    have Q11 := Q10.on hb10
    clear I7 R10 Q10 hb10 k7 k8
    have k7 := (I8.nth 0 rfl).one.1
    go_wp2_with fail
    refine (markRes_any A5 _ _ cap5 ((causeO ds t u).getD []) 1 w10 Q11 (by omega) (by omega) (by omega)).mono ?_
    rintro e w11 ⟨row, rfl, Q12, hG11, hrow⟩
    have HROW := hide hrow
    have R12 := R11.keep hG11 (fun g e => by have := HROW.out g e; omega)
    have I9 := I8.part hG11 (fun g e => by have := HROW.out g e; have := I8.base; omega) (fun x hx g e => by
      simp only [List.mem_cons, List.not_mem_nil, or_false] at hx
      have := HROW.out g e
      rcases hx with rfl | rfl | rfl <;> simp only <;> omega)
    have z11 := hG11.size
    clear R11 Q11 I8 hG11 hrow k7
    have k7 := (I9.nth 0 rfl).one.1
    go_wp2_with fail
    refine (heldPast_any A5 cap5 ((causeO ds t u).getD []).length 1 w11 (by omega) (by omega) (by omega) Q12.tg).mono ?_
    rintro e w12 ⟨rfl, hb12⟩
    have z12 := hb12.size
    have I10 := (I9.on hb12).top
    have R13 := R12.on hb12
    have Q13 := Q12.on hb12
    clear I9 R12 Q12 hb12 k7
    have hp12 : ¬ ((1 : Int) + 2 * (((causeO ds t u).getD []).length : Int) < 0) := by omega
    have hne : ((1 : Int) + 2 * (((causeO ds t u).getD []).length : Int) != 1 + 2 * (((causeO ds t u).getD []).length : Int)) = false := by simp
    have zb10 := I10.base
    go_wp2_with fail
    go_upto_region 24 with (fail)
    go_cut [14, 15] (fun s s2 wx => ∃ (p : Nat) (A : Option Addr) (cap B U : Nat), s = .pointer (some ⟨p, 0, none⟩) ∧ s2 = .bool (causeO ds t u).isSome ∧ Blk wx p 35 #[.slice A ((causeO ds t u).getD []).length cap] ∧ Res wx B U A ((causeO ds t u).getD []) ∧ Inv w w12.heap.size [(w5.heap.size, 35, #[.slice A5 ((causeO ds t u).getD []).length cap5]), (p0, 35, #[.slice A3 ((causeO ds t u).getD []).length cap3]), (w.heap.size, 40, #[.int .i64 t, .int .i64 u])] wx ∧ Res wx B3 U3 A3 ((causeO ds t u).getD []) ∧ Res wx w4b.heap.size w5.heap.size A5 (marksL 1 ((causeO ds t u).getD []).length) ∧ w12.heap.size ≤ p ∧ w12.heap.size ≤ B ∧ U ≤ wx.heap.size ∧ (p < B ∨ U ≤ p))
    case first =>
      refine wp_region_noPanic ?_
      refine wp_region_held_drew (S := (fun w' => w'.cell? ⟨w.heap.size, 0, none⟩ = some (.int .i64 t) ∧ w'.cell? ⟨w.heap.size, 1, none⟩ = some (.int .i64 u) ∧ Inv w w12.heap.size [(w5.heap.size, 35, #[.slice A5 ((causeO ds t u).getD []).length cap5]), (p0, 35, #[.slice A3 ((causeO ds t u).getD []).length cap3]), (w.heap.size, 40, #[.int .i64 t, .int .i64 u])] w' ∧ Res w' B3 U3 A3 ((causeO ds t u).getD []) ∧ Res w' w4b.heap.size w5.heap.size A5 (marksL 1 ((causeO ds t u).getD []).length))) (by kernel_rfl) (by exact ⟨(I10.drew.nth 2 rfl).at 0, (I10.drew.nth 2 rfl).at 1, I10.drew, R13.drew, Q13.drew⟩) (fun hHeld => ?_)
      refine take_run 0 (some 80) (v := ?_) rfl rfl (by kernel_rfl) (by kernel_rfl) (by kernel_rfl) (fun _ _ _ h => h) (by rfl) ?_ hHeld ?_
      rotate_left
      · ((intro w hSw); (try dsimp only at hSw); go_simp <;> with_reducible rfl)
      simp only [Act.put, List.setIfInBounds_toArray, List.set_cons_zero, List.set_cons_succ]
      refine take_run 2 (some 82) (v := ?_) rfl rfl (by kernel_rfl) (by kernel_rfl) (by kernel_rfl) (fun _ _ _ h => h) (by rfl) ?_ hHeld ?_
      rotate_left
      · ((intro w hSw); (try dsimp only at hSw); go_simp <;> with_reducible rfl)
      simp only [Act.put, List.setIfInBounds_toArray, List.set_cons_zero, List.set_cons_succ]
      refine wpAnyH_ready (rs := [1, 8]) (by kernel_rfl) (by simp) ?_
      refine AllReadyH.cons rfl (fun K hK => ?_) (AllReadyH.cons rfl (fun K hK => ?_) AllReadyH.nil)
      · skip
        go_simp
        (have hr := hHeld.2.2.1.room; (try simp at hr); refine (toDoneS_any a c ds _ hn ((hd.on hHeld.2.2.1.below).up hHeld.2.2.1.base)).mono ?_; rintro e wa ⟨g3, cur3, rfl, hg3, hB3, hsz3, hcur3, hb⟩; have HC3 := hide hcur3; clear hcur3; have hz := hb.size; (try simp at hz); (first | (with_reducible have hx := Blk.on (Blk.drew (Blk.made _ _ #[.slice none 0 0])) hb) | (with_reducible have hx := Blk.on (Blk.made _ _ #[.slice none 0 0]) hb) | (with_reducible have hx := Blk.on (cs := #[.slice none 0 0]) (by assumption) hb) | skip); (try have kx := hx.one))
        try go_wp2_with fail
        refine hK.out _ _ (by exact ⟨((hHeld.2.2.1.on hb).nth 2 rfl).at 0, ((hHeld.2.2.1.on hb).nth 2 rfl).at 1, (hHeld.2.2.1.on hb), (hHeld.2.2.2.1).on hb, (hHeld.2.2.2.2).on hb⟩) (fun hHeld => ?_)
        clear hK K
        refine wpAnyH_ready (rs := [3, 8]) (by kernel_rfl) (by simp) ?_
        refine AllReadyH.cons rfl (fun K hK => ?_) (AllReadyH.cons rfl (fun K hK => ?_) AllReadyH.nil)
        · skip
          go_simp
          (have hr := hHeld.2.2.1.room; (try simp at hr); refine (toTag_any t u _).mono ?_; rintro e wb ⟨rfl, hb⟩; (first | have hB3' := hB3.on hb | have hB3' := (hB3.more _).on hb); have hz := hb.size; (try simp at hz); (first | (with_reducible have hx := Blk.on (Blk.drew (Blk.made _ _ #[.slice none 0 0])) hb) | (with_reducible have hx := Blk.on (Blk.made _ _ #[.slice none 0 0]) hb) | (with_reducible have hx := Blk.on (cs := #[.slice none 0 0]) (by assumption) hb) | skip); (try have kx := hx.one))
          try go_wp2_with fail
          refine hK.out _ _ (by exact ⟨((hHeld.2.2.1.on hb).nth 2 rfl).at 0, ((hHeld.2.2.1.on hb).nth 2 rfl).at 1, (hHeld.2.2.1.on hb), (hHeld.2.2.2.1).on hb, (hHeld.2.2.2.2).on hb⟩) (fun hHeld => ?_)
          clear hK K
          refine wpAnyH_ready (rs := [4, 8]) (by kernel_rfl) (by simp) ?_
          refine AllReadyH.cons rfl (fun K hK => ?_) (AllReadyH.cons rfl (fun K hK => ?_) AllReadyH.nil)
          · skip
            go_simp
            (have hr := hHeld.2.2.1.room; (try simp at hr); refine (implCauseOf_any _ _ ds t u _ hn HTT.out ?_).mono ?_; (first | exact Dg.of hB3' hB3'.inside HC3.out | exact Dg.of (hB3'.more _) (hB3'.more _).inside HC3.out); rintro e wc ⟨A9, cap9, rfl, hR5, hb⟩; have hz := hb.size; (try simp at hz); (first | (with_reducible have hx := Blk.on (Blk.drew (Blk.made _ _ #[.slice none 0 0])) hb) | (with_reducible have hx := Blk.on (Blk.made _ _ #[.slice none 0 0]) hb) | (with_reducible have hx := Blk.on (cs := #[.slice none 0 0]) (by assumption) hb) | skip); (try have kx := hx.one))
            try go_wp2_with fail
            refine hK.out _ _ (by exact ⟨((hHeld.2.2.1.on hb).nth 2 rfl).at 0, ((hHeld.2.2.1.on hb).nth 2 rfl).at 1, (hHeld.2.2.1.on hb), (hHeld.2.2.2.1).on hb, (hHeld.2.2.2.2).on hb⟩) (fun hHeld => ?_)
            clear hK K
            refine take_run 5 (some 79) (v := ?_) rfl rfl (by kernel_rfl) (by kernel_rfl) (by kernel_rfl) (fun _ _ _ h => h) (by rfl) ?_ hHeld ?_
            rotate_left
            · ((intro w hSw); (try dsimp only at hSw); go_simp <;> with_reducible rfl)
            simp only [Act.put, List.setIfInBounds_toArray, List.set_cons_zero, List.set_cons_succ]
            refine take_run 6 (some 85) (v := ?_) rfl rfl (by kernel_rfl) (by kernel_rfl) (by kernel_rfl) (fun _ _ _ h => h) (by rfl) ?_ hHeld ?_
            rotate_left
            · ((intro w hSw); (try dsimp only at hSw); go_simp <;> with_reducible rfl)
            simp only [Act.put, List.setIfInBounds_toArray, List.set_cons_zero, List.set_cons_succ]
            refine take_run 7 (some 86) (v := ?_) rfl rfl (by kernel_rfl) (by kernel_rfl) (by kernel_rfl) (fun _ _ _ h => h) (by rfl) ?_ hHeld ?_
            rotate_left
            · ((intro w hSw); (try dsimp only at hSw); go_simp <;> with_reducible rfl)
            simp only [Act.put, List.setIfInBounds_toArray, List.set_cons_zero, List.set_cons_succ]
            refine take_one 8 (by kernel_rfl) rfl (fun K hK => ?_)
            go_simp
            (have hr5 := hHeld.2.2.1.room; (try simp at hr5))
            try go_wp2_with fail
            refine hK.out _ _ (by exact ⟨((hHeld.2.2.1.alloc _).nth 2 rfl).at 0, ((hHeld.2.2.1.alloc _).nth 2 rfl).at 1, (hHeld.2.2.1.alloc _), (hHeld.2.2.2.1).alloc _, (hHeld.2.2.2.2).alloc _⟩) (fun hHeld => ?_)
            clear hK K
            refine take_one 9 (by kernel_rfl) rfl (fun K hK => ?_)
            go_simp
            refine hK.out _ _ (by first | exact ⟨((hHeld.2.2.1.swap (o := .cells #[.slice none 0 0] 35) (by first | omega | (simp <;> omega)) (by first | omega | (simp <;> omega))).nth 2 rfl).at 0, ((hHeld.2.2.1.swap (o := .cells #[.slice none 0 0] 35) (by first | omega | (simp <;> omega)) (by first | omega | (simp <;> omega))).nth 2 rfl).at 1, (hHeld.2.2.1.swap (o := .cells #[.slice none 0 0] 35) (by first | omega | (simp <;> omega)) (by first | omega | (simp <;> omega))), Res.swap (o := .cells #[.slice none 0 0] 35) (hHeld.2.2.2.1) (by first | omega | (simp <;> omega)), Res.swap (o := .cells #[.slice none 0 0] 35) (hHeld.2.2.2.2) (by first | omega | (simp <;> omega))⟩ | exact ⟨((hHeld.2.2.1.set (by first | omega | (simp <;> omega)) (by first | omega | (simp <;> omega)) _).nth 2 rfl).at 0, ((hHeld.2.2.1.set (by first | omega | (simp <;> omega)) (by first | omega | (simp <;> omega)) _).nth 2 rfl).at 1, (hHeld.2.2.1.set (by first | omega | (simp <;> omega)) (by first | omega | (simp <;> omega)) _), (hHeld.2.2.2.1).set (.inr (by first | omega | (simp <;> omega))) _, (hHeld.2.2.2.2).set (.inr (by first | omega | (simp <;> omega))) _⟩) (fun hHeld => ?_)
            clear hK K
            refine take_run 10 (some 15) (v := ?_) rfl rfl (by kernel_rfl) (by kernel_rfl) (by kernel_rfl) (fun _ _ _ h => h) (by rfl) ?_ hHeld ?_
            rotate_left
            · ((intro w hSw); (try dsimp only at hSw); go_simp <;> with_reducible rfl)
            simp only [Act.put, List.setIfInBounds_toArray, List.set_cons_zero, List.set_cons_succ]
            refine wpAnyH_done (by kernel_rfl) ?_ _
            refine NoPanic.normal ?_
            go_wp2_with fail
            go_meet
            first | exact ⟨_, A9, cap9, _, _, rfl, rfl, Blk.made _ _ _, hR5.alloc _, hHeld.2.2.1, hHeld.2.2.2.1, hHeld.2.2.2.2, (by first | omega | (simp <;> omega)), (by first | omega | (simp <;> omega)), (by first | omega | (simp <;> omega)), (by first | exact .inr (by first | omega | (simp <;> omega)) | exact .inl (by first | omega | (simp <;> omega)))⟩ | exact ⟨_, A9, cap9, _, _, rfl, rfl, hx.put 0 _, hR5.set (by first | exact .inl (by first | omega | (simp <;> omega)) | exact .inr (by first | omega | (simp <;> omega))) _, hHeld.2.2.1, hHeld.2.2.2.1, hHeld.2.2.2.2, (by first | omega | (simp <;> omega)), (by first | omega | (simp <;> omega)), (by first | omega | (simp [World.setCell] <;> omega)), (by first | exact .inl (by first | omega | (simp <;> omega)) | exact .inr (by first | omega | (simp <;> omega)))⟩
          · skip
            go_simp
            (have hr5 := hHeld.2.2.1.room; (try simp at hr5))
            try go_wp2_with fail
            refine hK.out _ _ (by exact ⟨((hHeld.2.2.1.alloc _).nth 2 rfl).at 0, ((hHeld.2.2.1.alloc _).nth 2 rfl).at 1, (hHeld.2.2.1.alloc _), (hHeld.2.2.2.1).alloc _, (hHeld.2.2.2.2).alloc _⟩) (fun hHeld => ?_)
            clear hK K
            refine take_one 4 (by kernel_rfl) rfl (fun K hK => ?_)
            go_simp
            (have hr := hHeld.2.2.1.room; (try simp at hr); refine (implCauseOf_any _ _ ds t u _ hn HTT.out ?_).mono ?_; (first | exact Dg.of hB3' hB3'.inside HC3.out | exact Dg.of (hB3'.more _) (hB3'.more _).inside HC3.out); rintro e wc ⟨A9, cap9, rfl, hR5, hb⟩; have hz := hb.size; (try simp at hz); (first | (with_reducible have hx := Blk.on (Blk.drew (Blk.made _ _ #[.slice none 0 0])) hb) | (with_reducible have hx := Blk.on (Blk.made _ _ #[.slice none 0 0]) hb) | (with_reducible have hx := Blk.on (cs := #[.slice none 0 0]) (by assumption) hb) | skip); (try have kx := hx.one))
            try go_wp2_with fail
            refine hK.out _ _ (by exact ⟨((hHeld.2.2.1.on hb).nth 2 rfl).at 0, ((hHeld.2.2.1.on hb).nth 2 rfl).at 1, (hHeld.2.2.1.on hb), (hHeld.2.2.2.1).on hb, (hHeld.2.2.2.2).on hb⟩) (fun hHeld => ?_)
            clear hK K
            refine take_run 5 (some 79) (v := ?_) rfl rfl (by kernel_rfl) (by kernel_rfl) (by kernel_rfl) (fun _ _ _ h => h) (by rfl) ?_ hHeld ?_
            rotate_left
            · ((intro w hSw); (try dsimp only at hSw); go_simp <;> with_reducible rfl)
            simp only [Act.put, List.setIfInBounds_toArray, List.set_cons_zero, List.set_cons_succ]
            refine take_run 6 (some 85) (v := ?_) rfl rfl (by kernel_rfl) (by kernel_rfl) (by kernel_rfl) (fun _ _ _ h => h) (by rfl) ?_ hHeld ?_
            rotate_left
            · ((intro w hSw); (try dsimp only at hSw); go_simp <;> with_reducible rfl)
            simp only [Act.put, List.setIfInBounds_toArray, List.set_cons_zero, List.set_cons_succ]
            refine take_run 7 (some 86) (v := ?_) rfl rfl (by kernel_rfl) (by kernel_rfl) (by kernel_rfl) (fun _ _ _ h => h) (by rfl) ?_ hHeld ?_
            rotate_left
            · ((intro w hSw); (try dsimp only at hSw); go_simp <;> with_reducible rfl)
            simp only [Act.put, List.setIfInBounds_toArray, List.set_cons_zero, List.set_cons_succ]
            refine take_one 9 (by kernel_rfl) rfl (fun K hK => ?_)
            go_simp
            refine hK.out _ _ (by first | exact ⟨((hHeld.2.2.1.swap (o := .cells #[.slice none 0 0] 35) (by first | omega | (simp <;> omega)) (by first | omega | (simp <;> omega))).nth 2 rfl).at 0, ((hHeld.2.2.1.swap (o := .cells #[.slice none 0 0] 35) (by first | omega | (simp <;> omega)) (by first | omega | (simp <;> omega))).nth 2 rfl).at 1, (hHeld.2.2.1.swap (o := .cells #[.slice none 0 0] 35) (by first | omega | (simp <;> omega)) (by first | omega | (simp <;> omega))), Res.swap (o := .cells #[.slice none 0 0] 35) (hHeld.2.2.2.1) (by first | omega | (simp <;> omega)), Res.swap (o := .cells #[.slice none 0 0] 35) (hHeld.2.2.2.2) (by first | omega | (simp <;> omega))⟩ | exact ⟨((hHeld.2.2.1.set (by first | omega | (simp <;> omega)) (by first | omega | (simp <;> omega)) _).nth 2 rfl).at 0, ((hHeld.2.2.1.set (by first | omega | (simp <;> omega)) (by first | omega | (simp <;> omega)) _).nth 2 rfl).at 1, (hHeld.2.2.1.set (by first | omega | (simp <;> omega)) (by first | omega | (simp <;> omega)) _), (hHeld.2.2.2.1).set (.inr (by first | omega | (simp <;> omega))) _, (hHeld.2.2.2.2).set (.inr (by first | omega | (simp <;> omega))) _⟩) (fun hHeld => ?_)
            clear hK K
            refine take_run 10 (some 15) (v := ?_) rfl rfl (by kernel_rfl) (by kernel_rfl) (by kernel_rfl) (fun _ _ _ h => h) (by rfl) ?_ hHeld ?_
            rotate_left
            · ((intro w hSw); (try dsimp only at hSw); go_simp <;> with_reducible rfl)
            simp only [Act.put, List.setIfInBounds_toArray, List.set_cons_zero, List.set_cons_succ]
            refine wpAnyH_done (by kernel_rfl) ?_ _
            refine NoPanic.normal ?_
            go_wp2_with fail
            go_meet
            first | exact ⟨_, A9, cap9, _, _, rfl, rfl, Blk.made _ _ _, hR5.alloc _, hHeld.2.2.1, hHeld.2.2.2.1, hHeld.2.2.2.2, (by first | omega | (simp <;> omega)), (by first | omega | (simp <;> omega)), (by first | omega | (simp <;> omega)), (by first | exact .inr (by first | omega | (simp <;> omega)) | exact .inl (by first | omega | (simp <;> omega)))⟩ | exact ⟨_, A9, cap9, _, _, rfl, rfl, hx.put 0 _, hR5.set (by first | exact .inl (by first | omega | (simp <;> omega)) | exact .inr (by first | omega | (simp <;> omega))) _, hHeld.2.2.1, hHeld.2.2.2.1, hHeld.2.2.2.2, (by first | omega | (simp <;> omega)), (by first | omega | (simp <;> omega)), (by first | omega | (simp [World.setCell] <;> omega)), (by first | exact .inl (by first | omega | (simp <;> omega)) | exact .inr (by first | omega | (simp <;> omega)))⟩
        · skip
          go_simp
          (have hr5 := hHeld.2.2.1.room; (try simp at hr5))
          try go_wp2_with fail
          refine hK.out _ _ (by exact ⟨((hHeld.2.2.1.alloc _).nth 2 rfl).at 0, ((hHeld.2.2.1.alloc _).nth 2 rfl).at 1, (hHeld.2.2.1.alloc _), (hHeld.2.2.2.1).alloc _, (hHeld.2.2.2.2).alloc _⟩) (fun hHeld => ?_)
          clear hK K
          refine take_one 3 (by kernel_rfl) rfl (fun K hK => ?_)
          go_simp
          (have hr := hHeld.2.2.1.room; (try simp at hr); refine (toTag_any t u _).mono ?_; rintro e wb ⟨rfl, hb⟩; (first | have hB3' := hB3.on hb | have hB3' := (hB3.more _).on hb); have hz := hb.size; (try simp at hz); (first | (with_reducible have hx := Blk.on (Blk.drew (Blk.made _ _ #[.slice none 0 0])) hb) | (with_reducible have hx := Blk.on (Blk.made _ _ #[.slice none 0 0]) hb) | (with_reducible have hx := Blk.on (cs := #[.slice none 0 0]) (by assumption) hb) | skip); (try have kx := hx.one))
          try go_wp2_with fail
          refine hK.out _ _ (by exact ⟨((hHeld.2.2.1.on hb).nth 2 rfl).at 0, ((hHeld.2.2.1.on hb).nth 2 rfl).at 1, (hHeld.2.2.1.on hb), (hHeld.2.2.2.1).on hb, (hHeld.2.2.2.2).on hb⟩) (fun hHeld => ?_)
          clear hK K
          refine take_one 4 (by kernel_rfl) rfl (fun K hK => ?_)
          go_simp
          (have hr := hHeld.2.2.1.room; (try simp at hr); refine (implCauseOf_any _ _ ds t u _ hn HTT.out ?_).mono ?_; (first | exact Dg.of hB3' hB3'.inside HC3.out | exact Dg.of (hB3'.more _) (hB3'.more _).inside HC3.out); rintro e wc ⟨A9, cap9, rfl, hR5, hb⟩; have hz := hb.size; (try simp at hz); (first | (with_reducible have hx := Blk.on (Blk.drew (Blk.made _ _ #[.slice none 0 0])) hb) | (with_reducible have hx := Blk.on (Blk.made _ _ #[.slice none 0 0]) hb) | (with_reducible have hx := Blk.on (cs := #[.slice none 0 0]) (by assumption) hb) | skip); (try have kx := hx.one))
          try go_wp2_with fail
          refine hK.out _ _ (by exact ⟨((hHeld.2.2.1.on hb).nth 2 rfl).at 0, ((hHeld.2.2.1.on hb).nth 2 rfl).at 1, (hHeld.2.2.1.on hb), (hHeld.2.2.2.1).on hb, (hHeld.2.2.2.2).on hb⟩) (fun hHeld => ?_)
          clear hK K
          refine take_run 5 (some 79) (v := ?_) rfl rfl (by kernel_rfl) (by kernel_rfl) (by kernel_rfl) (fun _ _ _ h => h) (by rfl) ?_ hHeld ?_
          rotate_left
          · ((intro w hSw); (try dsimp only at hSw); go_simp <;> with_reducible rfl)
          simp only [Act.put, List.setIfInBounds_toArray, List.set_cons_zero, List.set_cons_succ]
          refine take_run 6 (some 85) (v := ?_) rfl rfl (by kernel_rfl) (by kernel_rfl) (by kernel_rfl) (fun _ _ _ h => h) (by rfl) ?_ hHeld ?_
          rotate_left
          · ((intro w hSw); (try dsimp only at hSw); go_simp <;> with_reducible rfl)
          simp only [Act.put, List.setIfInBounds_toArray, List.set_cons_zero, List.set_cons_succ]
          refine take_run 7 (some 86) (v := ?_) rfl rfl (by kernel_rfl) (by kernel_rfl) (by kernel_rfl) (fun _ _ _ h => h) (by rfl) ?_ hHeld ?_
          rotate_left
          · ((intro w hSw); (try dsimp only at hSw); go_simp <;> with_reducible rfl)
          simp only [Act.put, List.setIfInBounds_toArray, List.set_cons_zero, List.set_cons_succ]
          refine take_one 9 (by kernel_rfl) rfl (fun K hK => ?_)
          go_simp
          refine hK.out _ _ (by first | exact ⟨((hHeld.2.2.1.swap (o := .cells #[.slice none 0 0] 35) (by first | omega | (simp <;> omega)) (by first | omega | (simp <;> omega))).nth 2 rfl).at 0, ((hHeld.2.2.1.swap (o := .cells #[.slice none 0 0] 35) (by first | omega | (simp <;> omega)) (by first | omega | (simp <;> omega))).nth 2 rfl).at 1, (hHeld.2.2.1.swap (o := .cells #[.slice none 0 0] 35) (by first | omega | (simp <;> omega)) (by first | omega | (simp <;> omega))), Res.swap (o := .cells #[.slice none 0 0] 35) (hHeld.2.2.2.1) (by first | omega | (simp <;> omega)), Res.swap (o := .cells #[.slice none 0 0] 35) (hHeld.2.2.2.2) (by first | omega | (simp <;> omega))⟩ | exact ⟨((hHeld.2.2.1.set (by first | omega | (simp <;> omega)) (by first | omega | (simp <;> omega)) _).nth 2 rfl).at 0, ((hHeld.2.2.1.set (by first | omega | (simp <;> omega)) (by first | omega | (simp <;> omega)) _).nth 2 rfl).at 1, (hHeld.2.2.1.set (by first | omega | (simp <;> omega)) (by first | omega | (simp <;> omega)) _), (hHeld.2.2.2.1).set (.inr (by first | omega | (simp <;> omega))) _, (hHeld.2.2.2.2).set (.inr (by first | omega | (simp <;> omega))) _⟩) (fun hHeld => ?_)
          clear hK K
          refine take_run 10 (some 15) (v := ?_) rfl rfl (by kernel_rfl) (by kernel_rfl) (by kernel_rfl) (fun _ _ _ h => h) (by rfl) ?_ hHeld ?_
          rotate_left
          · ((intro w hSw); (try dsimp only at hSw); go_simp <;> with_reducible rfl)
          simp only [Act.put, List.setIfInBounds_toArray, List.set_cons_zero, List.set_cons_succ]
          refine wpAnyH_done (by kernel_rfl) ?_ _
          refine NoPanic.normal ?_
          go_wp2_with fail
          go_meet
          first | exact ⟨_, A9, cap9, _, _, rfl, rfl, Blk.made _ _ _, hR5.alloc _, hHeld.2.2.1, hHeld.2.2.2.1, hHeld.2.2.2.2, (by first | omega | (simp <;> omega)), (by first | omega | (simp <;> omega)), (by first | omega | (simp <;> omega)), (by first | exact .inr (by first | omega | (simp <;> omega)) | exact .inl (by first | omega | (simp <;> omega)))⟩ | exact ⟨_, A9, cap9, _, _, rfl, rfl, hx.put 0 _, hR5.set (by first | exact .inl (by first | omega | (simp <;> omega)) | exact .inr (by first | omega | (simp <;> omega))) _, hHeld.2.2.1, hHeld.2.2.2.1, hHeld.2.2.2.2, (by first | omega | (simp <;> omega)), (by first | omega | (simp <;> omega)), (by first | omega | (simp [World.setCell] <;> omega)), (by first | exact .inl (by first | omega | (simp <;> omega)) | exact .inr (by first | omega | (simp <;> omega)))⟩
      · skip
        go_simp
        (have hr5 := hHeld.2.2.1.room; (try simp at hr5))
        try go_wp2_with fail
        refine hK.out _ _ (by exact ⟨((hHeld.2.2.1.alloc _).nth 2 rfl).at 0, ((hHeld.2.2.1.alloc _).nth 2 rfl).at 1, (hHeld.2.2.1.alloc _), (hHeld.2.2.2.1).alloc _, (hHeld.2.2.2.2).alloc _⟩) (fun hHeld => ?_)
        clear hK K
        refine take_one 1 (by kernel_rfl) rfl (fun K hK => ?_)
        go_simp
        (have hr := hHeld.2.2.1.room; (try simp at hr); refine (toDoneS_any a c ds _ hn ((hd.on hHeld.2.2.1.below).up hHeld.2.2.1.base)).mono ?_; rintro e wa ⟨g3, cur3, rfl, hg3, hB3, hsz3, hcur3, hb⟩; have HC3 := hide hcur3; clear hcur3; have hz := hb.size; (try simp at hz); (first | (with_reducible have hx := Blk.on (Blk.drew (Blk.made _ _ #[.slice none 0 0])) hb) | (with_reducible have hx := Blk.on (Blk.made _ _ #[.slice none 0 0]) hb) | (with_reducible have hx := Blk.on (cs := #[.slice none 0 0]) (by assumption) hb) | skip); (try have kx := hx.one))
        try go_wp2_with fail
        refine hK.out _ _ (by exact ⟨((hHeld.2.2.1.on hb).nth 2 rfl).at 0, ((hHeld.2.2.1.on hb).nth 2 rfl).at 1, (hHeld.2.2.1.on hb), (hHeld.2.2.2.1).on hb, (hHeld.2.2.2.2).on hb⟩) (fun hHeld => ?_)
        clear hK K
        refine take_one 3 (by kernel_rfl) rfl (fun K hK => ?_)
        go_simp
        (have hr := hHeld.2.2.1.room; (try simp at hr); refine (toTag_any t u _).mono ?_; rintro e wb ⟨rfl, hb⟩; (first | have hB3' := hB3.on hb | have hB3' := (hB3.more _).on hb); have hz := hb.size; (try simp at hz); (first | (with_reducible have hx := Blk.on (Blk.drew (Blk.made _ _ #[.slice none 0 0])) hb) | (with_reducible have hx := Blk.on (Blk.made _ _ #[.slice none 0 0]) hb) | (with_reducible have hx := Blk.on (cs := #[.slice none 0 0]) (by assumption) hb) | skip); (try have kx := hx.one))
        try go_wp2_with fail
        refine hK.out _ _ (by exact ⟨((hHeld.2.2.1.on hb).nth 2 rfl).at 0, ((hHeld.2.2.1.on hb).nth 2 rfl).at 1, (hHeld.2.2.1.on hb), (hHeld.2.2.2.1).on hb, (hHeld.2.2.2.2).on hb⟩) (fun hHeld => ?_)
        clear hK K
        refine take_one 4 (by kernel_rfl) rfl (fun K hK => ?_)
        go_simp
        (have hr := hHeld.2.2.1.room; (try simp at hr); refine (implCauseOf_any _ _ ds t u _ hn HTT.out ?_).mono ?_; (first | exact Dg.of hB3' hB3'.inside HC3.out | exact Dg.of (hB3'.more _) (hB3'.more _).inside HC3.out); rintro e wc ⟨A9, cap9, rfl, hR5, hb⟩; have hz := hb.size; (try simp at hz); (first | (with_reducible have hx := Blk.on (Blk.drew (Blk.made _ _ #[.slice none 0 0])) hb) | (with_reducible have hx := Blk.on (Blk.made _ _ #[.slice none 0 0]) hb) | (with_reducible have hx := Blk.on (cs := #[.slice none 0 0]) (by assumption) hb) | skip); (try have kx := hx.one))
        try go_wp2_with fail
        refine hK.out _ _ (by exact ⟨((hHeld.2.2.1.on hb).nth 2 rfl).at 0, ((hHeld.2.2.1.on hb).nth 2 rfl).at 1, (hHeld.2.2.1.on hb), (hHeld.2.2.2.1).on hb, (hHeld.2.2.2.2).on hb⟩) (fun hHeld => ?_)
        clear hK K
        refine take_run 5 (some 79) (v := ?_) rfl rfl (by kernel_rfl) (by kernel_rfl) (by kernel_rfl) (fun _ _ _ h => h) (by rfl) ?_ hHeld ?_
        rotate_left
        · ((intro w hSw); (try dsimp only at hSw); go_simp <;> with_reducible rfl)
        simp only [Act.put, List.setIfInBounds_toArray, List.set_cons_zero, List.set_cons_succ]
        refine take_run 6 (some 85) (v := ?_) rfl rfl (by kernel_rfl) (by kernel_rfl) (by kernel_rfl) (fun _ _ _ h => h) (by rfl) ?_ hHeld ?_
        rotate_left
        · ((intro w hSw); (try dsimp only at hSw); go_simp <;> with_reducible rfl)
        simp only [Act.put, List.setIfInBounds_toArray, List.set_cons_zero, List.set_cons_succ]
        refine take_run 7 (some 86) (v := ?_) rfl rfl (by kernel_rfl) (by kernel_rfl) (by kernel_rfl) (fun _ _ _ h => h) (by rfl) ?_ hHeld ?_
        rotate_left
        · ((intro w hSw); (try dsimp only at hSw); go_simp <;> with_reducible rfl)
        simp only [Act.put, List.setIfInBounds_toArray, List.set_cons_zero, List.set_cons_succ]
        refine take_one 9 (by kernel_rfl) rfl (fun K hK => ?_)
        go_simp
        refine hK.out _ _ (by first | exact ⟨((hHeld.2.2.1.swap (o := .cells #[.slice none 0 0] 35) (by first | omega | (simp <;> omega)) (by first | omega | (simp <;> omega))).nth 2 rfl).at 0, ((hHeld.2.2.1.swap (o := .cells #[.slice none 0 0] 35) (by first | omega | (simp <;> omega)) (by first | omega | (simp <;> omega))).nth 2 rfl).at 1, (hHeld.2.2.1.swap (o := .cells #[.slice none 0 0] 35) (by first | omega | (simp <;> omega)) (by first | omega | (simp <;> omega))), Res.swap (o := .cells #[.slice none 0 0] 35) (hHeld.2.2.2.1) (by first | omega | (simp <;> omega)), Res.swap (o := .cells #[.slice none 0 0] 35) (hHeld.2.2.2.2) (by first | omega | (simp <;> omega))⟩ | exact ⟨((hHeld.2.2.1.set (by first | omega | (simp <;> omega)) (by first | omega | (simp <;> omega)) _).nth 2 rfl).at 0, ((hHeld.2.2.1.set (by first | omega | (simp <;> omega)) (by first | omega | (simp <;> omega)) _).nth 2 rfl).at 1, (hHeld.2.2.1.set (by first | omega | (simp <;> omega)) (by first | omega | (simp <;> omega)) _), (hHeld.2.2.2.1).set (.inr (by first | omega | (simp <;> omega))) _, (hHeld.2.2.2.2).set (.inr (by first | omega | (simp <;> omega))) _⟩) (fun hHeld => ?_)
        clear hK K
        refine take_run 10 (some 15) (v := ?_) rfl rfl (by kernel_rfl) (by kernel_rfl) (by kernel_rfl) (fun _ _ _ h => h) (by rfl) ?_ hHeld ?_
        rotate_left
        · ((intro w hSw); (try dsimp only at hSw); go_simp <;> with_reducible rfl)
        simp only [Act.put, List.setIfInBounds_toArray, List.set_cons_zero, List.set_cons_succ]
        refine wpAnyH_done (by kernel_rfl) ?_ _
        refine NoPanic.normal ?_
        go_wp2_with fail
        go_meet
        first | exact ⟨_, A9, cap9, _, _, rfl, rfl, Blk.made _ _ _, hR5.alloc _, hHeld.2.2.1, hHeld.2.2.2.1, hHeld.2.2.2.2, (by first | omega | (simp <;> omega)), (by first | omega | (simp <;> omega)), (by first | omega | (simp <;> omega)), (by first | exact .inr (by first | omega | (simp <;> omega)) | exact .inl (by first | omega | (simp <;> omega)))⟩ | exact ⟨_, A9, cap9, _, _, rfl, rfl, hx.put 0 _, hR5.set (by first | exact .inl (by first | omega | (simp <;> omega)) | exact .inr (by first | omega | (simp <;> omega))) _, hHeld.2.2.1, hHeld.2.2.2.1, hHeld.2.2.2.2, (by first | omega | (simp <;> omega)), (by first | omega | (simp <;> omega)), (by first | omega | (simp [World.setCell] <;> omega)), (by first | exact .inl (by first | omega | (simp <;> omega)) | exact .inr (by first | omega | (simp <;> omega)))⟩
    case rest =>
    obtain ⟨p1, A14, cap14, B14, U14, rfl, rfl, hBq, P14, I11, R14, Q14, hp1, hb1, hu1, hx1⟩ := hcut
    have I12 := I11.add (by omega) hBq
    have k9 := (I12.nth 0 rfl).one.1
    have k10 := (I12.nth 2 rfl).one.1
    clear I10 R13 Q13 I11 hBq
    go_wp2_with fail
    refine (eqPast_any A14 A3 cap14 cap3 ((causeO ds t u).getD []) ((causeO ds t u).getD []) _ (by omega) (by omega) P14.tg R14.tg).mono ?_
    rintro e w15 ⟨rfl, hb15⟩
    rw [decide_eq_true rfl]
    have z15 := hb15.size
    have I13 := (I12.on hb15).top
    have Q16 := Q14.on hb15
    clear I12 R14 Q14 P14 hb15 k9 k10
    have k9 := (I13.nth 1 rfl).one.1
    go_wp2_with fail
    refine (heldPast_any A5 cap5 ((causeO ds t u).getD []).length 1 w15 (by omega) (by omega) (by omega) Q16.tg).mono ?_
    rintro e w16 ⟨rfl, hb16⟩
    have I14 := I13.on hb16
    clear I13 Q16 k9 hb16
    go_wp2
    go_ret
    exact ⟨rfl, I14.below⟩
  · go_enter Try.func11, Try.ntmps11
    go_wp2_with fail
    refine (szDoneS_not a ds.length c 1048576 _ (by omega) (by omega) hl (by omega)).mono ?_
    rintro e w1 ⟨rfl, rfl⟩
    go_wp2
    go_ret
    exact ⟨rfl, S0.below⟩

set_option maxRecDepth 100000 in
theorem lifted (os : Os) (started : os.Started) (H : Type) (enc : TypeId × Value → H) :
    ReturnsInHanded {} Try.checked os 11 .any (Rows.fnExactCauseOfSpec.pre6 enc Try.prog Try.f11 Rows.fnExactCauseOfRow.domain false) (Rows.fnExactCauseOfSpec.post enc Try.prog Try.f11 false true false false) := by
  refine returnsInHanded_of_change (C := Try.checked) own started (by kernel_rfl) Try.func11
    (ChangeSpec.witness6 (enc := enc) (C := Try.checked) false ⟨#[], #[.slice none 0 0, .agg #[.int .i64 0, .int .i64 0]], []⟩ 8 (by kernel_rfl) (by kernel_rfl) (by kernel_rfl) (by kernel_rfl)) ?_
  intro W base args ds gs before hval0 hW hcnd _
  have hval : ∀ (j : Nat) t v, Try.f11.params[j]? = some t → args[j]? = some v → Value.okWide Try.prog W .any base t v := hval0
  have hW' := hW
  obtain ⟨p, q, hA0, hV, rfl, hfz, hnd⟩ := hW
  have hA : DataW.TrodAll enc Try.prog W 0 (fun _ => true) true Try.f11.params.toList args.toList ds p := hA0
  rw [Try.params11] at hA hval
  have hK := hA
  obtain ⟨v0, vs0, d0, ds0, p0, q0, hargs, rfl, rfl, h0, r0⟩ := trodAll_cons hA
  obtain ⟨v1, vs1, d1, ds1, p1, q1, rfl, rfl, rfl, h1, r1⟩ := trodAll_cons r0
  obtain ⟨rfl, rfl, rfl⟩ := trodAll_nil r1
  obtain rfl : args = #[v0, v1] := by cases args; simp_all
  obtain ⟨rfl, rfl⟩ := trodVars_none hV
  obtain ⟨a0, cap0, z0, rfl, b0⟩ := read_dones (hval 0 22 v0 rfl rfl) h0
  obtain ⟨t1, u1, rfl, b1⟩ := read_tagw (hval 1 40 v1 rfl rfl) h1
  clear hA0 hval0
  refine (walk a0 cap0 z0 t1 u1 W b0.1 b0.2 b1).mono fun e W' ⟨he, hb⟩ => ?_
  subst he
  have hK' := stay_all hb (by intro t ht; simp only [List.mem_cons, List.not_mem_nil, or_false] at ht; rcases ht with rfl | rfl <;> exact ⟨by kernel_rfl, of_decide_eq_true (by kernel_rfl)⟩) hK
  exact ⟨_, rfl, _, _, _, [], _, [], hW', trodAll_mk1 (shut_bool Try.underlying4 _), hK', rfl, hb.frame _, fun h => by cases h⟩

theorem over : Rows.fnExactCauseOfRow.holds Try.pinned (OpenSpec.ofChange Rows.fnExactCauseOfSpec) :=
  OpenClaim.holds_of_wide 11 Try.f11 rfl rfl rfl rfl rfl rfl rfl ⟨rfl, rfl, rfl, rfl, rfl⟩ rfl rfl rfl rfl rfl (by kernel_rfl) Try.func11
    (by refine joined_of ?_; kernel_rfl) (of_decide_eq_true (by kernel_rfl)) (by unfold Func.isWrapper; first | (rw [if_pos (by decide +kernel)]; kernel_rfl) | (rw [if_neg (by decide +kernel)]; exact ⟨rfl, rfl⟩))
    (fun os started H enc _ => lifted os started H enc)
end Go.Proofs.Ytjljaobmeaocjaa.LawCauseOf
namespace Go.Proofs.Ytjljaobmeaocjaa
/-- The statement itself. -/
theorem fnExactCauseOf_holds : Rows.FnExactCauseOfSaid := LawCauseOf.over
#print axioms fnExactCauseOf_holds
end Go.Proofs.Ytjljaobmeaocjaa
namespace Go.Proofs.Ytjljaobmeaocjaa.LawCauseOf
end Go.Proofs.Ytjljaobmeaocjaa.LawCauseOf
