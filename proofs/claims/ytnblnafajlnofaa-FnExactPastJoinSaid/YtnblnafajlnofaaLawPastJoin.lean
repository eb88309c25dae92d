/- The law FnExactPastJoin holds: for every two vectors of tags the program's PastJoin answers as the model's, leaves its arguments as they were, and answers in memory of its own. No condition. -/
import Derived.Test.YtnblnafajlnofaaLift
import Derived.Test.YtnblnafajlnofaaPastRes
import Derived.Test.YtnblnafajlnofaaReg
import Derived.Deep.DeepCutAuto
namespace Go.Proofs.Ytnblnafajlnofaa.LawPastJoin
open Go.ChangeShapes Go.WideShapes Go.ChangeAt Go.RowKit Go.Joins
attribute [local go_sem ↓] Go.wp_at_zero Go.wp_at_succ

set_option maxRecDepth 100000 in
set_option maxHeartbeats 8000000 in
theorem walk (a : Option Addr) (c : Nat) (ts : List (Int × Int)) (a' : Option Addr) (c' : Nat) (us : List (Int × Int)) (w : World) (ht : Tg w w.heap.size a ts) (hl : ts.length ≤ 9223372036854775807) (hu : Tg w w.heap.size a' us) (hl' : us.length ≤ 9223372036854775807) :
    Calls Try.prog 12 #[.agg #[.slice a ts.length c], .agg #[.slice a' us.length c']] w fun e w' => e = .returned (.bool true) ∧ Below w.heap.size w w' := by
  have S0 := ((Inv.start w).box 47 #[.slice a ts.length c]).box 47 #[.slice a' us.length c']
  simp only [World.size_alloc] at S0
  by_cases hn : ts.length ≤ 1048576
  · go_enter Try.func12, Try.ntmps12
    go_wp2_with fail
    generalize (w.alloc (.cells #[.slice a ts.length c] 47)).alloc (.cells #[.slice a' us.length c'] 47) = W at S0 ⊢
    refine (szPast_fits a ts.length c 1048576 _ (by omega) (by omega)).mono ?_
    rintro e w1 ⟨rfl, hb1⟩
    have S1 := S0.on hb1
    have k1 := (S1.nth 0 rfl).one.1
    have hp : ¬ ((1048576 : Int) - (ts.length : Int) < 0) := by omega
    clear S0
    go_wp2_with fail
    by_cases hn2 : (us.length : Int) ≤ 1048576 - (ts.length : Int)
    · have hn' : us.length ≤ 1048576 := by omega
      refine (szPast_fits a' us.length c' _ _ (by omega) hn2).mono ?_
      rintro e w2 ⟨rfl, hb2⟩
      have S2 := S1.on hb2
      have hp2 : ¬ ((1048576 : Int) - (ts.length : Int) - (us.length : Int) < 0) := by omega
      have hj := joinL_len ts us
      clear S1 k1 hb1 hb2
      go_wp2_with fail
      clear hp hp2 hn2
      go_upto_region 8 with (fail)
      go_cut [6] (fun s wx => ∃ (p : Nat) (A : Option Addr) (cap B U : Nat), s = .pointer (some ⟨p, 0, none⟩) ∧ Blk wx p 33 #[.slice A (joinL ts us).length cap] ∧ Res wx B U A (joinL ts us) ∧ Inv w (w.heap.size + 1 + 1) [(w.heap.size + 1, 47, #[.slice a' us.length c']), (w.heap.size, 47, #[.slice a ts.length c])] wx ∧ w.heap.size + 2 ≤ p ∧ w.heap.size + 2 ≤ B ∧ U ≤ wx.heap.size ∧ (p < B ∨ U ≤ p))
      case first =>
        refine wp_region_noPanic ?_
        refine wp_region_held_drew (S := (fun w' => w'.cell? ⟨w.heap.size, 0, none⟩ = some (.slice a ts.length c) ∧ w'.cell? ⟨w.heap.size + 1, 0, none⟩ = some (.slice a' us.length c') ∧ Inv w (w.heap.size + 1 + 1) [(w.heap.size + 1, 47, #[.slice a' us.length c']), (w.heap.size, 47, #[.slice a ts.length c])] w')) (by kernel_rfl) (by exact ⟨((S2.drew).nth 1 rfl).at 0, ((S2.drew).nth 0 rfl).at 0, S2.drew⟩) (fun hHeld => ?_)
        refine take_run 0 (some 24) (v := ?_) rfl rfl (by kernel_rfl) (by kernel_rfl) (by kernel_rfl) (fun _ _ _ h => h) (by rfl) ?_ hHeld ?_
        rotate_left
        · ((intro w hSw); (try dsimp only at hSw); go_simp <;> with_reducible rfl)
        simp only [Act.put, List.setIfInBounds_toArray, List.set_cons_zero, List.set_cons_succ]
        refine take_run 2 (some 26) (v := ?_) rfl rfl (by kernel_rfl) (by kernel_rfl) (by kernel_rfl) (fun _ _ _ h => h) (by rfl) ?_ hHeld ?_
        rotate_left
        · ((intro w hSw); (try dsimp only at hSw); go_simp <;> with_reducible rfl)
        simp only [Act.put, List.setIfInBounds_toArray, List.set_cons_zero, List.set_cons_succ]
        refine wpAnyH_ready (rs := [1, 5]) (by kernel_rfl) (by simp) ?_
        refine AllReadyH.cons rfl (fun K hK => ?_) (AllReadyH.cons rfl (fun K hK => ?_) AllReadyH.nil)
        · skip
          go_simp
          (have hr := hHeld.2.2.room; (try simp at hr); refine (toPast_any a c ts _ hn ((ht.on hHeld.2.2.below).up hHeld.2.2.base)).mono ?_; rintro e w3 ⟨g3, cur3, rfl, hg3, hB3, hsz3, hcur3, hb⟩; have HC3 := hide hcur3; clear hcur3; have hz := hb.size; (try simp at hz); (first | (with_reducible have hx := Blk.on (Blk.drew (Blk.made _ _ #[.slice none 0 0])) hb) | (with_reducible have hx := Blk.on (Blk.made _ _ #[.slice none 0 0]) hb) | (with_reducible have hx := Blk.on (cs := #[.slice none 0 0]) (by assumption) hb) | skip); (try have kx := hx.one))
          try go_wp2_with fail
          refine hK.out _ _ (by exact ⟨((hHeld.2.2.on hb).nth 1 rfl).at 0, ((hHeld.2.2.on hb).nth 0 rfl).at 0, hHeld.2.2.on hb⟩) (fun hHeld => ?_)
          clear hK K
          refine wpAnyH_ready (rs := [3, 5]) (by kernel_rfl) (by simp) ?_
          refine AllReadyH.cons rfl (fun K hK => ?_) (AllReadyH.cons rfl (fun K hK => ?_) AllReadyH.nil)
          · skip
            go_simp
            (have hr := hHeld.2.2.room; (try simp at hr); refine (toPast_any a' c' us _ hn' ((hu.on hHeld.2.2.below).up hHeld.2.2.base)).mono ?_; rintro e w4 ⟨g4, cur4, rfl, hg4, hB4, hsz4, hcur4, hb⟩; have HC4 := hide hcur4; clear hcur4; (first | have hB3' := hB3.on hb | have hB3' := (hB3.more _).on hb); have hz := hb.size; (try simp at hz); (first | (with_reducible have hx := Blk.on (Blk.drew (Blk.made _ _ #[.slice none 0 0])) hb) | (with_reducible have hx := Blk.on (Blk.made _ _ #[.slice none 0 0]) hb) | (with_reducible have hx := Blk.on (cs := #[.slice none 0 0]) (by assumption) hb) | skip); (try have kx := hx.one))
            try go_wp2_with fail
            refine hK.out _ _ (by exact ⟨((hHeld.2.2.on hb).nth 1 rfl).at 0, ((hHeld.2.2.on hb).nth 0 rfl).at 0, hHeld.2.2.on hb⟩) (fun hHeld => ?_)
            clear hK K
            refine wpAnyH_ready (rs := [4, 5]) (by kernel_rfl) (by simp) ?_
            refine AllReadyH.cons rfl (fun K hK => ?_) (AllReadyH.cons rfl (fun K hK => ?_) AllReadyH.nil)
            · skip
              go_simp
              (have hr := hHeld.2.2.room; (try simp at hr); refine (specPastJoin_any _ _ _ _ ts us _ hn hn' ?_ ?_).mono ?_; (first | exact Tg.of hB3' hB3'.inside HC3.out | exact Tg.of (hB3'.more _) (hB3'.more _).inside HC3.out); (first | exact Tg.of hB4 hB4.inside HC4.out | exact Tg.of (hB4.more _) (hB4.more _).inside HC4.out); rintro e w5 ⟨A5, cap5, rfl, hR5, hb⟩; have hz := hb.size; (try simp at hz); (first | (with_reducible have hx := Blk.on (Blk.drew (Blk.made _ _ #[.slice none 0 0])) hb) | (with_reducible have hx := Blk.on (Blk.made _ _ #[.slice none 0 0]) hb) | (with_reducible have hx := Blk.on (cs := #[.slice none 0 0]) (by assumption) hb) | skip); (try have kx := hx.one))
              try go_wp2_with fail
              refine hK.out _ _ (by exact ⟨((hHeld.2.2.on hb).nth 1 rfl).at 0, ((hHeld.2.2.on hb).nth 0 rfl).at 0, hHeld.2.2.on hb⟩) (fun hHeld => ?_)
              clear hK K
              refine take_one 5 (by kernel_rfl) rfl (fun K hK => ?_)
              go_simp
              (have hr5 := hHeld.2.2.room; (try simp at hr5))
              try go_wp2_with fail
              refine hK.out _ _ (by exact ⟨((hHeld.2.2.alloc _).nth 1 rfl).at 0, ((hHeld.2.2.alloc _).nth 0 rfl).at 0, hHeld.2.2.alloc _⟩) (fun hHeld => ?_)
              clear hK K
              refine take_one 6 (by kernel_rfl) rfl (fun K hK => ?_)
              go_simp
              refine hK.out _ _ (by first | exact ⟨((hHeld.2.2.swap (o := .cells #[.slice none 0 0] 33) (by first | omega | (simp <;> omega)) (by first | omega | (simp <;> omega))).nth 1 rfl).at 0, ((hHeld.2.2.swap (o := .cells #[.slice none 0 0] 33) (by first | omega | (simp <;> omega)) (by first | omega | (simp <;> omega))).nth 0 rfl).at 0, hHeld.2.2.swap (o := .cells #[.slice none 0 0] 33) (by first | omega | (simp <;> omega)) (by first | omega | (simp <;> omega))⟩ | exact ⟨((hHeld.2.2.set (by first | omega | (simp <;> omega)) (by first | omega | (simp <;> omega)) _).nth 1 rfl).at 0, ((hHeld.2.2.set (by first | omega | (simp <;> omega)) (by first | omega | (simp <;> omega)) _).nth 0 rfl).at 0, hHeld.2.2.set (by first | omega | (simp <;> omega)) (by first | omega | (simp <;> omega)) _⟩) (fun hHeld => ?_)
              clear hK K
              refine wpAnyH_done (by kernel_rfl) ?_ _
              refine NoPanic.normal ?_
              go_wp2_with fail
              go_meet
              first | exact ⟨_, A5, cap5, _, _, rfl, Blk.made _ _ _, hR5.alloc _, hHeld.2.2, (by first | omega | (simp <;> omega)), (by first | omega | (simp <;> omega)), (by first | omega | (simp <;> omega)), (by first | exact .inr (by first | omega | (simp <;> omega)) | exact .inl (by first | omega | (simp <;> omega)))⟩ | exact ⟨_, A5, cap5, _, _, rfl, hx.put 0 _, hR5.set (by first | exact .inl (by first | omega | (simp <;> omega)) | exact .inr (by first | omega | (simp <;> omega))) _, hHeld.2.2, (by first | omega | (simp <;> omega)), (by first | omega | (simp <;> omega)), (by first | omega | (simp [World.setCell] <;> omega)), (by first | exact .inl (by first | omega | (simp <;> omega)) | exact .inr (by first | omega | (simp <;> omega)))⟩
            · skip
              go_simp
              (have hr5 := hHeld.2.2.room; (try simp at hr5))
              try go_wp2_with fail
              refine hK.out _ _ (by exact ⟨((hHeld.2.2.alloc _).nth 1 rfl).at 0, ((hHeld.2.2.alloc _).nth 0 rfl).at 0, hHeld.2.2.alloc _⟩) (fun hHeld => ?_)
              clear hK K
              refine take_one 4 (by kernel_rfl) rfl (fun K hK => ?_)
              go_simp
              (have hr := hHeld.2.2.room; (try simp at hr); refine (specPastJoin_any _ _ _ _ ts us _ hn hn' ?_ ?_).mono ?_; (first | exact Tg.of hB3' hB3'.inside HC3.out | exact Tg.of (hB3'.more _) (hB3'.more _).inside HC3.out); (first | exact Tg.of hB4 hB4.inside HC4.out | exact Tg.of (hB4.more _) (hB4.more _).inside HC4.out); rintro e w5 ⟨A5, cap5, rfl, hR5, hb⟩; have hz := hb.size; (try simp at hz); (first | (with_reducible have hx := Blk.on (Blk.drew (Blk.made _ _ #[.slice none 0 0])) hb) | (with_reducible have hx := Blk.on (Blk.made _ _ #[.slice none 0 0]) hb) | (with_reducible have hx := Blk.on (cs := #[.slice none 0 0]) (by assumption) hb) | skip); (try have kx := hx.one))
              try go_wp2_with fail
              refine hK.out _ _ (by exact ⟨((hHeld.2.2.on hb).nth 1 rfl).at 0, ((hHeld.2.2.on hb).nth 0 rfl).at 0, hHeld.2.2.on hb⟩) (fun hHeld => ?_)
              clear hK K
              refine take_one 6 (by kernel_rfl) rfl (fun K hK => ?_)
              go_simp
              refine hK.out _ _ (by first | exact ⟨((hHeld.2.2.swap (o := .cells #[.slice none 0 0] 33) (by first | omega | (simp <;> omega)) (by first | omega | (simp <;> omega))).nth 1 rfl).at 0, ((hHeld.2.2.swap (o := .cells #[.slice none 0 0] 33) (by first | omega | (simp <;> omega)) (by first | omega | (simp <;> omega))).nth 0 rfl).at 0, hHeld.2.2.swap (o := .cells #[.slice none 0 0] 33) (by first | omega | (simp <;> omega)) (by first | omega | (simp <;> omega))⟩ | exact ⟨((hHeld.2.2.set (by first | omega | (simp <;> omega)) (by first | omega | (simp <;> omega)) _).nth 1 rfl).at 0, ((hHeld.2.2.set (by first | omega | (simp <;> omega)) (by first | omega | (simp <;> omega)) _).nth 0 rfl).at 0, hHeld.2.2.set (by first | omega | (simp <;> omega)) (by first | omega | (simp <;> omega)) _⟩) (fun hHeld => ?_)
              clear hK K
              refine wpAnyH_done (by kernel_rfl) ?_ _
              refine NoPanic.normal ?_
              go_wp2_with fail
              go_meet
              first | exact ⟨_, A5, cap5, _, _, rfl, Blk.made _ _ _, hR5.alloc _, hHeld.2.2, (by first | omega | (simp <;> omega)), (by first | omega | (simp <;> omega)), (by first | omega | (simp <;> omega)), (by first | exact .inr (by first | omega | (simp <;> omega)) | exact .inl (by first | omega | (simp <;> omega)))⟩ | exact ⟨_, A5, cap5, _, _, rfl, hx.put 0 _, hR5.set (by first | exact .inl (by first | omega | (simp <;> omega)) | exact .inr (by first | omega | (simp <;> omega))) _, hHeld.2.2, (by first | omega | (simp <;> omega)), (by first | omega | (simp <;> omega)), (by first | omega | (simp [World.setCell] <;> omega)), (by first | exact .inl (by first | omega | (simp <;> omega)) | exact .inr (by first | omega | (simp <;> omega)))⟩
          · skip
            go_simp
            (have hr5 := hHeld.2.2.room; (try simp at hr5))
            try go_wp2_with fail
            refine hK.out _ _ (by exact ⟨((hHeld.2.2.alloc _).nth 1 rfl).at 0, ((hHeld.2.2.alloc _).nth 0 rfl).at 0, hHeld.2.2.alloc _⟩) (fun hHeld => ?_)
            clear hK K
            refine take_one 3 (by kernel_rfl) rfl (fun K hK => ?_)
            go_simp
            (have hr := hHeld.2.2.room; (try simp at hr); refine (toPast_any a' c' us _ hn' ((hu.on hHeld.2.2.below).up hHeld.2.2.base)).mono ?_; rintro e w4 ⟨g4, cur4, rfl, hg4, hB4, hsz4, hcur4, hb⟩; have HC4 := hide hcur4; clear hcur4; (first | have hB3' := hB3.on hb | have hB3' := (hB3.more _).on hb); have hz := hb.size; (try simp at hz); (first | (with_reducible have hx := Blk.on (Blk.drew (Blk.made _ _ #[.slice none 0 0])) hb) | (with_reducible have hx := Blk.on (Blk.made _ _ #[.slice none 0 0]) hb) | (with_reducible have hx := Blk.on (cs := #[.slice none 0 0]) (by assumption) hb) | skip); (try have kx := hx.one))
            try go_wp2_with fail
            refine hK.out _ _ (by exact ⟨((hHeld.2.2.on hb).nth 1 rfl).at 0, ((hHeld.2.2.on hb).nth 0 rfl).at 0, hHeld.2.2.on hb⟩) (fun hHeld => ?_)
            clear hK K
            refine take_one 4 (by kernel_rfl) rfl (fun K hK => ?_)
            go_simp
            (have hr := hHeld.2.2.room; (try simp at hr); refine (specPastJoin_any _ _ _ _ ts us _ hn hn' ?_ ?_).mono ?_; (first | exact Tg.of hB3' hB3'.inside HC3.out | exact Tg.of (hB3'.more _) (hB3'.more _).inside HC3.out); (first | exact Tg.of hB4 hB4.inside HC4.out | exact Tg.of (hB4.more _) (hB4.more _).inside HC4.out); rintro e w5 ⟨A5, cap5, rfl, hR5, hb⟩; have hz := hb.size; (try simp at hz); (first | (with_reducible have hx := Blk.on (Blk.drew (Blk.made _ _ #[.slice none 0 0])) hb) | (with_reducible have hx := Blk.on (Blk.made _ _ #[.slice none 0 0]) hb) | (with_reducible have hx := Blk.on (cs := #[.slice none 0 0]) (by assumption) hb) | skip); (try have kx := hx.one))
            try go_wp2_with fail
            refine hK.out _ _ (by exact ⟨((hHeld.2.2.on hb).nth 1 rfl).at 0, ((hHeld.2.2.on hb).nth 0 rfl).at 0, hHeld.2.2.on hb⟩) (fun hHeld => ?_)
            clear hK K
            refine take_one 6 (by kernel_rfl) rfl (fun K hK => ?_)
            go_simp
            refine hK.out _ _ (by first | exact ⟨((hHeld.2.2.swap (o := .cells #[.slice none 0 0] 33) (by first | omega | (simp <;> omega)) (by first | omega | (simp <;> omega))).nth 1 rfl).at 0, ((hHeld.2.2.swap (o := .cells #[.slice none 0 0] 33) (by first | omega | (simp <;> omega)) (by first | omega | (simp <;> omega))).nth 0 rfl).at 0, hHeld.2.2.swap (o := .cells #[.slice none 0 0] 33) (by first | omega | (simp <;> omega)) (by first | omega | (simp <;> omega))⟩ | exact ⟨((hHeld.2.2.set (by first | omega | (simp <;> omega)) (by first | omega | (simp <;> omega)) _).nth 1 rfl).at 0, ((hHeld.2.2.set (by first | omega | (simp <;> omega)) (by first | omega | (simp <;> omega)) _).nth 0 rfl).at 0, hHeld.2.2.set (by first | omega | (simp <;> omega)) (by first | omega | (simp <;> omega)) _⟩) (fun hHeld => ?_)
            clear hK K
            refine wpAnyH_done (by kernel_rfl) ?_ _
            refine NoPanic.normal ?_
            go_wp2_with fail
            go_meet
            first | exact ⟨_, A5, cap5, _, _, rfl, Blk.made _ _ _, hR5.alloc _, hHeld.2.2, (by first | omega | (simp <;> omega)), (by first | omega | (simp <;> omega)), (by first | omega | (simp <;> omega)), (by first | exact .inr (by first | omega | (simp <;> omega)) | exact .inl (by first | omega | (simp <;> omega)))⟩ | exact ⟨_, A5, cap5, _, _, rfl, hx.put 0 _, hR5.set (by first | exact .inl (by first | omega | (simp <;> omega)) | exact .inr (by first | omega | (simp <;> omega))) _, hHeld.2.2, (by first | omega | (simp <;> omega)), (by first | omega | (simp <;> omega)), (by first | omega | (simp [World.setCell] <;> omega)), (by first | exact .inl (by first | omega | (simp <;> omega)) | exact .inr (by first | omega | (simp <;> omega)))⟩
        · skip
          go_simp
          (have hr5 := hHeld.2.2.room; (try simp at hr5))
          try go_wp2_with fail
          refine hK.out _ _ (by exact ⟨((hHeld.2.2.alloc _).nth 1 rfl).at 0, ((hHeld.2.2.alloc _).nth 0 rfl).at 0, hHeld.2.2.alloc _⟩) (fun hHeld => ?_)
          clear hK K
          refine take_one 1 (by kernel_rfl) rfl (fun K hK => ?_)
          go_simp
          (have hr := hHeld.2.2.room; (try simp at hr); refine (toPast_any a c ts _ hn ((ht.on hHeld.2.2.below).up hHeld.2.2.base)).mono ?_; rintro e w3 ⟨g3, cur3, rfl, hg3, hB3, hsz3, hcur3, hb⟩; have HC3 := hide hcur3; clear hcur3; have hz := hb.size; (try simp at hz); (first | (with_reducible have hx := Blk.on (Blk.drew (Blk.made _ _ #[.slice none 0 0])) hb) | (with_reducible have hx := Blk.on (Blk.made _ _ #[.slice none 0 0]) hb) | (with_reducible have hx := Blk.on (cs := #[.slice none 0 0]) (by assumption) hb) | skip); (try have kx := hx.one))
          try go_wp2_with fail
          refine hK.out _ _ (by exact ⟨((hHeld.2.2.on hb).nth 1 rfl).at 0, ((hHeld.2.2.on hb).nth 0 rfl).at 0, hHeld.2.2.on hb⟩) (fun hHeld => ?_)
          clear hK K
          refine take_one 3 (by kernel_rfl) rfl (fun K hK => ?_)
          go_simp
          (have hr := hHeld.2.2.room; (try simp at hr); refine (toPast_any a' c' us _ hn' ((hu.on hHeld.2.2.below).up hHeld.2.2.base)).mono ?_; rintro e w4 ⟨g4, cur4, rfl, hg4, hB4, hsz4, hcur4, hb⟩; have HC4 := hide hcur4; clear hcur4; (first | have hB3' := hB3.on hb | have hB3' := (hB3.more _).on hb); have hz := hb.size; (try simp at hz); (first | (with_reducible have hx := Blk.on (Blk.drew (Blk.made _ _ #[.slice none 0 0])) hb) | (with_reducible have hx := Blk.on (Blk.made _ _ #[.slice none 0 0]) hb) | (with_reducible have hx := Blk.on (cs := #[.slice none 0 0]) (by assumption) hb) | skip); (try have kx := hx.one))
          try go_wp2_with fail
          refine hK.out _ _ (by exact ⟨((hHeld.2.2.on hb).nth 1 rfl).at 0, ((hHeld.2.2.on hb).nth 0 rfl).at 0, hHeld.2.2.on hb⟩) (fun hHeld => ?_)
          clear hK K
          refine take_one 4 (by kernel_rfl) rfl (fun K hK => ?_)
          go_simp
          (have hr := hHeld.2.2.room; (try simp at hr); refine (specPastJoin_any _ _ _ _ ts us _ hn hn' ?_ ?_).mono ?_; (first | exact Tg.of hB3' hB3'.inside HC3.out | exact Tg.of (hB3'.more _) (hB3'.more _).inside HC3.out); (first | exact Tg.of hB4 hB4.inside HC4.out | exact Tg.of (hB4.more _) (hB4.more _).inside HC4.out); rintro e w5 ⟨A5, cap5, rfl, hR5, hb⟩; have hz := hb.size; (try simp at hz); (first | (with_reducible have hx := Blk.on (Blk.drew (Blk.made _ _ #[.slice none 0 0])) hb) | (with_reducible have hx := Blk.on (Blk.made _ _ #[.slice none 0 0]) hb) | (with_reducible have hx := Blk.on (cs := #[.slice none 0 0]) (by assumption) hb) | skip); (try have kx := hx.one))
          try go_wp2_with fail
          refine hK.out _ _ (by exact ⟨((hHeld.2.2.on hb).nth 1 rfl).at 0, ((hHeld.2.2.on hb).nth 0 rfl).at 0, hHeld.2.2.on hb⟩) (fun hHeld => ?_)
          clear hK K
          refine take_one 6 (by kernel_rfl) rfl (fun K hK => ?_)
          go_simp
          refine hK.out _ _ (by first | exact ⟨((hHeld.2.2.swap (o := .cells #[.slice none 0 0] 33) (by first | omega | (simp <;> omega)) (by first | omega | (simp <;> omega))).nth 1 rfl).at 0, ((hHeld.2.2.swap (o := .cells #[.slice none 0 0] 33) (by first | omega | (simp <;> omega)) (by first | omega | (simp <;> omega))).nth 0 rfl).at 0, hHeld.2.2.swap (o := .cells #[.slice none 0 0] 33) (by first | omega | (simp <;> omega)) (by first | omega | (simp <;> omega))⟩ | exact ⟨((hHeld.2.2.set (by first | omega | (simp <;> omega)) (by first | omega | (simp <;> omega)) _).nth 1 rfl).at 0, ((hHeld.2.2.set (by first | omega | (simp <;> omega)) (by first | omega | (simp <;> omega)) _).nth 0 rfl).at 0, hHeld.2.2.set (by first | omega | (simp <;> omega)) (by first | omega | (simp <;> omega)) _⟩) (fun hHeld => ?_)
          clear hK K
          refine wpAnyH_done (by kernel_rfl) ?_ _
          refine NoPanic.normal ?_
          go_wp2_with fail
          go_meet
          first | exact ⟨_, A5, cap5, _, _, rfl, Blk.made _ _ _, hR5.alloc _, hHeld.2.2, (by first | omega | (simp <;> omega)), (by first | omega | (simp <;> omega)), (by first | omega | (simp <;> omega)), (by first | exact .inr (by first | omega | (simp <;> omega)) | exact .inl (by first | omega | (simp <;> omega)))⟩ | exact ⟨_, A5, cap5, _, _, rfl, hx.put 0 _, hR5.set (by first | exact .inl (by first | omega | (simp <;> omega)) | exact .inr (by first | omega | (simp <;> omega))) _, hHeld.2.2, (by first | omega | (simp <;> omega)), (by first | omega | (simp <;> omega)), (by first | omega | (simp [World.setCell] <;> omega)), (by first | exact .inl (by first | omega | (simp <;> omega)) | exact .inr (by first | omega | (simp <;> omega)))⟩
      case rest =>
      obtain ⟨p0, A0, cap0, B0, U0, rfl, hB0, R0, S3, hp0, hb0, hu0, hx0⟩ := hcut
      have S4 := (S3.add (by omega) hB0)
      have hi0 := hB0.inside
      clear S2 S3 hB0
      have k1 := (S4.nth 2 rfl).one.1
      have hn4 := joinL_len ts us
      go_wp2_with fail
      refine (toPast_any a c ts _ hn ((ht.on S4.below).up S4.base)).mono ?_
      rintro e w6 ⟨g6, cur6, rfl, hg6, hB6, hsz6, hcur6, hb6⟩
      have z6 := hb6.size
      have zz := S4.base
      have S5 := (((S4.on hb6).add (by omega) hB6)).box 33 #[.slice (some ⟨g6, 0, none⟩) ts.length ts.length]
      have R1 := (R0.on hb6).alloc (.cells #[.slice (some ⟨g6, 0, none⟩) ts.length ts.length] 33)
      have hi6 := hB6.inside
      have HC6 := hide hcur6
      have k2 := (S5.nth 3 rfl).one.1
      clear S4 R0 k1 hcur6 hb6 hB6
      go_wp2_with fail
      generalize hW6 : w6.alloc (.cells #[.slice (some ⟨g6, 0, none⟩) ts.length ts.length] 33) = W6 at S5 k2 R1 ⊢
      have zW6 : w6.heap.size + 1 = W6.heap.size := by rw [← hW6]; simp
      have ZW6 : w6.heap.size < W6.heap.size := by omega
      clear hW6 zW6
      refine (toPast_any a' c' us _ hn' ((hu.on S5.below).up S5.base)).mono ?_
      rintro e w7 ⟨g7, cur7, rfl, hg7, hB7, hsz7, hcur7, hb7⟩
      have z7 := hb7.size
      have zz5 := S5.base
      have S6 := (((S5.on hb7).add (by omega) hB7)).box 33 #[.slice (some ⟨g7, 0, none⟩) us.length us.length]
      have R2 := (R1.on hb7).alloc (.cells #[.slice (some ⟨g7, 0, none⟩) us.length us.length] 33)
      have hi7 := hB7.inside
      have HC7 := hide hcur7
      have k3 := (S6.nth 2 rfl).one.1
      clear S5 R1 k2 hcur7 hb7 hB7
      go_wp2_with fail
      generalize hW7 : w7.alloc (.cells #[.slice (some ⟨g7, 0, none⟩) us.length us.length] 33) = W7 at S6 k3 R2 ⊢
      have zW7 : w7.heap.size + 1 = W7.heap.size := by rw [← hW7]; simp
      have ZW7 : w7.heap.size < W7.heap.size := by omega
      clear hW7 zW7
      refine (implPastJoin_any _ _ _ _ ts us W7 hn hn' (Tg.of (S6.nth 3 rfl) (S6.nth 3 rfl).inside HC6.out) (Tg.of (S6.nth 1 rfl) (S6.nth 1 rfl).inside HC7.out)).mono ?_
      rintro e w9 ⟨A9, cap9, rfl, Q0, hb9⟩
      have z9 := hb9.size
      have S7 := ((S6.on hb9).top).box 33 #[.slice A9 (joinL ts us).length cap9]
      have R3 := (R2.on hb9).alloc (.cells #[.slice A9 (joinL ts us).length cap9] 33)
      have Q1 := Q0.alloc (.cells #[.slice A9 (joinL ts us).length cap9] 33)
      have k4 := (S7.nth 5 rfl).one.1
      clear S6 R2 k3 Q0 hb9
      go_wp2_with fail
      generalize hW9 : w9.alloc (.cells #[.slice A9 (joinL ts us).length cap9] 33) = W9 at S7 k4 R3 Q1 ⊢
      have zW9 : w9.heap.size + 1 = W9.heap.size := by rw [← hW9]; simp
      have ZW9 : w9.heap.size < W9.heap.size := by omega
      clear hW9 zW9
      refine (eqPast_any _ _ _ _ (joinL ts us) (joinL ts us) W9 (by omega) (by omega) Q1.tg R3.tg).mono ?_
      rintro e w10 ⟨rfl, hb10⟩
      rw [decide_eq_true rfl]
      have z10 := hb10.size
      have S8 := (S7.on hb10).top
      have R4 := R3.on hb10
      have Q2 := Q1.on hb10
      clear S7 R3 Q1 k4 hb10
      go_wp2_with fail
      refine wp_region_noPanic ?_
      refine wp_region_held_drew (S := (fun w' => w'.cell? ⟨w6.heap.size, 0, none⟩ = some (.slice (some ⟨g6, 0, none⟩) ts.length ts.length) ∧ w'.cell? ⟨w.heap.size, 0, none⟩ = some (.slice a ts.length c) ∧ Inv w w10.heap.size [(w9.heap.size, 33, #[.slice A9 (joinL ts us).length cap9]), (w7.heap.size, 33, #[.slice (some ⟨g7, 0, none⟩) us.length us.length]), (g7, 24, cur7), (w6.heap.size, 33, #[.slice (some ⟨g6, 0, none⟩) ts.length ts.length]), (g6, 24, cur6), (p0, 33, #[.slice A0 (joinL ts us).length cap0]), (w.heap.size + 1, 47, #[.slice a' us.length c']), (w.heap.size, 47, #[.slice a ts.length c])] w' ∧ Res w' B0 U0 A0 (joinL ts us) ∧ Res w' W7.heap.size w9.heap.size A9 (joinL ts us))) (by kernel_rfl) (by exact ⟨(S8.nth 3 rfl).at 0, (S8.nth 7 rfl).at 0, S8.drew, R4.drew, Q2.drew⟩) (fun hHeld => ?_)
      refine take_run 0 (some 40) (v := ?_) rfl rfl (by kernel_rfl) (by kernel_rfl) (by kernel_rfl) (fun _ _ _ h => h) (by rfl) ?_ hHeld ?_
      rotate_left
      · ((intro w hSw); (try dsimp only at hSw); go_simp <;> with_reducible rfl)
      simp only [Act.put, List.setIfInBounds_toArray, List.set_cons_zero, List.set_cons_succ]
      refine take_run 1 (some 41) (v := ?_) rfl rfl (by kernel_rfl) (by kernel_rfl) (by kernel_rfl) (fun _ _ _ h => h) (by rfl) ?_ hHeld ?_
      rotate_left
      · ((intro w hSw); (try dsimp only at hSw); go_simp <;> with_reducible rfl)
      simp only [Act.put, List.setIfInBounds_toArray, List.set_cons_zero, List.set_cons_succ]
      refine take_one 2 (by kernel_rfl) rfl (fun K hK => ?_)
      go_simp
      (refine (toPast_any a c ts _ hn ((ht.on hHeld.2.2.1.below).up hHeld.2.2.1.base)).mono ?_; rintro e wa ⟨ga, cura, rfl, hga, hBa, hsza, hcura, hb⟩; have HCa := hide hcura; clear hcura)
      try go_wp2_with fail
      refine hK.out _ _ (by exact ⟨((hHeld.2.2.1.on hb).nth 3 rfl).at 0, ((hHeld.2.2.1.on hb).nth 7 rfl).at 0, hHeld.2.2.1.on hb, hHeld.2.2.2.1.on hb, hHeld.2.2.2.2.on hb⟩) (fun hHeld => ?_)
      clear hK K
      refine take_one 3 (by kernel_rfl) rfl (fun K hK => ?_)
      go_simp
      (refine (eqPast_any _ _ _ _ ts ts _ hn hn (Tg.of (hHeld.2.2.1.nth 4 rfl) (hHeld.2.2.1.nth 4 rfl).inside HC6.out) (Tg.of hBa hBa.inside HCa.out)).mono ?_; rintro e wb ⟨rfl, hb⟩; rw [decide_eq_true rfl])
      try go_wp2_with fail
      refine hK.out _ _ (by exact ⟨((hHeld.2.2.1.on hb).nth 3 rfl).at 0, ((hHeld.2.2.1.on hb).nth 7 rfl).at 0, hHeld.2.2.1.on hb, hHeld.2.2.2.1.on hb, hHeld.2.2.2.2.on hb⟩) (fun hHeld => ?_)
      clear hK K
      refine take_run 4 (some 44) (v := ?_) rfl rfl (by kernel_rfl) (by kernel_rfl) (by kernel_rfl) (fun _ _ _ h => h) (by rfl) ?_ hHeld ?_
      rotate_left
      · ((intro w hSw); (try dsimp only at hSw); go_simp <;> with_reducible rfl)
      simp only [Act.put, List.setIfInBounds_toArray, List.set_cons_zero, List.set_cons_succ]
      refine wpAnyH_done (by kernel_rfl) ?_ _
      refine NoPanic.normal ?_
      have S9 := hHeld.2.2.1
      have R5 := hHeld.2.2.2.1
      have Q3 := hHeld.2.2.2.2
      clear hHeld S8 R4 Q2 hBa HCa
      go_wp2_with fail
      refine wp_region_noPanic ?_
      refine wp_region_held_drew (S := (fun w' => w'.cell? ⟨w7.heap.size, 0, none⟩ = some (.slice (some ⟨g7, 0, none⟩) us.length us.length) ∧ w'.cell? ⟨w.heap.size + 1, 0, none⟩ = some (.slice a' us.length c') ∧ Inv w w10.heap.size [(w9.heap.size, 33, #[.slice A9 (joinL ts us).length cap9]), (w7.heap.size, 33, #[.slice (some ⟨g7, 0, none⟩) us.length us.length]), (g7, 24, cur7), (w6.heap.size, 33, #[.slice (some ⟨g6, 0, none⟩) ts.length ts.length]), (g6, 24, cur6), (p0, 33, #[.slice A0 (joinL ts us).length cap0]), (w.heap.size + 1, 47, #[.slice a' us.length c']), (w.heap.size, 47, #[.slice a ts.length c])] w' ∧ Res w' B0 U0 A0 (joinL ts us) ∧ Res w' W7.heap.size w9.heap.size A9 (joinL ts us))) (by kernel_rfl) (by exact ⟨(S9.nth 1 rfl).at 0, (S9.nth 6 rfl).at 0, S9.drew, R5.drew, Q3.drew⟩) (fun hHeld => ?_)
      refine take_run 0 (some 45) (v := ?_) rfl rfl (by kernel_rfl) (by kernel_rfl) (by kernel_rfl) (fun _ _ _ h => h) (by rfl) ?_ hHeld ?_
      rotate_left
      · ((intro w hSw); (try dsimp only at hSw); go_simp <;> with_reducible rfl)
      simp only [Act.put, List.setIfInBounds_toArray, List.set_cons_zero, List.set_cons_succ]
      refine take_run 1 (some 46) (v := ?_) rfl rfl (by kernel_rfl) (by kernel_rfl) (by kernel_rfl) (fun _ _ _ h => h) (by rfl) ?_ hHeld ?_
      rotate_left
      · ((intro w hSw); (try dsimp only at hSw); go_simp <;> with_reducible rfl)
      simp only [Act.put, List.setIfInBounds_toArray, List.set_cons_zero, List.set_cons_succ]
      refine take_one 2 (by kernel_rfl) rfl (fun K hK => ?_)
      go_simp
      (refine (toPast_any a' c' us _ hn' ((hu.on hHeld.2.2.1.below).up hHeld.2.2.1.base)).mono ?_; rintro e wc1 ⟨ga, cura, rfl, hga, hBa, hsza, hcura, hb⟩; have HCa := hide hcura; clear hcura)
      try go_wp2_with fail
      refine hK.out _ _ (by exact ⟨((hHeld.2.2.1.on hb).nth 1 rfl).at 0, ((hHeld.2.2.1.on hb).nth 6 rfl).at 0, hHeld.2.2.1.on hb, hHeld.2.2.2.1.on hb, hHeld.2.2.2.2.on hb⟩) (fun hHeld => ?_)
      clear hK K
      refine take_one 3 (by kernel_rfl) rfl (fun K hK => ?_)
      go_simp
      (refine (eqPast_any _ _ _ _ us us _ hn' hn' (Tg.of (hHeld.2.2.1.nth 2 rfl) (hHeld.2.2.1.nth 2 rfl).inside HC7.out) (Tg.of hBa hBa.inside HCa.out)).mono ?_; rintro e wd ⟨rfl, hb⟩; rw [decide_eq_true rfl])
      try go_wp2_with fail
      refine hK.out _ _ (by exact ⟨((hHeld.2.2.1.on hb).nth 1 rfl).at 0, ((hHeld.2.2.1.on hb).nth 6 rfl).at 0, hHeld.2.2.1.on hb, hHeld.2.2.2.1.on hb, hHeld.2.2.2.2.on hb⟩) (fun hHeld => ?_)
      clear hK K
      refine take_run 4 (some 49) (v := ?_) rfl rfl (by kernel_rfl) (by kernel_rfl) (by kernel_rfl) (fun _ _ _ h => h) (by rfl) ?_ hHeld ?_
      rotate_left
      · ((intro w hSw); (try dsimp only at hSw); go_simp <;> with_reducible rfl)
      simp only [Act.put, List.setIfInBounds_toArray, List.set_cons_zero, List.set_cons_succ]
      refine wpAnyH_done (by kernel_rfl) ?_ _
      refine NoPanic.normal ?_
      have Sa := hHeld.2.2.1
      have R6 := hHeld.2.2.2.1
      have Q4 := hHeld.2.2.2.2
      clear hHeld S9 R5 Q3 hBa HCa
      have k5 := (Sa.nth 3 rfl).one.1
      go_wp2_with fail
      refine (markPast_any g6 ts.length ts.length 24 cur6 1 wd (Sa.nth 4 rfl) (by omega) hn (by omega) (by omega)).mono ?_
      rintro e we ⟨rfl, ⟨cure, hBe, hsze, hcure⟩, hGe⟩
      have Sb : Inv w w10.heap.size [(w9.heap.size, 33, #[.slice A9 (joinL ts us).length cap9]), (w7.heap.size, 33, #[.slice (some ⟨g7, 0, none⟩) us.length us.length]), (g7, 24, cur7), (w6.heap.size, 33, #[.slice (some ⟨g6, 0, none⟩) ts.length ts.length]), (g6, 24, cure), (p0, 33, #[.slice A0 (joinL ts us).length cap0]), (w.heap.size + 1, 47, #[.slice a' us.length c']), (w.heap.size, 47, #[.slice a ts.length c])] we := by
        refine Sa.turn hGe (by omega) (fun x hx => ?_)
        simp only [List.mem_cons, List.not_mem_nil, or_false] at hx
        rcases hx with rfl | rfl | rfl | rfl | rfl | rfl | rfl | rfl
        · exact .inl ⟨by simp, by simp; omega⟩
        · exact .inl ⟨by simp, by simp; omega⟩
        · exact .inl ⟨by simp, by simp; omega⟩
        · exact .inl ⟨by simp, by simp; omega⟩
        · exact .inr ⟨rfl, by omega, hBe⟩
        · exact .inl ⟨by simp, by simp; omega⟩
        · exact .inl ⟨by simp, by simp; omega⟩
        · exact .inl ⟨by simp, by simp; omega⟩
      have R7 := R6.keep hGe (fun g hg => by injection hg; omega)
      have Q5 := Q4.keep hGe (fun g hg => by injection hg; omega)
      clear Sa R6 Q4 k5 hcure hBe hGe
      have k6 := (Sb.nth 1 rfl).one.1
      have hbd : (1 : Int) + 2 * (ts.length : Int) ≤ 1000000000 := by omega
      go_wp2_with fail
      refine (markPast_any g7 us.length us.length 24 cur7 _ we (Sb.nth 2 rfl) (by omega) hn' (by omega) hbd).mono ?_
      rintro e wf ⟨rfl, ⟨curf, hBf, hszf, hcurf⟩, hGf⟩
      have Sc : Inv w w10.heap.size [(w9.heap.size, 33, #[.slice A9 (joinL ts us).length cap9]), (w7.heap.size, 33, #[.slice (some ⟨g7, 0, none⟩) us.length us.length]), (g7, 24, curf), (w6.heap.size, 33, #[.slice (some ⟨g6, 0, none⟩) ts.length ts.length]), (g6, 24, cure), (p0, 33, #[.slice A0 (joinL ts us).length cap0]), (w.heap.size + 1, 47, #[.slice a' us.length c']), (w.heap.size, 47, #[.slice a ts.length c])] wf := by
        refine Sb.turn hGf (by omega) (fun x hx => ?_)
        simp only [List.mem_cons, List.not_mem_nil, or_false] at hx
        rcases hx with rfl | rfl | rfl | rfl | rfl | rfl | rfl | rfl
        · exact .inl ⟨by simp, by simp; omega⟩
        · exact .inl ⟨by simp, by simp; omega⟩
        · exact .inr ⟨rfl, by omega, hBf⟩
        · exact .inl ⟨by simp, by simp; omega⟩
        · exact .inl ⟨by simp, by simp; omega⟩
        · exact .inl ⟨by simp, by simp; omega⟩
        · exact .inl ⟨by simp, by simp; omega⟩
        · exact .inl ⟨by simp, by simp; omega⟩
      have R8 := R7.keep hGf (fun g hg => by injection hg; omega)
      have Q6 := Q5.keep hGf (fun g hg => by injection hg; omega)
      have Sd : Inv w w10.heap.size [(w9.heap.size, 33, #[.slice A9 (joinL ts us).length cap9]), (p0, 33, #[.slice A0 (joinL ts us).length cap0]), (w.heap.size + 1, 47, #[.slice a' us.length c']), (w.heap.size, 47, #[.slice a ts.length c])] wf := Sc.sub (by simp)
      clear Sb Sc R7 Q5 k6 hcurf hBf hGf
      have k7 := (Sd.nth 0 rfl).one.1
      have k8 := (Sd.nth 1 rfl).one.1
      have hneg : ¬ ((1 : Int) + 2 * (ts.length : Int) + 2 * (us.length : Int) < 0) := by omega
      have hneg' : decide ((1 : Int) + 2 * (ts.length : Int) + 2 * (us.length : Int) < 0) = false := by simp; omega
      go_wp2_with fail
      refine (eqPast_any _ _ _ _ (joinL ts us) (joinL ts us) wf (by omega) (by omega) Q6.tg R8.tg).mono ?_
      rintro e wg ⟨rfl, hbg⟩
      rw [decide_eq_true rfl]
      have Se := Sd.on hbg
      have R9 := R8.on hbg
      have Q7 := Q6.on hbg
      have zg := hbg.size
      clear Sd R8 Q6 k7 k8 hbg
      have k9 := (Se.nth 0 rfl).one.1
      go_wp2_with fail
      refine (markRes_any A9 _ _ cap9 (joinL ts us) 1 wg Q7 (by omega) (by omega) (by omega)).mono ?_
      rintro e wh ⟨row, rfl, Q8, hGh, hrow⟩
      have Sf : Inv w w10.heap.size [(w9.heap.size, 33, #[.slice A9 (joinL ts us).length cap9]), (p0, 33, #[.slice A0 (joinL ts us).length cap0]), (w.heap.size + 1, 47, #[.slice a' us.length c']), (w.heap.size, 47, #[.slice a ts.length c])] wh := by
        refine Inv.part Se hGh (fun g hg => by have := hrow g hg; omega) (fun x hx g hg => ?_)
        have := hrow g hg
        simp only [List.mem_cons, List.not_mem_nil, or_false] at hx
        rcases hx with rfl | rfl | rfl | rfl
        · simp; omega
        · simp; omega
        · simp; omega
        · simp; omega
      have Ra := R9.keep hGh (fun g hg => by have := hrow g hg; omega)
      have zh := hGh.size
      clear Se R9 Q7 k9 hGh hrow hneg hneg'
      have ka := (Sf.nth 0 rfl).one.1
      have hmm : marksL 1 (joinL ts us).length = marksL 1 (joinL ts us).length := rfl
      clear hmm
      go_wp2_with fail
      refine (heldPast_any A9 cap9 (joinL ts us).length 1 wh (by omega) (by omega) (by omega) Q8.tg).mono ?_
      rintro e wi ⟨rfl, hbi⟩
      have Sg := Sf.on hbi
      have Rb := Ra.on hbi
      have Q9 := Q8.on hbi
      have zi := hbi.size
      clear Sf Ra Q8 ka hbi
      have hnn : ¬ ((1 : Int) + 2 * ((joinL ts us).length : Int) < 0) := by omega
      go_wp2_with fail
      have hroom := Sg.room
      have Sg' := Sg.top
      have zbase := Sg.base
      clear Sg hnn
      go_upto_region 31 with (fail)
      go_cut [13] (fun s wx => ∃ (p : Nat) (A : Option Addr) (cap B U : Nat), s = .pointer (some ⟨p, 0, none⟩) ∧ Blk wx p 33 #[.slice A (joinL ts us).length cap] ∧ Res wx B U A (joinL ts us) ∧ Inv w wi.heap.size [(w9.heap.size, 33, #[.slice A9 (joinL ts us).length cap9]), (p0, 33, #[.slice A0 (joinL ts us).length cap0]), (w.heap.size + 1, 47, #[.slice a' us.length c']), (w.heap.size, 47, #[.slice a ts.length c])] wx ∧ Res wx B0 U0 A0 (joinL ts us) ∧ Res wx W7.heap.size w9.heap.size A9 (marksL 1 (joinL ts us).length) ∧ wi.heap.size ≤ p ∧ wi.heap.size ≤ B ∧ U ≤ wx.heap.size ∧ (p < B ∨ U ≤ p))
      case first =>
        refine wp_region_noPanic ?_
        refine wp_region_held_drew (S := (fun w' => w'.cell? ⟨w.heap.size, 0, none⟩ = some (.slice a ts.length c) ∧ w'.cell? ⟨w.heap.size + 1, 0, none⟩ = some (.slice a' us.length c') ∧ Inv w wi.heap.size [(w9.heap.size, 33, #[.slice A9 (joinL ts us).length cap9]), (p0, 33, #[.slice A0 (joinL ts us).length cap0]), (w.heap.size + 1, 47, #[.slice a' us.length c']), (w.heap.size, 47, #[.slice a ts.length c])] w' ∧ Res w' B0 U0 A0 (joinL ts us) ∧ Res w' W7.heap.size w9.heap.size A9 (marksL 1 (joinL ts us).length))) (by kernel_rfl) (by exact ⟨((Sg'.drew).nth 3 rfl).at 0, ((Sg'.drew).nth 2 rfl).at 0, Sg'.drew, Rb.drew, Q9.drew⟩) (fun hHeld => ?_)
        refine take_run 0 (some 75) (v := ?_) rfl rfl (by kernel_rfl) (by kernel_rfl) (by kernel_rfl) (fun _ _ _ h => h) (by rfl) ?_ hHeld ?_
        rotate_left
        · ((intro w hSw); (try dsimp only at hSw); go_simp <;> with_reducible rfl)
        simp only [Act.put, List.setIfInBounds_toArray, List.set_cons_zero, List.set_cons_succ]
        refine take_run 2 (some 77) (v := ?_) rfl rfl (by kernel_rfl) (by kernel_rfl) (by kernel_rfl) (fun _ _ _ h => h) (by rfl) ?_ hHeld ?_
        rotate_left
        · ((intro w hSw); (try dsimp only at hSw); go_simp <;> with_reducible rfl)
        simp only [Act.put, List.setIfInBounds_toArray, List.set_cons_zero, List.set_cons_succ]
        refine wpAnyH_ready (rs := [1, 5]) (by kernel_rfl) (by simp) ?_
        refine AllReadyH.cons rfl (fun K hK => ?_) (AllReadyH.cons rfl (fun K hK => ?_) AllReadyH.nil)
        · skip
          go_simp
          (have hr := hHeld.2.2.1.room; (try simp at hr); refine (toPast_any a c ts _ hn ((ht.on hHeld.2.2.1.below).up hHeld.2.2.1.base)).mono ?_; rintro e w3 ⟨g3, cur3, rfl, hg3, hB3, hsz3, hcur3, hb⟩; have HC3 := hide hcur3; clear hcur3; have hz := hb.size; (try simp at hz); (first | (with_reducible have hx := Blk.on (Blk.drew (Blk.made _ _ #[.slice none 0 0])) hb) | (with_reducible have hx := Blk.on (Blk.made _ _ #[.slice none 0 0]) hb) | (with_reducible have hx := Blk.on (cs := #[.slice none 0 0]) (by assumption) hb) | skip); (try have kx := hx.one))
          try go_wp2_with fail
          refine hK.out _ _ (by exact ⟨((hHeld.2.2.1.on hb).nth 3 rfl).at 0, ((hHeld.2.2.1.on hb).nth 2 rfl).at 0, hHeld.2.2.1.on hb, (hHeld.2.2.2.1).on hb, (hHeld.2.2.2.2).on hb⟩) (fun hHeld => ?_)
          clear hK K
          refine wpAnyH_ready (rs := [3, 5]) (by kernel_rfl) (by simp) ?_
          refine AllReadyH.cons rfl (fun K hK => ?_) (AllReadyH.cons rfl (fun K hK => ?_) AllReadyH.nil)
          · skip
            go_simp
            (have hr := hHeld.2.2.1.room; (try simp at hr); refine (toPast_any a' c' us _ hn' ((hu.on hHeld.2.2.1.below).up hHeld.2.2.1.base)).mono ?_; rintro e w4 ⟨g4, cur4, rfl, hg4, hB4, hsz4, hcur4, hb⟩; have HC4 := hide hcur4; clear hcur4; (first | have hB3' := hB3.on hb | have hB3' := (hB3.more _).on hb); have hz := hb.size; (try simp at hz); (first | (with_reducible have hx := Blk.on (Blk.drew (Blk.made _ _ #[.slice none 0 0])) hb) | (with_reducible have hx := Blk.on (Blk.made _ _ #[.slice none 0 0]) hb) | (with_reducible have hx := Blk.on (cs := #[.slice none 0 0]) (by assumption) hb) | skip); (try have kx := hx.one))
            try go_wp2_with fail
            refine hK.out _ _ (by exact ⟨((hHeld.2.2.1.on hb).nth 3 rfl).at 0, ((hHeld.2.2.1.on hb).nth 2 rfl).at 0, hHeld.2.2.1.on hb, (hHeld.2.2.2.1).on hb, (hHeld.2.2.2.2).on hb⟩) (fun hHeld => ?_)
            clear hK K
            refine wpAnyH_ready (rs := [4, 5]) (by kernel_rfl) (by simp) ?_
            refine AllReadyH.cons rfl (fun K hK => ?_) (AllReadyH.cons rfl (fun K hK => ?_) AllReadyH.nil)
            · skip
              go_simp
              (have hr := hHeld.2.2.1.room; (try simp at hr); refine (implPastJoin_any _ _ _ _ ts us _ hn hn' ?_ ?_).mono ?_; (first | exact Tg.of hB3' hB3'.inside HC3.out | exact Tg.of (hB3'.more _) (hB3'.more _).inside HC3.out); (first | exact Tg.of hB4 hB4.inside HC4.out | exact Tg.of (hB4.more _) (hB4.more _).inside HC4.out); rintro e w5 ⟨A5, cap5, rfl, hR5, hb⟩; have hz := hb.size; (try simp at hz); (first | (with_reducible have hx := Blk.on (Blk.drew (Blk.made _ _ #[.slice none 0 0])) hb) | (with_reducible have hx := Blk.on (Blk.made _ _ #[.slice none 0 0]) hb) | (with_reducible have hx := Blk.on (cs := #[.slice none 0 0]) (by assumption) hb) | skip); (try have kx := hx.one))
              try go_wp2_with fail
              refine hK.out _ _ (by exact ⟨((hHeld.2.2.1.on hb).nth 3 rfl).at 0, ((hHeld.2.2.1.on hb).nth 2 rfl).at 0, hHeld.2.2.1.on hb, (hHeld.2.2.2.1).on hb, (hHeld.2.2.2.2).on hb⟩) (fun hHeld => ?_)
              clear hK K
              refine take_one 5 (by kernel_rfl) rfl (fun K hK => ?_)
              go_simp
              (have hr5 := hHeld.2.2.1.room; (try simp at hr5))
              try go_wp2_with fail
              refine hK.out _ _ (by exact ⟨((hHeld.2.2.1.alloc _).nth 3 rfl).at 0, ((hHeld.2.2.1.alloc _).nth 2 rfl).at 0, hHeld.2.2.1.alloc _, (hHeld.2.2.2.1).alloc _, (hHeld.2.2.2.2).alloc _⟩) (fun hHeld => ?_)
              clear hK K
              refine take_one 6 (by kernel_rfl) rfl (fun K hK => ?_)
              go_simp
              refine hK.out _ _ (by first | exact ⟨((hHeld.2.2.1.swap (o := .cells #[.slice none 0 0] 33) (by first | omega | (simp <;> omega)) (by first | omega | (simp <;> omega))).nth 3 rfl).at 0, ((hHeld.2.2.1.swap (o := .cells #[.slice none 0 0] 33) (by first | omega | (simp <;> omega)) (by first | omega | (simp <;> omega))).nth 2 rfl).at 0, hHeld.2.2.1.swap (o := .cells #[.slice none 0 0] 33) (by first | omega | (simp <;> omega)) (by first | omega | (simp <;> omega)), Res.swap (o := .cells #[.slice none 0 0] 33) (hHeld.2.2.2.1) (by first | omega | (simp <;> omega)), Res.swap (o := .cells #[.slice none 0 0] 33) (hHeld.2.2.2.2) (by first | omega | (simp <;> omega))⟩ | exact ⟨((hHeld.2.2.1.set (by first | omega | (simp <;> omega)) (by first | omega | (simp <;> omega)) _).nth 3 rfl).at 0, ((hHeld.2.2.1.set (by first | omega | (simp <;> omega)) (by first | omega | (simp <;> omega)) _).nth 2 rfl).at 0, hHeld.2.2.1.set (by first | omega | (simp <;> omega)) (by first | omega | (simp <;> omega)) _, (hHeld.2.2.2.1).set (.inr (by first | omega | (simp <;> omega))) _, (hHeld.2.2.2.2).set (.inr (by first | omega | (simp <;> omega))) _⟩) (fun hHeld => ?_)
              clear hK K
              refine wpAnyH_done (by kernel_rfl) ?_ _
              refine NoPanic.normal ?_
              go_wp2_with fail
              go_meet
              first | exact ⟨_, A5, cap5, _, _, rfl, Blk.made _ _ _, hR5.alloc _, hHeld.2.2.1, hHeld.2.2.2.1, hHeld.2.2.2.2, (by first | omega | (simp <;> omega)), (by first | omega | (simp <;> omega)), (by first | omega | (simp <;> omega)), (by first | exact .inr (by first | omega | (simp <;> omega)) | exact .inl (by first | omega | (simp <;> omega)))⟩ | exact ⟨_, A5, cap5, _, _, rfl, hx.put 0 _, hR5.set (by first | exact .inl (by first | omega | (simp <;> omega)) | exact .inr (by first | omega | (simp <;> omega))) _, hHeld.2.2.1, hHeld.2.2.2.1, hHeld.2.2.2.2, (by first | omega | (simp <;> omega)), (by first | omega | (simp <;> omega)), (by first | omega | (simp [World.setCell] <;> omega)), (by first | exact .inl (by first | omega | (simp <;> omega)) | exact .inr (by first | omega | (simp <;> omega)))⟩
            · skip
              go_simp
              (have hr5 := hHeld.2.2.1.room; (try simp at hr5))
              try go_wp2_with fail
              refine hK.out _ _ (by exact ⟨((hHeld.2.2.1.alloc _).nth 3 rfl).at 0, ((hHeld.2.2.1.alloc _).nth 2 rfl).at 0, hHeld.2.2.1.alloc _, (hHeld.2.2.2.1).alloc _, (hHeld.2.2.2.2).alloc _⟩) (fun hHeld => ?_)
              clear hK K
              refine take_one 4 (by kernel_rfl) rfl (fun K hK => ?_)
              go_simp
              (have hr := hHeld.2.2.1.room; (try simp at hr); refine (implPastJoin_any _ _ _ _ ts us _ hn hn' ?_ ?_).mono ?_; (first | exact Tg.of hB3' hB3'.inside HC3.out | exact Tg.of (hB3'.more _) (hB3'.more _).inside HC3.out); (first | exact Tg.of hB4 hB4.inside HC4.out | exact Tg.of (hB4.more _) (hB4.more _).inside HC4.out); rintro e w5 ⟨A5, cap5, rfl, hR5, hb⟩; have hz := hb.size; (try simp at hz); (first | (with_reducible have hx := Blk.on (Blk.drew (Blk.made _ _ #[.slice none 0 0])) hb) | (with_reducible have hx := Blk.on (Blk.made _ _ #[.slice none 0 0]) hb) | (with_reducible have hx := Blk.on (cs := #[.slice none 0 0]) (by assumption) hb) | skip); (try have kx := hx.one))
              try go_wp2_with fail
              refine hK.out _ _ (by exact ⟨((hHeld.2.2.1.on hb).nth 3 rfl).at 0, ((hHeld.2.2.1.on hb).nth 2 rfl).at 0, hHeld.2.2.1.on hb, (hHeld.2.2.2.1).on hb, (hHeld.2.2.2.2).on hb⟩) (fun hHeld => ?_)
              clear hK K
              refine take_one 6 (by kernel_rfl) rfl (fun K hK => ?_)
              go_simp
              refine hK.out _ _ (by first | exact ⟨((hHeld.2.2.1.swap (o := .cells #[.slice none 0 0] 33) (by first | omega | (simp <;> omega)) (by first | omega | (simp <;> omega))).nth 3 rfl).at 0, ((hHeld.2.2.1.swap (o := .cells #[.slice none 0 0] 33) (by first | omega | (simp <;> omega)) (by first | omega | (simp <;> omega))).nth 2 rfl).at 0, hHeld.2.2.1.swap (o := .cells #[.slice none 0 0] 33) (by first | omega | (simp <;> omega)) (by first | omega | (simp <;> omega)), Res.swap (o := .cells #[.slice none 0 0] 33) (hHeld.2.2.2.1) (by first | omega | (simp <;> omega)), Res.swap (o := .cells #[.slice none 0 0] 33) (hHeld.2.2.2.2) (by first | omega | (simp <;> omega))⟩ | exact ⟨((hHeld.2.2.1.set (by first | omega | (simp <;> omega)) (by first | omega | (simp <;> omega)) _).nth 3 rfl).at 0, ((hHeld.2.2.1.set (by first | omega | (simp <;> omega)) (by first | omega | (simp <;> omega)) _).nth 2 rfl).at 0, hHeld.2.2.1.set (by first | omega | (simp <;> omega)) (by first | omega | (simp <;> omega)) _, (hHeld.2.2.2.1).set (.inr (by first | omega | (simp <;> omega))) _, (hHeld.2.2.2.2).set (.inr (by first | omega | (simp <;> omega))) _⟩) (fun hHeld => ?_)
              clear hK K
              refine wpAnyH_done (by kernel_rfl) ?_ _
              refine NoPanic.normal ?_
              go_wp2_with fail
              go_meet
              first | exact ⟨_, A5, cap5, _, _, rfl, Blk.made _ _ _, hR5.alloc _, hHeld.2.2.1, hHeld.2.2.2.1, hHeld.2.2.2.2, (by first | omega | (simp <;> omega)), (by first | omega | (simp <;> omega)), (by first | omega | (simp <;> omega)), (by first | exact .inr (by first | omega | (simp <;> omega)) | exact .inl (by first | omega | (simp <;> omega)))⟩ | exact ⟨_, A5, cap5, _, _, rfl, hx.put 0 _, hR5.set (by first | exact .inl (by first | omega | (simp <;> omega)) | exact .inr (by first | omega | (simp <;> omega))) _, hHeld.2.2.1, hHeld.2.2.2.1, hHeld.2.2.2.2, (by first | omega | (simp <;> omega)), (by first | omega | (simp <;> omega)), (by first | omega | (simp [World.setCell] <;> omega)), (by first | exact .inl (by first | omega | (simp <;> omega)) | exact .inr (by first | omega | (simp <;> omega)))⟩
          · skip
            go_simp
            (have hr5 := hHeld.2.2.1.room; (try simp at hr5))
            try go_wp2_with fail
            refine hK.out _ _ (by exact ⟨((hHeld.2.2.1.alloc _).nth 3 rfl).at 0, ((hHeld.2.2.1.alloc _).nth 2 rfl).at 0, hHeld.2.2.1.alloc _, (hHeld.2.2.2.1).alloc _, (hHeld.2.2.2.2).alloc _⟩) (fun hHeld => ?_)
            clear hK K
            refine take_one 3 (by kernel_rfl) rfl (fun K hK => ?_)
            go_simp
            (have hr := hHeld.2.2.1.room; (try simp at hr); refine (toPast_any a' c' us _ hn' ((hu.on hHeld.2.2.1.below).up hHeld.2.2.1.base)).mono ?_; rintro e w4 ⟨g4, cur4, rfl, hg4, hB4, hsz4, hcur4, hb⟩; have HC4 := hide hcur4; clear hcur4; (first | have hB3' := hB3.on hb | have hB3' := (hB3.more _).on hb); have hz := hb.size; (try simp at hz); (first | (with_reducible have hx := Blk.on (Blk.drew (Blk.made _ _ #[.slice none 0 0])) hb) | (with_reducible have hx := Blk.on (Blk.made _ _ #[.slice none 0 0]) hb) | (with_reducible have hx := Blk.on (cs := #[.slice none 0 0]) (by assumption) hb) | skip); (try have kx := hx.one))
            try go_wp2_with fail
            refine hK.out _ _ (by exact ⟨((hHeld.2.2.1.on hb).nth 3 rfl).at 0, ((hHeld.2.2.1.on hb).nth 2 rfl).at 0, hHeld.2.2.1.on hb, (hHeld.2.2.2.1).on hb, (hHeld.2.2.2.2).on hb⟩) (fun hHeld => ?_)
            clear hK K
            refine take_one 4 (by kernel_rfl) rfl (fun K hK => ?_)
            go_simp
            (have hr := hHeld.2.2.1.room; (try simp at hr); refine (implPastJoin_any _ _ _ _ ts us _ hn hn' ?_ ?_).mono ?_; (first | exact Tg.of hB3' hB3'.inside HC3.out | exact Tg.of (hB3'.more _) (hB3'.more _).inside HC3.out); (first | exact Tg.of hB4 hB4.inside HC4.out | exact Tg.of (hB4.more _) (hB4.more _).inside HC4.out); rintro e w5 ⟨A5, cap5, rfl, hR5, hb⟩; have hz := hb.size; (try simp at hz); (first | (with_reducible have hx := Blk.on (Blk.drew (Blk.made _ _ #[.slice none 0 0])) hb) | (with_reducible have hx := Blk.on (Blk.made _ _ #[.slice none 0 0]) hb) | (with_reducible have hx := Blk.on (cs := #[.slice none 0 0]) (by assumption) hb) | skip); (try have kx := hx.one))
            try go_wp2_with fail
            refine hK.out _ _ (by exact ⟨((hHeld.2.2.1.on hb).nth 3 rfl).at 0, ((hHeld.2.2.1.on hb).nth 2 rfl).at 0, hHeld.2.2.1.on hb, (hHeld.2.2.2.1).on hb, (hHeld.2.2.2.2).on hb⟩) (fun hHeld => ?_)
            clear hK K
            refine take_one 6 (by kernel_rfl) rfl (fun K hK => ?_)
            go_simp
            refine hK.out _ _ (by first | exact ⟨((hHeld.2.2.1.swap (o := .cells #[.slice none 0 0] 33) (by first | omega | (simp <;> omega)) (by first | omega | (simp <;> omega))).nth 3 rfl).at 0, ((hHeld.2.2.1.swap (o := .cells #[.slice none 0 0] 33) (by first | omega | (simp <;> omega)) (by first | omega | (simp <;> omega))).nth 2 rfl).at 0, hHeld.2.2.1.swap (o := .cells #[.slice none 0 0] 33) (by first | omega | (simp <;> omega)) (by first | omega | (simp <;> omega)), Res.swap (o := .cells #[.slice none 0 0] 33) (hHeld.2.2.2.1) (by first | omega | (simp <;> omega)), Res.swap (o := .cells #[.slice none 0 0] 33) (hHeld.2.2.2.2) (by first | omega | (simp <;> omega))⟩ | exact ⟨((hHeld.2.2.1.set (by first | omega | (simp <;> omega)) (by first | omega | (simp <;> omega)) _).nth 3 rfl).at 0, ((hHeld.2.2.1.set (by first | omega | (simp <;> omega)) (by first | omega | (simp <;> omega)) _).nth 2 rfl).at 0, hHeld.2.2.1.set (by first | omega | (simp <;> omega)) (by first | omega | (simp <;> omega)) _, (hHeld.2.2.2.1).set (.inr (by first | omega | (simp <;> omega))) _, (hHeld.2.2.2.2).set (.inr (by first | omega | (simp <;> omega))) _⟩) (fun hHeld => ?_)
            clear hK K
            refine wpAnyH_done (by kernel_rfl) ?_ _
            refine NoPanic.normal ?_
            go_wp2_with fail
            go_meet
            first | exact ⟨_, A5, cap5, _, _, rfl, Blk.made _ _ _, hR5.alloc _, hHeld.2.2.1, hHeld.2.2.2.1, hHeld.2.2.2.2, (by first | omega | (simp <;> omega)), (by first | omega | (simp <;> omega)), (by first | omega | (simp <;> omega)), (by first | exact .inr (by first | omega | (simp <;> omega)) | exact .inl (by first | omega | (simp <;> omega)))⟩ | exact ⟨_, A5, cap5, _, _, rfl, hx.put 0 _, hR5.set (by first | exact .inl (by first | omega | (simp <;> omega)) | exact .inr (by first | omega | (simp <;> omega))) _, hHeld.2.2.1, hHeld.2.2.2.1, hHeld.2.2.2.2, (by first | omega | (simp <;> omega)), (by first | omega | (simp <;> omega)), (by first | omega | (simp [World.setCell] <;> omega)), (by first | exact .inl (by first | omega | (simp <;> omega)) | exact .inr (by first | omega | (simp <;> omega)))⟩
        · skip
          go_simp
          (have hr5 := hHeld.2.2.1.room; (try simp at hr5))
          try go_wp2_with fail
          refine hK.out _ _ (by exact ⟨((hHeld.2.2.1.alloc _).nth 3 rfl).at 0, ((hHeld.2.2.1.alloc _).nth 2 rfl).at 0, hHeld.2.2.1.alloc _, (hHeld.2.2.2.1).alloc _, (hHeld.2.2.2.2).alloc _⟩) (fun hHeld => ?_)
          clear hK K
          refine take_one 1 (by kernel_rfl) rfl (fun K hK => ?_)
          go_simp
          (have hr := hHeld.2.2.1.room; (try simp at hr); refine (toPast_any a c ts _ hn ((ht.on hHeld.2.2.1.below).up hHeld.2.2.1.base)).mono ?_; rintro e w3 ⟨g3, cur3, rfl, hg3, hB3, hsz3, hcur3, hb⟩; have HC3 := hide hcur3; clear hcur3; have hz := hb.size; (try simp at hz); (first | (with_reducible have hx := Blk.on (Blk.drew (Blk.made _ _ #[.slice none 0 0])) hb) | (with_reducible have hx := Blk.on (Blk.made _ _ #[.slice none 0 0]) hb) | (with_reducible have hx := Blk.on (cs := #[.slice none 0 0]) (by assumption) hb) | skip); (try have kx := hx.one))
          try go_wp2_with fail
          refine hK.out _ _ (by exact ⟨((hHeld.2.2.1.on hb).nth 3 rfl).at 0, ((hHeld.2.2.1.on hb).nth 2 rfl).at 0, hHeld.2.2.1.on hb, (hHeld.2.2.2.1).on hb, (hHeld.2.2.2.2).on hb⟩) (fun hHeld => ?_)
          clear hK K
          refine take_one 3 (by kernel_rfl) rfl (fun K hK => ?_)
          go_simp
          (have hr := hHeld.2.2.1.room; (try simp at hr); refine (toPast_any a' c' us _ hn' ((hu.on hHeld.2.2.1.below).up hHeld.2.2.1.base)).mono ?_; rintro e w4 ⟨g4, cur4, rfl, hg4, hB4, hsz4, hcur4, hb⟩; have HC4 := hide hcur4; clear hcur4; (first | have hB3' := hB3.on hb | have hB3' := (hB3.more _).on hb); have hz := hb.size; (try simp at hz); (first | (with_reducible have hx := Blk.on (Blk.drew (Blk.made _ _ #[.slice none 0 0])) hb) | (with_reducible have hx := Blk.on (Blk.made _ _ #[.slice none 0 0]) hb) | (with_reducible have hx := Blk.on (cs := #[.slice none 0 0]) (by assumption) hb) | skip); (try have kx := hx.one))
          try go_wp2_with fail
          refine hK.out _ _ (by exact ⟨((hHeld.2.2.1.on hb).nth 3 rfl).at 0, ((hHeld.2.2.1.on hb).nth 2 rfl).at 0, hHeld.2.2.1.on hb, (hHeld.2.2.2.1).on hb, (hHeld.2.2.2.2).on hb⟩) (fun hHeld => ?_)
          clear hK K
          refine take_one 4 (by kernel_rfl) rfl (fun K hK => ?_)
          go_simp
          (have hr := hHeld.2.2.1.room; (try simp at hr); refine (implPastJoin_any _ _ _ _ ts us _ hn hn' ?_ ?_).mono ?_; (first | exact Tg.of hB3' hB3'.inside HC3.out | exact Tg.of (hB3'.more _) (hB3'.more _).inside HC3.out); (first | exact Tg.of hB4 hB4.inside HC4.out | exact Tg.of (hB4.more _) (hB4.more _).inside HC4.out); rintro e w5 ⟨A5, cap5, rfl, hR5, hb⟩; have hz := hb.size; (try simp at hz); (first | (with_reducible have hx := Blk.on (Blk.drew (Blk.made _ _ #[.slice none 0 0])) hb) | (with_reducible have hx := Blk.on (Blk.made _ _ #[.slice none 0 0]) hb) | (with_reducible have hx := Blk.on (cs := #[.slice none 0 0]) (by assumption) hb) | skip); (try have kx := hx.one))
          try go_wp2_with fail
          refine hK.out _ _ (by exact ⟨((hHeld.2.2.1.on hb).nth 3 rfl).at 0, ((hHeld.2.2.1.on hb).nth 2 rfl).at 0, hHeld.2.2.1.on hb, (hHeld.2.2.2.1).on hb, (hHeld.2.2.2.2).on hb⟩) (fun hHeld => ?_)
          clear hK K
          refine take_one 6 (by kernel_rfl) rfl (fun K hK => ?_)
          go_simp
          refine hK.out _ _ (by first | exact ⟨((hHeld.2.2.1.swap (o := .cells #[.slice none 0 0] 33) (by first | omega | (simp <;> omega)) (by first | omega | (simp <;> omega))).nth 3 rfl).at 0, ((hHeld.2.2.1.swap (o := .cells #[.slice none 0 0] 33) (by first | omega | (simp <;> omega)) (by first | omega | (simp <;> omega))).nth 2 rfl).at 0, hHeld.2.2.1.swap (o := .cells #[.slice none 0 0] 33) (by first | omega | (simp <;> omega)) (by first | omega | (simp <;> omega)), Res.swap (o := .cells #[.slice none 0 0] 33) (hHeld.2.2.2.1) (by first | omega | (simp <;> omega)), Res.swap (o := .cells #[.slice none 0 0] 33) (hHeld.2.2.2.2) (by first | omega | (simp <;> omega))⟩ | exact ⟨((hHeld.2.2.1.set (by first | omega | (simp <;> omega)) (by first | omega | (simp <;> omega)) _).nth 3 rfl).at 0, ((hHeld.2.2.1.set (by first | omega | (simp <;> omega)) (by first | omega | (simp <;> omega)) _).nth 2 rfl).at 0, hHeld.2.2.1.set (by first | omega | (simp <;> omega)) (by first | omega | (simp <;> omega)) _, (hHeld.2.2.2.1).set (.inr (by first | omega | (simp <;> omega))) _, (hHeld.2.2.2.2).set (.inr (by first | omega | (simp <;> omega))) _⟩) (fun hHeld => ?_)
          clear hK K
          refine wpAnyH_done (by kernel_rfl) ?_ _
          refine NoPanic.normal ?_
          go_wp2_with fail
          go_meet
          first | exact ⟨_, A5, cap5, _, _, rfl, Blk.made _ _ _, hR5.alloc _, hHeld.2.2.1, hHeld.2.2.2.1, hHeld.2.2.2.2, (by first | omega | (simp <;> omega)), (by first | omega | (simp <;> omega)), (by first | omega | (simp <;> omega)), (by first | exact .inr (by first | omega | (simp <;> omega)) | exact .inl (by first | omega | (simp <;> omega)))⟩ | exact ⟨_, A5, cap5, _, _, rfl, hx.put 0 _, hR5.set (by first | exact .inl (by first | omega | (simp <;> omega)) | exact .inr (by first | omega | (simp <;> omega))) _, hHeld.2.2.1, hHeld.2.2.2.1, hHeld.2.2.2.2, (by first | omega | (simp <;> omega)), (by first | omega | (simp <;> omega)), (by first | omega | (simp [World.setCell] <;> omega)), (by first | exact .inl (by first | omega | (simp <;> omega)) | exact .inr (by first | omega | (simp <;> omega)))⟩
      case rest =>
      obtain ⟨p1, A1, cap1, B1, U1, rfl, hB1, T1, Sh, Rc, Qa, hp1, hb1, hu1, hx1⟩ := hcut
      have Si := Sh.add (by omega) hB1
      clear Sh hB1 Sg' Rb Q9
      have kb := (Si.nth 0 rfl).one.1
      have kc := (Si.nth 2 rfl).one.1
      go_wp2_with fail
      refine (eqPast_any _ _ _ _ (joinL ts us) (joinL ts us) _ (by omega) (by omega) T1.tg Rc.tg).mono ?_
      rintro e wk ⟨rfl, hbk⟩
      rw [decide_eq_true rfl]
      have Sj := Si.on hbk
      have Qb := Qa.on hbk
      clear Si Qa Rc T1 kb kc hbk
      have kd := (Sj.nth 1 rfl).one.1
      go_wp2_with fail
      refine (heldPast_any A9 cap9 (joinL ts us).length 1 wk (by omega) (by omega) (by omega) Qb.tg).mono ?_
      rintro e wl ⟨rfl, hbl⟩
      have Sk := Sj.on hbl
      clear Sj Qb kd hbl
      go_wp2
      go_ret
      exact ⟨rfl, Sk.below⟩
    · refine (szPast_not a' us.length c' _ _ (by omega) (by omega) hl' (by omega)).mono ?_
      rintro e w2 ⟨rfl, hb2⟩
      have S2 := S1.on hb2
      clear S1 k1
      go_wp2
      go_ret
      exact ⟨rfl, S2.below⟩
  · go_enter Try.func12, Try.ntmps12
    go_wp2_with fail
    refine (szPast_not a ts.length c 1048576 _ (by omega) (by omega) hl (by omega)).mono ?_
    rintro e w1 ⟨rfl, hb1⟩
    have S1 := S0.on hb1
    clear S0
    go_wp2
    go_ret
    exact ⟨rfl, S1.below⟩

set_option maxRecDepth 100000 in
theorem lifted (os : Os) (started : os.Started) (H : Type) (enc : TypeId × Value → H) :
    ReturnsInHanded {} Try.checked os 12 .any (Rows.fnExactPastJoinSpec.pre6 enc Try.prog Try.f12 Rows.fnExactPastJoinRow.domain false) (Rows.fnExactPastJoinSpec.post enc Try.prog Try.f12 false true false false) := by
  refine returnsInHanded_of_change (C := Try.checked) own started (by kernel_rfl) Try.func12
    (ChangeSpec.witness6 (enc := enc) (C := Try.checked) false ⟨#[], #[.agg #[.slice none 0 0], .agg #[.slice none 0 0]], []⟩ 8 (by kernel_rfl) (by kernel_rfl) (by kernel_rfl) (by kernel_rfl)) ?_
  intro W base args ds gs before hval0 hW hcnd _
  have hval : ∀ (j : Nat) t v, Try.f12.params[j]? = some t → args[j]? = some v → Value.okWide Try.prog W .any base t v := hval0
  have hW' := hW
  obtain ⟨p, q, hA0, hV, rfl, hfz, hnd⟩ := hW
  have hA : DataW.TrodAll enc Try.prog W 0 (fun _ => true) true Try.f12.params.toList args.toList ds p := hA0
  rw [Try.params12] at hA hval
  have hK := hA
  obtain ⟨v0, vs0, d0, ds0, p0, q0, hargs, rfl, rfl, h0, r0⟩ := trodAll_cons hA
  obtain ⟨v1, vs1, d1, ds1, p1, q1, rfl, rfl, rfl, h1, r1⟩ := trodAll_cons r0
  obtain ⟨rfl, rfl, rfl⟩ := trodAll_nil r1
  obtain rfl : args = #[v0, v1] := by cases args; simp_all
  obtain ⟨rfl, rfl⟩ := trodVars_none hV
  obtain ⟨a0, cap0, z0, rfl, b0⟩ := read_past (hval 0 47 v0 rfl rfl) h0
  obtain ⟨a1, cap1, z1, rfl, b1⟩ := read_past (hval 1 47 v1 rfl rfl) h1
  clear hA0 hval0
  refine (walk a0 cap0 z0 a1 cap1 z1 W b0.1 b0.2 b1.1 b1.2).mono fun e W' ⟨he, hb⟩ => ?_
  subst he
  have hK' := stay_all hb (by intro t ht; simp only [List.mem_cons, List.not_mem_nil, or_false] at ht; rcases ht with rfl | rfl <;> exact ⟨by kernel_rfl, of_decide_eq_true (by kernel_rfl)⟩) hK
  exact ⟨_, rfl, _, _, _, [], _, [], hW', trodAll_mk1 (shut_bool Try.underlying4 _), hK', rfl, hb.frame _, fun h => by cases h⟩

theorem over : Rows.fnExactPastJoinRow.holds Try.pinned (OpenSpec.ofChange Rows.fnExactPastJoinSpec) :=
  OpenClaim.holds_of_wide 12 Try.f12 rfl rfl rfl rfl rfl rfl rfl ⟨rfl, rfl, rfl, rfl, rfl⟩ rfl rfl rfl rfl rfl (by kernel_rfl) Try.func12
    (by refine joined_of ?_; kernel_rfl) (of_decide_eq_true (by kernel_rfl)) (by unfold Func.isWrapper; first | (rw [if_pos (by decide +kernel)]; kernel_rfl) | (rw [if_neg (by decide +kernel)]; exact ⟨rfl, rfl⟩))
    (fun os started H enc _ => lifted os started H enc)
end Go.Proofs.Ytnblnafajlnofaa.LawPastJoin
namespace Go.Proofs.Ytnblnafajlnofaa
/-- The statement itself. -/
theorem fnExactPastJoin_holds : Rows.FnExactPastJoinSaid := LawPastJoin.over
#print axioms fnExactPastJoin_holds
end Go.Proofs.Ytnblnafajlnofaa
namespace Go.Proofs.Ytnblnafajlnofaa.LawPastJoin
end Go.Proofs.Ytnblnafajlnofaa.LawPastJoin
