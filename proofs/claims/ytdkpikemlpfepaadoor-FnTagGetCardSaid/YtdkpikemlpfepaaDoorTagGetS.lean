/- Contract of the model's TagGet. Condition: at most 1048576 letters. -/
import Derived.Test.YtdkpikemlpfepaaDoorTagCutS
namespace Go.Proofs.YtdkpikemlpfepaaDoor
open Go.RowKit Go.Joins
attribute [local go_sem ↓] Go.wp_at_zero Go.wp_at_succ

theorem cut_tag {s p q : ByteArray} {n1 n2 t u : Int} (h : CutM s.data.toList [p, q]) (h1 : NumM p.data.toList n1) (h2 : NumM q.data.toList n2) (hok : okB t u = true) (hs : s = tagS t.toNat u.toNat) : n1 = t ∧ n2 = u := by
  obtain ⟨a, b, rfl, rfl, ha, hb⟩ := okB_low hok
  simp only [Int.toNat_natCast] at hs
  have hl := h.two (Lib.decDigits a) (Lib.decDigits b) (dot_digits a) (dot_digits b) (by rw [hs, tagS_list])
  injection hl with e1 e2
  injection e2 with e2 _
  exact ⟨h1.2.2 a ha e1, h2.2.2 b (by omega) e2⟩
theorem getR_cut {s p q : ByteArray} {n1 n2 : Int} (h : CutM s.data.toList [p, q]) (h1 : NumM p.data.toList n1) (h2 : NumM q.data.toList n2) :
    (okB n1 n2 = true → tagS n1.toNat n2.toNat = s → GetR s n1 n2 true) ∧ (okB n1 n2 = false → GetR s 0 0 false) ∧ (tagS n1.toNat n2.toNat ≠ s → GetR s 0 0 false) := by
  refine ⟨fun e1 e2 => .inl ⟨rfl, e1, e2.symm⟩, fun e1 => .inr ⟨rfl, rfl, rfl, fun t u hok hs => ?_⟩, fun e1 => .inr ⟨rfl, rfl, rfl, fun t u hok hs => ?_⟩⟩
  · obtain ⟨rfl, rfl⟩ := cut_tag h h1 h2 hok hs
    rw [hok] at e1
    cases e1
  · obtain ⟨rfl, rfl⟩ := cut_tag h h1 h2 hok hs
    exact e1 hs.symm
theorem getR_few {s : ByteArray} {ps : List ByteArray} (h : CutM s.data.toList ps) (hl : ps.length ≠ 2) : GetR s 0 0 false := .inr ⟨rfl, rfl, rfl, fun t u hok hs => by
  obtain ⟨a, b, rfl, rfl, ha, hb⟩ := okB_low hok
  simp only [Int.toNat_natCast] at hs
  have hm := congrArg List.length (h.two (Lib.decDigits a) (Lib.decDigits b) (dot_digits a) (dot_digits b) (by rw [hs, tagS_list]))
  simp at hm
  exact hl hm⟩
theorem row_two {w : World} {B g cap : Nat} {T : TypeId} {p q : ByteArray} (h : w.ownsRow B T 1 (.slice (some ⟨g, 0, none⟩) 2 cap) 2 [.string p, .string q]) : g < w.heap.size ∧ w.cell? ⟨g, 0, none⟩ = some (.string p) ∧ w.cell? ⟨g, 1, none⟩ = some (.string q) := by
  rcases h.2 with ⟨h, _⟩ | ⟨g', cap', cur, h, _, hb, _, _, hs, ht⟩
  · cases h
  · injection h with h1 h2 h3
    injection h1 with h1
    injection h1 with h1
    subst h1
    have hb' : Blk w g T cur := hb
    have a0 : (cur.toList.take (2 * 1))[0]? = some (.string p) := by rw [ht]; rfl
    have a1 : (cur.toList.take (2 * 1))[1]? = some (.string q) := by rw [ht]; rfl
    rw [List.getElem?_take_of_lt (by omega)] at a0 a1
    exact ⟨hb'.inside, (hb'.at 0).trans (by simpa using a0), (hb'.at 1).trans (by simpa using a1)⟩
theorem name_world {B : Nat} {w1 W : World} (_ : Below B w1 W) : ∃ W', W' = W := ⟨_, rfl⟩
set_option maxRecDepth 100000 in
set_option maxHeartbeats 4000000 in
theorem specTagGet_any (s : ByteArray) (hs : s.size ≤ 1048576) (w : World) :
    Calls Tryd.prog 14 #[.string s] w fun e w' => ∃ t u ok, e = .returned (.tuple #[.agg #[.int .i64 t, .int .i64 u], .bool ok]) ∧ GetR s t u ok ∧ Below w.heap.size w w' := by
  have S0 := (Inv.start w).box 24 #[.int .i64 0, .int .i64 0]
  simp only [World.size_alloc] at S0
  go_enter Tryd.func14, Tryd.ntmps14
  go_wp2_with fail
  refine (l1Cut_any s hs _).mono ?_
  rintro e w1 ⟨g, cap, ps, rfl, hO, hC, hb1⟩
  have S1 := S0.on hb1
  clear S0 hb1
  by_cases hl : ps.length = 2
  · obtain ⟨p, q, rfl⟩ : ∃ p q, ps = [p, q] := by
      match ps, hl with
      | [p, q], _ => exact ⟨p, q, rfl⟩
    obtain ⟨hg, c0, c1⟩ := row_two hO
    have zp := hC.size p (by simp)
    have zq := hC.size q (by simp)
    have HC := hide hC
    have hlen : ([p, q] : List ByteArray).length = 2 := rfl
    clear hO hC hl
    rw [hlen]
    go_wp2_with fail
    have jh : ∀ {W : World}, Below w1.heap.size w1 W → (W.cell? ⟨g, 0, none⟩ = some (.string p) ∧ W.cell? ⟨g, 1, none⟩ = some (.string q)) ∧ Below w1.heap.size w1 W := fun hb => ⟨⟨(hb.cell (p := ⟨g, 0, none⟩) hg).trans c0, (hb.cell (p := ⟨g, 1, none⟩) hg).trans c1⟩, hb⟩
    refine wp_region_noPanic ?_
    refine wp_region_held_drew (S := (fun w' => (w'.cell? ⟨g, 0, none⟩ = some (.string p) ∧ w'.cell? ⟨g, 1, none⟩ = some (.string q)) ∧ Below w1.heap.size w1 w')) (by kernel_rfl) (by exact jh (Below.refl _ _).drew) (fun hHeld => ?_)
    refine take_run 0 (some 12) (v := ?_) rfl rfl (by kernel_rfl) (by kernel_rfl) (by kernel_rfl) (fun _ _ _ h => h) (by rfl) ?_ hHeld ?_
    rotate_left
    · ((intro w hSw); (try dsimp only at hSw); go_simp <;> with_reducible rfl)
    simp only [Act.put, List.setIfInBounds_toArray, List.set_cons_zero, List.set_cons_succ]
    refine take_run 1 (some 13) (v := ?_) rfl rfl (by kernel_rfl) (by kernel_rfl) (by kernel_rfl) (fun _ _ _ h => h) (by rfl) ?_ hHeld ?_
    rotate_left
    · ((intro w hSw); (try dsimp only at hSw); go_simp <;> with_reducible rfl)
    simp only [Act.put, List.setIfInBounds_toArray, List.set_cons_zero, List.set_cons_succ]
    refine take_run 2 (some 14) (v := ?_) rfl rfl (by kernel_rfl) (by kernel_rfl) (by kernel_rfl) (fun _ _ _ h => h) (by rfl) ?_ hHeld ?_
    rotate_left
    · ((intro w hSw); (try dsimp only at hSw); go_simp <;> with_reducible rfl)
    simp only [Act.put, List.setIfInBounds_toArray, List.set_cons_zero, List.set_cons_succ]
    refine take_run 4 (some 16) (v := ?_) rfl rfl (by kernel_rfl) (by kernel_rfl) (by kernel_rfl) (fun _ _ _ h => h) (by rfl) ?_ hHeld ?_
    rotate_left
    · ((intro w hSw); (try dsimp only at hSw); go_simp <;> with_reducible rfl)
    simp only [Act.put, List.setIfInBounds_toArray, List.set_cons_zero, List.set_cons_succ]
    refine take_run 5 (some 17) (v := ?_) rfl rfl (by kernel_rfl) (by kernel_rfl) (by kernel_rfl) (fun _ _ _ h => h) (by rfl) ?_ hHeld ?_
    rotate_left
    · ((intro w hSw); (try dsimp only at hSw); go_simp <;> with_reducible rfl)
    simp only [Act.put, List.setIfInBounds_toArray, List.set_cons_zero, List.set_cons_succ]
    refine take_run 6 (some 18) (v := ?_) rfl rfl (by kernel_rfl) (by kernel_rfl) (by kernel_rfl) (fun _ _ _ h => h) (by rfl) ?_ hHeld ?_
    rotate_left
    · ((intro w hSw); (try dsimp only at hSw); go_simp <;> with_reducible rfl)
    simp only [Act.put, List.setIfInBounds_toArray, List.set_cons_zero, List.set_cons_succ]
    refine wpAnyH_ready (rs := [3, 9]) (by kernel_rfl) (by simp) ?_
    refine AllReadyH.cons rfl (fun K hK => ?_) (AllReadyH.cons rfl (fun K hK => ?_) AllReadyH.nil)
    · skip
      go_simp
      ((with_reducible refine (l1Num_any p zp _).mono ?_); rintro e w2 ⟨⟨n1, rfl, h1⟩, rfl⟩; have H1 := hide h1; clear h1)
      try go_wp2_with fail
      refine hK.out _ _ (by exact hHeld) (fun hHeld => ?_)
      clear hK K
      refine wpAnyH_ready (rs := [7, 9]) (by kernel_rfl) (by simp) ?_
      refine AllReadyH.cons rfl (fun K hK => ?_) (AllReadyH.cons rfl (fun K hK => ?_) AllReadyH.nil)
      · skip
        go_simp
        ((with_reducible refine (l1Num_any q zq _).mono ?_); rintro e w3 ⟨⟨n2, rfl, h2⟩, rfl⟩; have H2 := hide h2; clear h2)
        try go_wp2_with fail
        refine hK.out _ _ (by exact hHeld) (fun hHeld => ?_)
        clear hK K
        refine take_run 8 (some 20) (v := ?_) rfl rfl (by kernel_rfl) (by kernel_rfl) (by kernel_rfl) (fun _ _ _ h => h) (by rfl) ?_ hHeld ?_
        rotate_left
        · ((intro w hSw); (try dsimp only at hSw); go_simp <;> with_reducible rfl)
        simp only [Act.put, List.setIfInBounds_toArray, List.set_cons_zero, List.set_cons_succ]
        refine take_one 9 (by kernel_rfl) rfl (fun K hK => ?_)
        go_simp
        refine hK.out _ _ (by exact jh (hHeld.2.trans ((below_alloc1 _ _).mono hHeld.2.size))) (fun hHeld => ?_)
        clear hK K
        refine take_one 10 (by kernel_rfl) rfl (fun K hK => ?_)
        go_simp
        refine hK.out _ _ (by exact jh (below_alloc1 w1 _).drew) (fun hHeld => ?_)
        clear hK K
        refine wpAnyH_done (by kernel_rfl) ?_ _
        refine NoPanic.normal ?_
        have S9 := (S1.top.box 24 #[.int .i64 n1, .int .i64 n2]).drew
        have HG := hide (getR_cut HC.out H1.out H2.out)
        clear hHeld jh c0 c1 H1 H2
        generalize (w1.alloc (.cells #[.int .i64 n1, .int .i64 n2] 24)).drew = W9 at S9 ⊢
        have q0 := (S9.nth 0 rfl).two
        cases hok : okB n1 n2
        · have HOK := hide hok
          have HZ := hide (HG.out.2.1 hok)
          clear hok
          go_wp2_with fail
          refine (l1TagOk_any n1 n2 _).mono ?_
          rw [HOK.out]
          rintro e w4 ⟨rfl, hb4⟩
          have S10 := S9.on hb4
          have q1 := (S10.nth 1 rfl).two
          clear S9 q0 hb4
          go_wp2
          refine bodyPost_ret (v := .tuple #[.agg #[.int .i64 0, .int .i64 0], .bool false]) (by simp [results, Tryd.results14, go_sem, q1]) rfl ?_
          exact ⟨0, 0, false, rfl, HZ.out, (S10.below.setCell (by simp) _).setCell (by simp) _⟩
        · obtain ⟨a, b, rfl, rfl, ha, hb⟩ := okB_low hok
          have HOK := hide hok
          simp only [Int.toNat_natCast] at HG
          clear hok
          go_wp2_with fail
          refine (l1TagOk_any (a : Int) (b : Int) _).mono ?_
          rw [HOK.out]
          rintro e w4 ⟨rfl, hb4⟩
          have S10 := S9.on hb4
          have q1 := (S10.nth 0 rfl).two
          clear S9 q0 hb4
          go_wp2_with fail
          refine (l1Put_any a b (by omega) (by omega) _).mono ?_
          rintro e w5 ⟨rfl, hb5⟩
          have S11 := S10.on hb5
          have q2 := (S11.nth 1 rfl).two
          have q3 := (S11.nth 0 rfl).two
          clear S10 q1 hb5
          by_cases he : tagS a b = s
          · have HZ := hide (HG.out.1 HOK.out he)
            rw [he]
            clear HG he
            go_wp2
            refine bodyPost_ret (v := .tuple #[.agg #[.int .i64 (a : Int), .int .i64 (b : Int)], .bool true]) (by simp [results, Tryd.results14, go_sem, q2]) rfl ?_
            exact ⟨_, _, true, rfl, HZ.out, (S11.below.setCell (by simp) _).setCell (by simp) _⟩
          · have HZ := hide (HG.out.2.2 he)
            have hq : ((tagS a b).toList == s.toList) = false := (txt_same _ _).trans (decide_eq_false he)
            clear HG he
            go_wp2
            refine bodyPost_ret (v := .tuple #[.agg #[.int .i64 0, .int .i64 0], .bool false]) (by simp [results, Tryd.results14, go_sem, q2]) rfl ?_
            exact ⟨0, 0, false, rfl, HZ.out, (S11.below.setCell (by simp) _).setCell (by simp) _⟩
      · skip
        go_simp
        refine hK.out _ _ (by exact jh (hHeld.2.trans ((below_alloc1 _ _).mono hHeld.2.size))) (fun hHeld => ?_)
        clear hK K
        refine take_one 7 (by kernel_rfl) rfl (fun K hK => ?_)
        go_simp
        ((with_reducible refine (l1Num_any q zq _).mono ?_); rintro e w3 ⟨⟨n2, rfl, h2⟩, rfl⟩; have H2 := hide h2; clear h2)
        try go_wp2_with fail
        refine hK.out _ _ (by exact hHeld) (fun hHeld => ?_)
        clear hK K
        refine take_run 8 (some 20) (v := ?_) rfl rfl (by kernel_rfl) (by kernel_rfl) (by kernel_rfl) (fun _ _ _ h => h) (by rfl) ?_ hHeld ?_
        rotate_left
        · ((intro w hSw); (try dsimp only at hSw); go_simp <;> with_reducible rfl)
        simp only [Act.put, List.setIfInBounds_toArray, List.set_cons_zero, List.set_cons_succ]
        refine take_one 10 (by kernel_rfl) rfl (fun K hK => ?_)
        go_simp
        refine hK.out _ _ (by exact jh (below_alloc1 w1 _).drew) (fun hHeld => ?_)
        clear hK K
        refine wpAnyH_done (by kernel_rfl) ?_ _
        refine NoPanic.normal ?_
        have S9 := (S1.top.box 24 #[.int .i64 n1, .int .i64 n2]).drew
        have HG := hide (getR_cut HC.out H1.out H2.out)
        clear hHeld jh c0 c1 H1 H2
        generalize (w1.alloc (.cells #[.int .i64 n1, .int .i64 n2] 24)).drew = W9 at S9 ⊢
        have q0 := (S9.nth 0 rfl).two
        cases hok : okB n1 n2
        · have HOK := hide hok
          have HZ := hide (HG.out.2.1 hok)
          clear hok
          go_wp2_with fail
          refine (l1TagOk_any n1 n2 _).mono ?_
          rw [HOK.out]
          rintro e w4 ⟨rfl, hb4⟩
          have S10 := S9.on hb4
          have q1 := (S10.nth 1 rfl).two
          clear S9 q0 hb4
          go_wp2
          refine bodyPost_ret (v := .tuple #[.agg #[.int .i64 0, .int .i64 0], .bool false]) (by simp [results, Tryd.results14, go_sem, q1]) rfl ?_
          exact ⟨0, 0, false, rfl, HZ.out, (S10.below.setCell (by simp) _).setCell (by simp) _⟩
        · obtain ⟨a, b, rfl, rfl, ha, hb⟩ := okB_low hok
          have HOK := hide hok
          simp only [Int.toNat_natCast] at HG
          clear hok
          go_wp2_with fail
          refine (l1TagOk_any (a : Int) (b : Int) _).mono ?_
          rw [HOK.out]
          rintro e w4 ⟨rfl, hb4⟩
          have S10 := S9.on hb4
          have q1 := (S10.nth 0 rfl).two
          clear S9 q0 hb4
          go_wp2_with fail
          refine (l1Put_any a b (by omega) (by omega) _).mono ?_
          rintro e w5 ⟨rfl, hb5⟩
          have S11 := S10.on hb5
          have q2 := (S11.nth 1 rfl).two
          have q3 := (S11.nth 0 rfl).two
          clear S10 q1 hb5
          by_cases he : tagS a b = s
          · have HZ := hide (HG.out.1 HOK.out he)
            rw [he]
            clear HG he
            go_wp2
            refine bodyPost_ret (v := .tuple #[.agg #[.int .i64 (a : Int), .int .i64 (b : Int)], .bool true]) (by simp [results, Tryd.results14, go_sem, q2]) rfl ?_
            exact ⟨_, _, true, rfl, HZ.out, (S11.below.setCell (by simp) _).setCell (by simp) _⟩
          · have HZ := hide (HG.out.2.2 he)
            have hq : ((tagS a b).toList == s.toList) = false := (txt_same _ _).trans (decide_eq_false he)
            clear HG he
            go_wp2
            refine bodyPost_ret (v := .tuple #[.agg #[.int .i64 0, .int .i64 0], .bool false]) (by simp [results, Tryd.results14, go_sem, q2]) rfl ?_
            exact ⟨0, 0, false, rfl, HZ.out, (S11.below.setCell (by simp) _).setCell (by simp) _⟩
    · skip
      go_simp
      refine hK.out _ _ (by exact jh (hHeld.2.trans ((below_alloc1 _ _).mono hHeld.2.size))) (fun hHeld => ?_)
      clear hK K
      refine take_one 3 (by kernel_rfl) rfl (fun K hK => ?_)
      go_simp
      ((with_reducible refine (l1Num_any p zp _).mono ?_); rintro e w2 ⟨⟨n1, rfl, h1⟩, rfl⟩; have H1 := hide h1; clear h1)
      try go_wp2_with fail
      refine hK.out _ _ (by exact hHeld) (fun hHeld => ?_)
      clear hK K
      refine take_one 7 (by kernel_rfl) rfl (fun K hK => ?_)
      go_simp
      ((with_reducible refine (l1Num_any q zq _).mono ?_); rintro e w3 ⟨⟨n2, rfl, h2⟩, rfl⟩; have H2 := hide h2; clear h2)
      try go_wp2_with fail
      refine hK.out _ _ (by exact hHeld) (fun hHeld => ?_)
      clear hK K
      refine take_run 8 (some 20) (v := ?_) rfl rfl (by kernel_rfl) (by kernel_rfl) (by kernel_rfl) (fun _ _ _ h => h) (by rfl) ?_ hHeld ?_
      rotate_left
      · ((intro w hSw); (try dsimp only at hSw); go_simp <;> with_reducible rfl)
      simp only [Act.put, List.setIfInBounds_toArray, List.set_cons_zero, List.set_cons_succ]
      refine take_one 10 (by kernel_rfl) rfl (fun K hK => ?_)
      go_simp
      refine hK.out _ _ (by exact jh (below_alloc1 w1 _).drew) (fun hHeld => ?_)
      clear hK K
      refine wpAnyH_done (by kernel_rfl) ?_ _
      refine NoPanic.normal ?_
      have S9 := (S1.top.box 24 #[.int .i64 n1, .int .i64 n2]).drew
      have HG := hide (getR_cut HC.out H1.out H2.out)
      clear hHeld jh c0 c1 H1 H2
      generalize (w1.alloc (.cells #[.int .i64 n1, .int .i64 n2] 24)).drew = W9 at S9 ⊢
      have q0 := (S9.nth 0 rfl).two
      cases hok : okB n1 n2
      · have HOK := hide hok
        have HZ := hide (HG.out.2.1 hok)
        clear hok
        go_wp2_with fail
        refine (l1TagOk_any n1 n2 _).mono ?_
        rw [HOK.out]
        rintro e w4 ⟨rfl, hb4⟩
        have S10 := S9.on hb4
        have q1 := (S10.nth 1 rfl).two
        clear S9 q0 hb4
        go_wp2
        refine bodyPost_ret (v := .tuple #[.agg #[.int .i64 0, .int .i64 0], .bool false]) (by simp [results, Tryd.results14, go_sem, q1]) rfl ?_
        exact ⟨0, 0, false, rfl, HZ.out, (S10.below.setCell (by simp) _).setCell (by simp) _⟩
      · obtain ⟨a, b, rfl, rfl, ha, hb⟩ := okB_low hok
        have HOK := hide hok
        simp only [Int.toNat_natCast] at HG
        clear hok
        go_wp2_with fail
        refine (l1TagOk_any (a : Int) (b : Int) _).mono ?_
        rw [HOK.out]
        rintro e w4 ⟨rfl, hb4⟩
        have S10 := S9.on hb4
        have q1 := (S10.nth 0 rfl).two
        clear S9 q0 hb4
        go_wp2_with fail
        refine (l1Put_any a b (by omega) (by omega) _).mono ?_
        rintro e w5 ⟨rfl, hb5⟩
        have S11 := S10.on hb5
        have q2 := (S11.nth 1 rfl).two
        have q3 := (S11.nth 0 rfl).two
        clear S10 q1 hb5
        by_cases he : tagS a b = s
        · have HZ := hide (HG.out.1 HOK.out he)
          rw [he]
          clear HG he
          go_wp2
          refine bodyPost_ret (v := .tuple #[.agg #[.int .i64 (a : Int), .int .i64 (b : Int)], .bool true]) (by simp [results, Tryd.results14, go_sem, q2]) rfl ?_
          exact ⟨_, _, true, rfl, HZ.out, (S11.below.setCell (by simp) _).setCell (by simp) _⟩
        · have HZ := hide (HG.out.2.2 he)
          have hq : ((tagS a b).toList == s.toList) = false := (txt_same _ _).trans (decide_eq_false he)
          clear HG he
          go_wp2
          refine bodyPost_ret (v := .tuple #[.agg #[.int .i64 0, .int .i64 0], .bool false]) (by simp [results, Tryd.results14, go_sem, q2]) rfl ?_
          exact ⟨0, 0, false, rfl, HZ.out, (S11.below.setCell (by simp) _).setCell (by simp) _⟩
  · have HG := hide (getR_few hC hl)
    have hl' : ¬ ((ps.length : Int) = 2) := by omega
    have q1 := (S1.nth 0 rfl).two
    clear hO hC hl
    go_wp2
    refine bodyPost_ret (v := .tuple #[.agg #[.int .i64 0, .int .i64 0], .bool false]) (by simp [results, Tryd.results14, go_sem, q1]) rfl ?_
    exact ⟨0, 0, false, rfl, HG.out, (S1.below.setCell (by simp) _).setCell (by simp) _⟩
end Go.Proofs.YtdkpikemlpfepaaDoor
