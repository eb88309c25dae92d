/- Contract of the program's function that says whether a version is valid. Condition: at most 1048576 tags. -/
import Derived.Test.YtnaggcdhimcilaaGreatJVerOk0
namespace Go.Proofs.YtnaggcdhimcilaaGreat
open Go.RowKit Go.Joins

theorem textB_empty {s : ByteArray} (h : s.toList.isEmpty = true) : textB s = true := by
  have h0 : s.size = 0 := by
    have := (toList_nil_iff_emptyBytes s).1 (List.isEmpty_iff.1 h)
    rw [this]
    rfl
  exact textB_ok (by omega) (fun i hi => absurd hi (by omega))
theorem okB_zero {t u : Int} (h : okB t u = true) : 0 ≤ t := by
  have := of_decide_eq_true h
  omega
theorem verB_late {k t u : Int} {ts : List (Int × Int)} {s : ByteArray} {g : Bool} (ho : okB t u = true) (h : ¬ lastT ts < t) : verB k t u ts s g = false := by
  apply verB_f
  by_cases h0 : t = 0
  · exact .inr (.inr (.inr (.inl h0)))
  · refine .inr (.inr (.inr (.inr (.inr (.inr ?_)))))
    apply Classical.byContradiction
    intro hn
    have hall : ∀ x ∈ ts, x.1 < t := fun x hx => Classical.byContradiction fun hc => hn ⟨x, hx, hc⟩
    exact h (lastT_lt.2 ⟨by have := okB_zero ho; omega, hall⟩)

set_option maxRecDepth 100000 in
set_option maxHeartbeats 1000000 in
theorem contentOf_false (s : ByteArray) (w : World) :
    Calls Tryz.prog 152 #[.string s, .bool false] w fun e w' => e = .returned (.iface 197 (.agg #[.string s])) ∧ w = w' := by
  go_enter Tryz.func152, Tryz.ntmps152
  go_wp2
  go_ret
  exact ⟨rfl, rfl⟩
set_option maxRecDepth 100000 in
set_option maxHeartbeats 1000000 in
theorem contentOf_true (s : ByteArray) (w : World) :
    Calls Tryz.prog 152 #[.string s, .bool true] w fun e w' => e = .returned (.iface 196 (.agg #[.string s])) ∧ w = w' := by
  go_enter Tryz.func152, Tryz.ntmps152
  go_wp2
  go_ret
  exact ⟨rfl, rfl⟩

set_option maxRecDepth 100000 in
set_option maxHeartbeats 4000000 in
theorem implVerOk_any (k t u : Int) (a : Option Addr) (c : Nat) (ts : List (Int × Int)) (s : ByteArray) (g : Bool) (w : World) (hn : ts.length ≤ 1048576) (hs : s.size ≤ 9223372036854775807) (ht : Tg w w.heap.size a ts) :
    Calls Tryz.prog 132 #[.agg (verC k t u a ts.length c s g)] w fun e w' => e = .returned (.bool (verB k t u ts s g)) ∧ Below w.heap.size w w' := by
  have S0 := (Inv.start w).box 96 (verC k t u a ts.length c s g)
  simp only [World.size_alloc] at S0
  by_cases hk : 0 ≤ k ∧ k ≤ 3
  · obtain ⟨q1, q2⟩ := hk
    have q3 : ¬ k < 0 := by omega
    have q4 : ¬ k ≥ 4 := by omega
    cases g
    · have hm : ∀ W : World, (method 326 197 (.agg #[.string s]) "loop.example/confluence/impl.ok").run Tryz.prog W = .ok (201, .agg #[.string s]) W := fun _ => by kernel_rfl
      go_enter Tryz.func132, Tryz.ntmps132
      go_wp2_with fail
      refine (contentOf_false s _).mono ?_
      rintro e w1 ⟨rfl, rfl⟩
      go_wp2_with fail
      refine (valueOk_any s _ hs).mono ?_
      rintro e w2 ⟨rfl, hb2⟩
      have S1 := S0.on hb2
      clear S0 hb2
      cases htx : textB s
      · have hf := hide (verB_f (k := k) (t := t) (u := u) (ts := ts) (s := s) (g := false) (.inr (.inl htx)))
        go_wp2
        go_ret
        exact ⟨ret_bool hf.out.symm, S1.below⟩
      · have HT := hide htx
        cases hok : okB t u
        · have hf := hide (verB_f (k := k) (t := t) (u := u) (ts := ts) (s := s) (g := false) (.inr (.inr (.inl hok))))
          go_wp2_with fail
          refine wp_region_noPanic ?_
          refine wp_region_held_drew (S := (fun w' => w'.cell? ⟨w.heap.size, 1, none⟩ = some (.int .i64 t) ∧ w'.cell? ⟨w.heap.size, 2, none⟩ = some (.int .i64 u) ∧ w'.cell? ⟨w.heap.size, 3, none⟩ = some (.slice a ts.length c) ∧ Inv w (w.heap.size + 1) [(w.heap.size, 96, verC k t u a ts.length c s false)] w')) (by kernel_rfl) (by exact ⟨(S1.nth 0 rfl).at 1, (S1.nth 0 rfl).at 2, (S1.nth 0 rfl).at 3, S1.drew⟩) (fun hHeld => ?_)
          refine mvR 0 (some 20) hHeld ?_
          refine mvR 1 (some 21) hHeld ?_
          refine take_one 2 (by kernel_rfl) rfl (fun K hK => ?_)
          go_simp
          (refine (implTagOk_any _ _ _).mono ?_; rintro e w5 ⟨rfl, hb⟩)
          try go_wp2_with fail
          refine hK.out _ _ (by exact ⟨((hHeld.2.2.2.on hb).nth 0 rfl).at 1, ((hHeld.2.2.2.on hb).nth 0 rfl).at 2, ((hHeld.2.2.2.on hb).nth 0 rfl).at 3, hHeld.2.2.2.on hb⟩) (fun hHeld => ?_)
          clear hK K
          refine mvR 3 (some 23) hHeld ?_
          refine mvS 4 (some 24) hHeld ?_
          refine mvS 5 (some 25) hHeld ?_
          refine mvS 6 (some 26) hHeld ?_
          refine mvR 7 (some 27) hHeld ?_
          refine mvR 8 (some 28) hHeld ?_
          refine mvS 9 (some 29) hHeld ?_
          refine mvS 10 (some 30) hHeld ?_
          refine mvS 11 (some 31) hHeld ?_
          refine mvS 12 (some 32) hHeld ?_
          refine mvS 13 (some 33) hHeld ?_
          refine mvS 14 (some 34) hHeld ?_
          refine mvS 15 (some 35) hHeld ?_
          refine mvS 16 (some 36) hHeld ?_
          refine mvR 17 (some 37) hHeld ?_
          refine mvR 18 (some 2) hHeld ?_
          refine wpAnyH_done (by kernel_rfl) ?_ _
          refine NoPanic.normal ?_
          have S2 := hHeld.2.2.2
          clear hHeld
          go_wp2
          go_ret
          exact ⟨ret_bool hf.out.symm, S2.below⟩
        · have HO := hide hok
          cases hpa : pastB ts
          · have hf := hide (verB_f (k := k) (t := t) (u := u) (ts := ts) (s := s) (g := false) (.inr (.inr (.inr (.inr (.inr (.inl hpa)))))))
            go_wp2_with fail
            refine wp_region_noPanic ?_
            refine wp_region_held_drew (S := (fun w' => w'.cell? ⟨w.heap.size, 1, none⟩ = some (.int .i64 t) ∧ w'.cell? ⟨w.heap.size, 2, none⟩ = some (.int .i64 u) ∧ w'.cell? ⟨w.heap.size, 3, none⟩ = some (.slice a ts.length c) ∧ Inv w (w.heap.size + 1) [(w.heap.size, 96, verC k t u a ts.length c s false)] w')) (by kernel_rfl) (by exact ⟨(S1.nth 0 rfl).at 1, (S1.nth 0 rfl).at 2, (S1.nth 0 rfl).at 3, S1.drew⟩) (fun hHeld => ?_)
            refine mvR 0 (some 20) hHeld ?_
            refine mvR 1 (some 21) hHeld ?_
            refine take_one 2 (by kernel_rfl) rfl (fun K hK => ?_)
            go_simp
            (refine (implTagOk_any _ _ _).mono ?_; rintro e w5 ⟨rfl, hb⟩)
            try go_wp2_with fail
            refine hK.out _ _ (by exact ⟨((hHeld.2.2.2.on hb).nth 0 rfl).at 1, ((hHeld.2.2.2.on hb).nth 0 rfl).at 2, ((hHeld.2.2.2.on hb).nth 0 rfl).at 3, hHeld.2.2.2.on hb⟩) (fun hHeld => ?_)
            clear hK K
            refine mvR 3 (some 23) hHeld ?_
            refine mvR 4 (some 24) hHeld ?_
            refine mvR 5 (some 25) hHeld ?_
            refine take_one 6 (by kernel_rfl) rfl (fun K hK => ?_)
            go_simp
            (refine (implPastOk_any a c ts _ hn ((ht.on hHeld.2.2.2.below).up hHeld.2.2.2.base)).mono ?_; rintro e w6 ⟨rfl, hb⟩)
            try go_wp2_with fail
            refine hK.out _ _ (by exact ⟨((hHeld.2.2.2.on hb).nth 0 rfl).at 1, ((hHeld.2.2.2.on hb).nth 0 rfl).at 2, ((hHeld.2.2.2.on hb).nth 0 rfl).at 3, hHeld.2.2.2.on hb⟩) (fun hHeld => ?_)
            clear hK K
            refine mvR 7 (some 27) hHeld ?_
            refine mvR 8 (some 28) hHeld ?_
            refine mvS 9 (some 29) hHeld ?_
            refine mvS 10 (some 30) hHeld ?_
            refine mvS 11 (some 31) hHeld ?_
            refine mvS 12 (some 32) hHeld ?_
            refine mvS 13 (some 33) hHeld ?_
            refine mvS 14 (some 34) hHeld ?_
            refine mvS 15 (some 35) hHeld ?_
            refine mvS 16 (some 36) hHeld ?_
            refine mvR 17 (some 37) hHeld ?_
            refine mvR 18 (some 2) hHeld ?_
            refine wpAnyH_done (by kernel_rfl) ?_ _
            refine NoPanic.normal ?_
            have S2 := hHeld.2.2.2
            clear hHeld
            go_wp2
            go_ret
            exact ⟨ret_bool hf.out.symm, S2.below⟩
          · have HP := hide hpa
            by_cases hl : lastT ts < t
            · have hf := hide (verB_t (g := false) ⟨q1, q2⟩ (HT.out) HO.out (show ¬ t = 0 by have := (lastT_lt.1 hl).1; omega) (fun h => by cases h) HP.out (lastT_lt.1 hl).2)
              go_wp2_with fail
              refine wp_region_noPanic ?_
              refine wp_region_held_drew (S := (fun w' => w'.cell? ⟨w.heap.size, 1, none⟩ = some (.int .i64 t) ∧ w'.cell? ⟨w.heap.size, 2, none⟩ = some (.int .i64 u) ∧ w'.cell? ⟨w.heap.size, 3, none⟩ = some (.slice a ts.length c) ∧ Inv w (w.heap.size + 1) [(w.heap.size, 96, verC k t u a ts.length c s false)] w')) (by kernel_rfl) (by exact ⟨(S1.nth 0 rfl).at 1, (S1.nth 0 rfl).at 2, (S1.nth 0 rfl).at 3, S1.drew⟩) (fun hHeld => ?_)
              refine mvR 0 (some 20) hHeld ?_
              refine mvR 1 (some 21) hHeld ?_
              refine take_one 2 (by kernel_rfl) rfl (fun K hK => ?_)
              go_simp
              (refine (implTagOk_any _ _ _).mono ?_; rintro e w5 ⟨rfl, hb⟩)
              try go_wp2_with fail
              refine hK.out _ _ (by exact ⟨((hHeld.2.2.2.on hb).nth 0 rfl).at 1, ((hHeld.2.2.2.on hb).nth 0 rfl).at 2, ((hHeld.2.2.2.on hb).nth 0 rfl).at 3, hHeld.2.2.2.on hb⟩) (fun hHeld => ?_)
              clear hK K
              refine mvR 3 (some 23) hHeld ?_
              refine mvR 4 (some 24) hHeld ?_
              refine mvR 5 (some 25) hHeld ?_
              refine take_one 6 (by kernel_rfl) rfl (fun K hK => ?_)
              go_simp
              (refine (implPastOk_any a c ts _ hn ((ht.on hHeld.2.2.2.below).up hHeld.2.2.2.base)).mono ?_; rintro e w6 ⟨rfl, hb⟩)
              try go_wp2_with fail
              refine hK.out _ _ (by exact ⟨((hHeld.2.2.2.on hb).nth 0 rfl).at 1, ((hHeld.2.2.2.on hb).nth 0 rfl).at 2, ((hHeld.2.2.2.on hb).nth 0 rfl).at 3, hHeld.2.2.2.on hb⟩) (fun hHeld => ?_)
              clear hK K
              refine mvR 7 (some 27) hHeld ?_
              refine mvR 8 (some 28) hHeld ?_
              refine mvR 9 (some 29) hHeld ?_
              refine mvR 10 (some 30) hHeld ?_
              refine mvR 11 (some 31) hHeld ?_
              refine mvR 12 (some 32) hHeld ?_
              refine mvR 13 (some 33) hHeld ?_
              refine mvR 14 (some 34) hHeld ?_
              refine take_one 15 (by kernel_rfl) rfl (fun K hK => ?_)
              go_simp
              (refine (foldTimes_any a c ts _ hn ((ht.on hHeld.2.2.2.below).up hHeld.2.2.2.base)).mono ?_; rintro e w7 ⟨rfl, hb⟩)
              try go_wp2_with fail
              refine hK.out _ _ (by exact ⟨((hHeld.2.2.2.on hb).nth 0 rfl).at 1, ((hHeld.2.2.2.on hb).nth 0 rfl).at 2, ((hHeld.2.2.2.on hb).nth 0 rfl).at 3, hHeld.2.2.2.on hb⟩) (fun hHeld => ?_)
              clear hK K
              refine mvR 16 (some 36) hHeld ?_
              refine mvR 17 (some 37) hHeld ?_
              refine mvR 18 (some 2) hHeld ?_
              refine wpAnyH_done (by kernel_rfl) ?_ _
              refine NoPanic.normal ?_
              have S2 := hHeld.2.2.2
              clear hHeld
              go_wp2
              go_ret
              exact ⟨ret_bool hf.out.symm, S2.below⟩
            · have HL := hide hl
              have hf := hide (verB_late (k := k) (u := u) (s := s) (g := false) HO.out hl)
              go_wp2_with fail
              refine wp_region_noPanic ?_
              refine wp_region_held_drew (S := (fun w' => w'.cell? ⟨w.heap.size, 1, none⟩ = some (.int .i64 t) ∧ w'.cell? ⟨w.heap.size, 2, none⟩ = some (.int .i64 u) ∧ w'.cell? ⟨w.heap.size, 3, none⟩ = some (.slice a ts.length c) ∧ Inv w (w.heap.size + 1) [(w.heap.size, 96, verC k t u a ts.length c s false)] w')) (by kernel_rfl) (by exact ⟨(S1.nth 0 rfl).at 1, (S1.nth 0 rfl).at 2, (S1.nth 0 rfl).at 3, S1.drew⟩) (fun hHeld => ?_)
              refine mvR 0 (some 20) hHeld ?_
              refine mvR 1 (some 21) hHeld ?_
              refine take_one 2 (by kernel_rfl) rfl (fun K hK => ?_)
              go_simp
              (refine (implTagOk_any _ _ _).mono ?_; rintro e w5 ⟨rfl, hb⟩)
              try go_wp2_with fail
              refine hK.out _ _ (by exact ⟨((hHeld.2.2.2.on hb).nth 0 rfl).at 1, ((hHeld.2.2.2.on hb).nth 0 rfl).at 2, ((hHeld.2.2.2.on hb).nth 0 rfl).at 3, hHeld.2.2.2.on hb⟩) (fun hHeld => ?_)
              clear hK K
              refine mvR 3 (some 23) hHeld ?_
              refine mvR 4 (some 24) hHeld ?_
              refine mvR 5 (some 25) hHeld ?_
              refine take_one 6 (by kernel_rfl) rfl (fun K hK => ?_)
              go_simp
              (refine (implPastOk_any a c ts _ hn ((ht.on hHeld.2.2.2.below).up hHeld.2.2.2.base)).mono ?_; rintro e w6 ⟨rfl, hb⟩)
              try go_wp2_with fail
              refine hK.out _ _ (by exact ⟨((hHeld.2.2.2.on hb).nth 0 rfl).at 1, ((hHeld.2.2.2.on hb).nth 0 rfl).at 2, ((hHeld.2.2.2.on hb).nth 0 rfl).at 3, hHeld.2.2.2.on hb⟩) (fun hHeld => ?_)
              clear hK K
              refine mvR 7 (some 27) hHeld ?_
              refine mvR 8 (some 28) hHeld ?_
              refine mvR 9 (some 29) hHeld ?_
              refine mvR 10 (some 30) hHeld ?_
              refine mvR 11 (some 31) hHeld ?_
              refine mvR 12 (some 32) hHeld ?_
              refine mvR 13 (some 33) hHeld ?_
              refine mvR 14 (some 34) hHeld ?_
              refine take_one 15 (by kernel_rfl) rfl (fun K hK => ?_)
              go_simp
              (refine (foldTimes_any a c ts _ hn ((ht.on hHeld.2.2.2.below).up hHeld.2.2.2.base)).mono ?_; rintro e w7 ⟨rfl, hb⟩)
              try go_wp2_with fail
              refine hK.out _ _ (by exact ⟨((hHeld.2.2.2.on hb).nth 0 rfl).at 1, ((hHeld.2.2.2.on hb).nth 0 rfl).at 2, ((hHeld.2.2.2.on hb).nth 0 rfl).at 3, hHeld.2.2.2.on hb⟩) (fun hHeld => ?_)
              clear hK K
              refine mvR 16 (some 36) hHeld ?_
              refine mvR 17 (some 37) hHeld ?_
              refine mvR 18 (some 2) hHeld ?_
              refine wpAnyH_done (by kernel_rfl) ?_ _
              refine NoPanic.normal ?_
              have S2 := hHeld.2.2.2
              clear hHeld
              go_wp2
              go_ret
              exact ⟨ret_bool ((decide_eq_false (show ¬ lastT ts < t by have := HL.out; omega)).trans hf.out.symm), S2.below⟩
    · have hm : ∀ W : World, (method 326 196 (.agg #[.string s]) "loop.example/confluence/impl.ok").run Tryz.prog W = .ok (198, .agg #[.string s]) W := fun _ => by kernel_rfl
      go_enter Tryz.func132, Tryz.ntmps132
      go_wp2_with fail
      refine (contentOf_true s _).mono ?_
      rintro e w1 ⟨rfl, rfl⟩
      go_wp2_with fail
      refine (tombstoneOk_any s _).mono ?_
      rintro e w2 ⟨rfl, hb2⟩
      have S1 := S0.on hb2
      clear S0 hb2
      cases htx : s.toList.isEmpty
      · have hf := hide (verB_f (k := k) (t := t) (u := u) (ts := ts) (s := s) (g := true) (.inr (.inr (.inr (.inr (.inl ⟨rfl, htx⟩))))))
        go_wp2
        go_ret
        exact ⟨ret_bool hf.out.symm, S1.below⟩
      · have HT := hide htx
        cases hok : okB t u
        · have hf := hide (verB_f (k := k) (t := t) (u := u) (ts := ts) (s := s) (g := true) (.inr (.inr (.inl hok))))
          go_wp2_with fail
          refine wp_region_noPanic ?_
          refine wp_region_held_drew (S := (fun w' => w'.cell? ⟨w.heap.size, 1, none⟩ = some (.int .i64 t) ∧ w'.cell? ⟨w.heap.size, 2, none⟩ = some (.int .i64 u) ∧ w'.cell? ⟨w.heap.size, 3, none⟩ = some (.slice a ts.length c) ∧ Inv w (w.heap.size + 1) [(w.heap.size, 96, verC k t u a ts.length c s true)] w')) (by kernel_rfl) (by exact ⟨(S1.nth 0 rfl).at 1, (S1.nth 0 rfl).at 2, (S1.nth 0 rfl).at 3, S1.drew⟩) (fun hHeld => ?_)
          refine mvR 0 (some 20) hHeld ?_
          refine mvR 1 (some 21) hHeld ?_
          refine take_one 2 (by kernel_rfl) rfl (fun K hK => ?_)
          go_simp
          (refine (implTagOk_any _ _ _).mono ?_; rintro e w5 ⟨rfl, hb⟩)
          try go_wp2_with fail
          refine hK.out _ _ (by exact ⟨((hHeld.2.2.2.on hb).nth 0 rfl).at 1, ((hHeld.2.2.2.on hb).nth 0 rfl).at 2, ((hHeld.2.2.2.on hb).nth 0 rfl).at 3, hHeld.2.2.2.on hb⟩) (fun hHeld => ?_)
          clear hK K
          refine mvR 3 (some 23) hHeld ?_
          refine mvS 4 (some 24) hHeld ?_
          refine mvS 5 (some 25) hHeld ?_
          refine mvS 6 (some 26) hHeld ?_
          refine mvR 7 (some 27) hHeld ?_
          refine mvR 8 (some 28) hHeld ?_
          refine mvS 9 (some 29) hHeld ?_
          refine mvS 10 (some 30) hHeld ?_
          refine mvS 11 (some 31) hHeld ?_
          refine mvS 12 (some 32) hHeld ?_
          refine mvS 13 (some 33) hHeld ?_
          refine mvS 14 (some 34) hHeld ?_
          refine mvS 15 (some 35) hHeld ?_
          refine mvS 16 (some 36) hHeld ?_
          refine mvR 17 (some 37) hHeld ?_
          refine mvR 18 (some 2) hHeld ?_
          refine wpAnyH_done (by kernel_rfl) ?_ _
          refine NoPanic.normal ?_
          have S2 := hHeld.2.2.2
          clear hHeld
          go_wp2
          go_ret
          exact ⟨ret_bool hf.out.symm, S2.below⟩
        · have HO := hide hok
          cases hpa : pastB ts
          · have hf := hide (verB_f (k := k) (t := t) (u := u) (ts := ts) (s := s) (g := true) (.inr (.inr (.inr (.inr (.inr (.inl hpa)))))))
            go_wp2_with fail
            refine wp_region_noPanic ?_
            refine wp_region_held_drew (S := (fun w' => w'.cell? ⟨w.heap.size, 1, none⟩ = some (.int .i64 t) ∧ w'.cell? ⟨w.heap.size, 2, none⟩ = some (.int .i64 u) ∧ w'.cell? ⟨w.heap.size, 3, none⟩ = some (.slice a ts.length c) ∧ Inv w (w.heap.size + 1) [(w.heap.size, 96, verC k t u a ts.length c s true)] w')) (by kernel_rfl) (by exact ⟨(S1.nth 0 rfl).at 1, (S1.nth 0 rfl).at 2, (S1.nth 0 rfl).at 3, S1.drew⟩) (fun hHeld => ?_)
            refine mvR 0 (some 20) hHeld ?_
            refine mvR 1 (some 21) hHeld ?_
            refine take_one 2 (by kernel_rfl) rfl (fun K hK => ?_)
            go_simp
            (refine (implTagOk_any _ _ _).mono ?_; rintro e w5 ⟨rfl, hb⟩)
            try go_wp2_with fail
            refine hK.out _ _ (by exact ⟨((hHeld.2.2.2.on hb).nth 0 rfl).at 1, ((hHeld.2.2.2.on hb).nth 0 rfl).at 2, ((hHeld.2.2.2.on hb).nth 0 rfl).at 3, hHeld.2.2.2.on hb⟩) (fun hHeld => ?_)
            clear hK K
            refine mvR 3 (some 23) hHeld ?_
            refine mvR 4 (some 24) hHeld ?_
            refine mvR 5 (some 25) hHeld ?_
            refine take_one 6 (by kernel_rfl) rfl (fun K hK => ?_)
            go_simp
            (refine (implPastOk_any a c ts _ hn ((ht.on hHeld.2.2.2.below).up hHeld.2.2.2.base)).mono ?_; rintro e w6 ⟨rfl, hb⟩)
            try go_wp2_with fail
            refine hK.out _ _ (by exact ⟨((hHeld.2.2.2.on hb).nth 0 rfl).at 1, ((hHeld.2.2.2.on hb).nth 0 rfl).at 2, ((hHeld.2.2.2.on hb).nth 0 rfl).at 3, hHeld.2.2.2.on hb⟩) (fun hHeld => ?_)
            clear hK K
            refine mvR 7 (some 27) hHeld ?_
            refine mvR 8 (some 28) hHeld ?_
            refine mvS 9 (some 29) hHeld ?_
            refine mvS 10 (some 30) hHeld ?_
            refine mvS 11 (some 31) hHeld ?_
            refine mvS 12 (some 32) hHeld ?_
            refine mvS 13 (some 33) hHeld ?_
            refine mvS 14 (some 34) hHeld ?_
            refine mvS 15 (some 35) hHeld ?_
            refine mvS 16 (some 36) hHeld ?_
            refine mvR 17 (some 37) hHeld ?_
            refine mvR 18 (some 2) hHeld ?_
            refine wpAnyH_done (by kernel_rfl) ?_ _
            refine NoPanic.normal ?_
            have S2 := hHeld.2.2.2
            clear hHeld
            go_wp2
            go_ret
            exact ⟨ret_bool hf.out.symm, S2.below⟩
          · have HP := hide hpa
            by_cases hl : lastT ts < t
            · have hf := hide (verB_t (g := true) ⟨q1, q2⟩ (textB_empty HT.out) HO.out (show ¬ t = 0 by have := (lastT_lt.1 hl).1; omega) (fun _ => HT.out) HP.out (lastT_lt.1 hl).2)
              go_wp2_with fail
              refine wp_region_noPanic ?_
              refine wp_region_held_drew (S := (fun w' => w'.cell? ⟨w.heap.size, 1, none⟩ = some (.int .i64 t) ∧ w'.cell? ⟨w.heap.size, 2, none⟩ = some (.int .i64 u) ∧ w'.cell? ⟨w.heap.size, 3, none⟩ = some (.slice a ts.length c) ∧ Inv w (w.heap.size + 1) [(w.heap.size, 96, verC k t u a ts.length c s true)] w')) (by kernel_rfl) (by exact ⟨(S1.nth 0 rfl).at 1, (S1.nth 0 rfl).at 2, (S1.nth 0 rfl).at 3, S1.drew⟩) (fun hHeld => ?_)
              refine mvR 0 (some 20) hHeld ?_
              refine mvR 1 (some 21) hHeld ?_
              refine take_one 2 (by kernel_rfl) rfl (fun K hK => ?_)
              go_simp
              (refine (implTagOk_any _ _ _).mono ?_; rintro e w5 ⟨rfl, hb⟩)
              try go_wp2_with fail
              refine hK.out _ _ (by exact ⟨((hHeld.2.2.2.on hb).nth 0 rfl).at 1, ((hHeld.2.2.2.on hb).nth 0 rfl).at 2, ((hHeld.2.2.2.on hb).nth 0 rfl).at 3, hHeld.2.2.2.on hb⟩) (fun hHeld => ?_)
              clear hK K
              refine mvR 3 (some 23) hHeld ?_
              refine mvR 4 (some 24) hHeld ?_
              refine mvR 5 (some 25) hHeld ?_
              refine take_one 6 (by kernel_rfl) rfl (fun K hK => ?_)
              go_simp
              (refine (implPastOk_any a c ts _ hn ((ht.on hHeld.2.2.2.below).up hHeld.2.2.2.base)).mono ?_; rintro e w6 ⟨rfl, hb⟩)
              try go_wp2_with fail
              refine hK.out _ _ (by exact ⟨((hHeld.2.2.2.on hb).nth 0 rfl).at 1, ((hHeld.2.2.2.on hb).nth 0 rfl).at 2, ((hHeld.2.2.2.on hb).nth 0 rfl).at 3, hHeld.2.2.2.on hb⟩) (fun hHeld => ?_)
              clear hK K
              refine mvR 7 (some 27) hHeld ?_
              refine mvR 8 (some 28) hHeld ?_
              refine mvR 9 (some 29) hHeld ?_
              refine mvR 10 (some 30) hHeld ?_
              refine mvR 11 (some 31) hHeld ?_
              refine mvR 12 (some 32) hHeld ?_
              refine mvR 13 (some 33) hHeld ?_
              refine mvR 14 (some 34) hHeld ?_
              refine take_one 15 (by kernel_rfl) rfl (fun K hK => ?_)
              go_simp
              (refine (foldTimes_any a c ts _ hn ((ht.on hHeld.2.2.2.below).up hHeld.2.2.2.base)).mono ?_; rintro e w7 ⟨rfl, hb⟩)
              try go_wp2_with fail
              refine hK.out _ _ (by exact ⟨((hHeld.2.2.2.on hb).nth 0 rfl).at 1, ((hHeld.2.2.2.on hb).nth 0 rfl).at 2, ((hHeld.2.2.2.on hb).nth 0 rfl).at 3, hHeld.2.2.2.on hb⟩) (fun hHeld => ?_)
              clear hK K
              refine mvR 16 (some 36) hHeld ?_
              refine mvR 17 (some 37) hHeld ?_
              refine mvR 18 (some 2) hHeld ?_
              refine wpAnyH_done (by kernel_rfl) ?_ _
              refine NoPanic.normal ?_
              have S2 := hHeld.2.2.2
              clear hHeld
              go_wp2
              go_ret
              exact ⟨ret_bool hf.out.symm, S2.below⟩
            · have HL := hide hl
              have hf := hide (verB_late (k := k) (u := u) (s := s) (g := true) HO.out hl)
              go_wp2_with fail
              refine wp_region_noPanic ?_
              refine wp_region_held_drew (S := (fun w' => w'.cell? ⟨w.heap.size, 1, none⟩ = some (.int .i64 t) ∧ w'.cell? ⟨w.heap.size, 2, none⟩ = some (.int .i64 u) ∧ w'.cell? ⟨w.heap.size, 3, none⟩ = some (.slice a ts.length c) ∧ Inv w (w.heap.size + 1) [(w.heap.size, 96, verC k t u a ts.length c s true)] w')) (by kernel_rfl) (by exact ⟨(S1.nth 0 rfl).at 1, (S1.nth 0 rfl).at 2, (S1.nth 0 rfl).at 3, S1.drew⟩) (fun hHeld => ?_)
              refine mvR 0 (some 20) hHeld ?_
              refine mvR 1 (some 21) hHeld ?_
              refine take_one 2 (by kernel_rfl) rfl (fun K hK => ?_)
              go_simp
              (refine (implTagOk_any _ _ _).mono ?_; rintro e w5 ⟨rfl, hb⟩)
              try go_wp2_with fail
              refine hK.out _ _ (by exact ⟨((hHeld.2.2.2.on hb).nth 0 rfl).at 1, ((hHeld.2.2.2.on hb).nth 0 rfl).at 2, ((hHeld.2.2.2.on hb).nth 0 rfl).at 3, hHeld.2.2.2.on hb⟩) (fun hHeld => ?_)
              clear hK K
              refine mvR 3 (some 23) hHeld ?_
              refine mvR 4 (some 24) hHeld ?_
              refine mvR 5 (some 25) hHeld ?_
              refine take_one 6 (by kernel_rfl) rfl (fun K hK => ?_)
              go_simp
              (refine (implPastOk_any a c ts _ hn ((ht.on hHeld.2.2.2.below).up hHeld.2.2.2.base)).mono ?_; rintro e w6 ⟨rfl, hb⟩)
              try go_wp2_with fail
              refine hK.out _ _ (by exact ⟨((hHeld.2.2.2.on hb).nth 0 rfl).at 1, ((hHeld.2.2.2.on hb).nth 0 rfl).at 2, ((hHeld.2.2.2.on hb).nth 0 rfl).at 3, hHeld.2.2.2.on hb⟩) (fun hHeld => ?_)
              clear hK K
              refine mvR 7 (some 27) hHeld ?_
              refine mvR 8 (some 28) hHeld ?_
              refine mvR 9 (some 29) hHeld ?_
              refine mvR 10 (some 30) hHeld ?_
              refine mvR 11 (some 31) hHeld ?_
              refine mvR 12 (some 32) hHeld ?_
              refine mvR 13 (some 33) hHeld ?_
              refine mvR 14 (some 34) hHeld ?_
              refine take_one 15 (by kernel_rfl) rfl (fun K hK => ?_)
              go_simp
              (refine (foldTimes_any a c ts _ hn ((ht.on hHeld.2.2.2.below).up hHeld.2.2.2.base)).mono ?_; rintro e w7 ⟨rfl, hb⟩)
              try go_wp2_with fail
              refine hK.out _ _ (by exact ⟨((hHeld.2.2.2.on hb).nth 0 rfl).at 1, ((hHeld.2.2.2.on hb).nth 0 rfl).at 2, ((hHeld.2.2.2.on hb).nth 0 rfl).at 3, hHeld.2.2.2.on hb⟩) (fun hHeld => ?_)
              clear hK K
              refine mvR 16 (some 36) hHeld ?_
              refine mvR 17 (some 37) hHeld ?_
              refine mvR 18 (some 2) hHeld ?_
              refine wpAnyH_done (by kernel_rfl) ?_ _
              refine NoPanic.normal ?_
              have S2 := hHeld.2.2.2
              clear hHeld
              go_wp2
              go_ret
              exact ⟨ret_bool ((decide_eq_false (show ¬ lastT ts < t by have := HL.out; omega)).trans hf.out.symm), S2.below⟩
  · have hf := hide (verB_f (k := k) (t := t) (u := u) (ts := ts) (s := s) (g := g) (.inl hk))
    by_cases h0 : k < 0
    · go_enter Tryz.func132, Tryz.ntmps132
      go_wp2
      go_ret
      exact ⟨ret_bool hf.out.symm, S0.below⟩
    · have q4 : k ≥ 4 := by omega
      go_enter Tryz.func132, Tryz.ntmps132
      go_wp2
      go_ret
      exact ⟨ret_bool hf.out.symm, S0.below⟩
end Go.Proofs.YtnaggcdhimcilaaGreat
/- Contract of the model's functions that say whether a version is valid. Condition: at most 1048576 tags. -/
namespace Go.Proofs.YtnaggcdhimcilaaGreat
open Go.RowKit Go.Joins

theorem pastB_four {ts : List (Int × Int)} (h : pastB ts = true) : ts.length = 4 := by
  obtain ⟨x0, x1, x2, x3, rfl⟩ := four_of h
  rfl

set_option maxRecDepth 100000 in
set_option maxHeartbeats 4000000 in
theorem l2Ok_any (k t u : Int) (a : Option Addr) (c : Nat) (ts : List (Int × Int)) (s : ByteArray) (g : Bool) (w : World) (hn : ts.length ≤ 1048576) (hs : s.size ≤ 9223372036854775807) (ht : Tg w w.heap.size a ts) :
    Calls Tryz.prog 93 #[.agg (verC k t u a ts.length c s g)] w fun e w' => e = .returned (.bool (verB k t u ts s g)) ∧ Below w.heap.size w w' := by
  have S0 := (Inv.start w).box 96 (verC k t u a ts.length c s g)
  simp only [World.size_alloc] at S0
  go_enter Tryz.func93, Tryz.ntmps93
  go_wp2_with fail
  refine (l1In_any _ _ _ _).mono ?_
  rintro e w1 ⟨rfl, rfl⟩
  by_cases hk : 0 ≤ k ∧ k ≤ 3
  · have HK := hide hk
    rw [decide_eq_true hk]
    clear hk
    go_wp2_with fail
    refine (l2TextOk_any s _ hs).mono ?_
    rintro e w2 ⟨rfl, hb2⟩
    have S1 := S0.on hb2
    clear S0 hb2
    have k1 := (S1.nth 0 rfl).six.1
    cases htx : textB s
    · have hf := hide (verB_f (k := k) (t := t) (u := u) (ts := ts) (s := s) (g := g) (.inr (.inl htx)))
      go_wp2
      go_ret
      exact ⟨ret_bool hf.out.symm, S1.below⟩
    · have HT := hide htx
      clear htx
      go_wp2_with fail
      refine (l1TagOk_any _ _ _).mono ?_
      rintro e w3 ⟨rfl, hb3⟩
      have S2 := S1.on hb3
      clear S1 hb3 k1
      have k1 := (S2.nth 0 rfl).six.1
      cases hok : okB t u
      · have hf := hide (verB_f (k := k) (t := t) (u := u) (ts := ts) (s := s) (g := g) (.inr (.inr (.inl hok))))
        go_wp2
        go_ret
        exact ⟨ret_bool hf.out.symm, S2.below⟩
      · have HO := hide hok
        clear hok
        by_cases h0 : t = 0
        · have hf := hide (verB_f (k := k) (t := t) (u := u) (ts := ts) (s := s) (g := g) (.inr (.inr (.inr (.inl h0)))))
          subst h0
          go_wp2
          go_ret
          exact ⟨ret_bool hf.out.symm, S2.below⟩
        · have h0' : (t == 0) = false := by simpa using h0
          have H0 := hide h0
          clear h0
          cases hge : (g && !s.toList.isEmpty)
          · have H5 : Hid (g = true → s.toList.isEmpty = true) := by
              intro hg
              rw [hg] at hge
              simpa using hge
            have e1 : g = false ∨ g = true ∧ s.toList.isEmpty = true := by
              cases g
              · exact .inl rfl
              · exact .inr ⟨rfl, H5.out rfl⟩
            clear hge
            rcases e1 with rfl | ⟨rfl, hem⟩
            · go_wp2_with fail
              refine (l1PastOk_any a c ts _ hn ((ht.on S2.below).up S2.base)).mono ?_
              rintro e w4 ⟨rfl, hb4⟩
              have S3 := S2.on hb4
              clear S2 hb4 k1
              cases hpa : pastB ts
              · have hf := hide (verB_f (k := k) (t := t) (u := u) (ts := ts) (s := s) (g := false) (.inr (.inr (.inr (.inr (.inr (.inl hpa)))))))
                go_wp2
                go_ret
                exact ⟨ret_bool hf.out.symm, S3.below⟩
              · have HP := hide hpa
                have h4 := pastB_four hpa
                clear hpa
                rw [h4] at S3 ⊢
                have H4 := hide h4
                clear h4
                go_wp2
                go_loopw [3] (fun i wr => ∃ j : Nat, j ≤ 4 ∧ i = .int .i64 (j : Int) ∧ Hid (∀ m x, m < j → ts[m]? = some x → x.1 < t) ∧ Inv w (w.heap.size + 1) [(w.heap.size, 96, verC k t u a 4 c s false)] wr) (fun i _ => 4 - (intOf i).toNat)
                case atStart => exact ⟨0, by omega, rfl, fun m x hm => absurd hm (by omega), S3⟩
                case round =>
                  obtain ⟨j, hj, rfl, hA, hI⟩ := hrel
                  clear S3
                  by_cases hlt : j < 4
                  · rcases ht with e0 | ⟨b, off, rfl, hb, hx⟩
                    · have := H4.out; subst e0; simp at this
                    · have hjl : j < ts.length := by have := H4.out; omega
                      obtain ⟨hc0, hc1⟩ := hx j _ (List.getElem?_eq_getElem hjl)
                      have HX := hide (List.getElem?_eq_getElem hjl)
                      generalize ts[j] = x at hc0 hc1 HX
                      obtain ⟨x1, x2⟩ := x
                      simp only at hc0 hc1
                      have C0 := hide hc0
                      clear hc0 hc1 hx
                      have i1 : (0 : Int) ≤ (j : Int) := by omega
                      have i2 : (j : Int) < 4 := by omega
                      by_cases hl : x1 < t
                      · have hl' : ¬ t ≤ x1 := by omega
                        have HA : Hid (∀ m x, m < j + 1 → ts[m]? = some x → x.1 < t) := fun m x hm hx => by
                          by_cases e : m = j
                          · subst e
                            have h1 := HX.out
                            rw [h1] at hx
                            injection hx with hx
                            subst hx
                            exact hl
                          · exact hA.out m x (by omega) hx
                        go_wp2_with fail
                        refine wp_region_noPanic ?_
                        refine wp_region_held_drew (S := (fun w' => w'.cell? ⟨b, off + j * 2, none⟩ = some (.int .i64 x1) ∧ w'.cell? ⟨w.heap.size, 1, none⟩ = some (.int .i64 t) ∧ w'.cell? ⟨w.heap.size, 3, none⟩ = some (.slice (some ⟨b, off, none⟩) 4 c) ∧ Inv w (w.heap.size + 1) [(w.heap.size, 96, verC k t u (some ⟨b, off, none⟩) 4 c s false)] w')) (by kernel_rfl) (by exact ⟨(hI.below.cell (p := ⟨b, off + j * 2, none⟩) hb).trans C0.out, (hI.nth 0 rfl).at 1, (hI.nth 0 rfl).at 3, hI.drew⟩) (fun hHeld => ?_)
                        refine mvR 0 (some 45) hHeld ?_
                        refine mvR 1 (some 46) hHeld ?_
                        refine mvR 2 (some 47) hHeld ?_
                        refine mvR 3 (some 48) hHeld ?_
                        refine mvR 4 (some 49) hHeld ?_
                        refine mvR 5 (some 50) hHeld ?_
                        refine mvR 6 (some 51) hHeld ?_
                        refine mvR 7 (some 52) hHeld ?_
                        refine mvR 8 (some 53) hHeld ?_
                        refine mvR 9 (some 54) hHeld ?_
                        refine mvR 10 (some 55) hHeld ?_
                        refine wpAnyH_done (by kernel_rfl) ?_ _
                        refine NoPanic.normal ?_
                        have hI2 := hHeld.2.2.2
                        clear hHeld hI
                        go_wp2
                        exact ⟨⟨j + 1, by omega, by go_num, HA, hI2⟩, by simp [intOf]; omega⟩
                      · have hl' : t ≤ x1 := by omega
                        have hf := hide (verB_f (k := k) (t := t) (u := u) (ts := ts) (s := s) (g := false) (.inr (.inr (.inr (.inr (.inr (.inr ⟨_, List.mem_of_getElem? HX.out, hl⟩)))))))
                        go_wp2_with fail
                        refine wp_region_noPanic ?_
                        refine wp_region_held_drew (S := (fun w' => w'.cell? ⟨b, off + j * 2, none⟩ = some (.int .i64 x1) ∧ w'.cell? ⟨w.heap.size, 1, none⟩ = some (.int .i64 t) ∧ w'.cell? ⟨w.heap.size, 3, none⟩ = some (.slice (some ⟨b, off, none⟩) 4 c) ∧ Inv w (w.heap.size + 1) [(w.heap.size, 96, verC k t u (some ⟨b, off, none⟩) 4 c s false)] w')) (by kernel_rfl) (by exact ⟨(hI.below.cell (p := ⟨b, off + j * 2, none⟩) hb).trans C0.out, (hI.nth 0 rfl).at 1, (hI.nth 0 rfl).at 3, hI.drew⟩) (fun hHeld => ?_)
                        refine mvR 0 (some 45) hHeld ?_
                        refine mvR 1 (some 46) hHeld ?_
                        refine mvR 2 (some 47) hHeld ?_
                        refine mvR 3 (some 48) hHeld ?_
                        refine mvR 4 (some 49) hHeld ?_
                        refine mvR 5 (some 50) hHeld ?_
                        refine mvR 6 (some 51) hHeld ?_
                        refine mvR 7 (some 52) hHeld ?_
                        refine mvR 8 (some 53) hHeld ?_
                        refine mvR 9 (some 54) hHeld ?_
                        refine mvR 10 (some 55) hHeld ?_
                        refine wpAnyH_done (by kernel_rfl) ?_ _
                        refine NoPanic.normal ?_
                        have hI2 := hHeld.2.2.2
                        clear hHeld hI
                        go_wp2
                        go_ret
                        exact ⟨ret_bool hf.out.symm, hI2.below⟩
                  · have hj4 : j = 4 := by omega
                    subst hj4
                    clear hlt
                    have hf := hide (verB_t (g := false) HK.out HT.out HO.out H0.out H5.out HP.out (fun x hx => by
                      obtain ⟨m, hm⟩ := List.getElem?_of_mem hx
                      exact hA.out m x (by have := (List.getElem?_eq_some_iff.1 hm).1; have := H4.out; omega) hm))
                    go_wp2
                    go_ret
                    exact ⟨ret_bool hf.out.symm, hI.below⟩
            · go_wp2_with fail
              refine (l1PastOk_any a c ts _ hn ((ht.on S2.below).up S2.base)).mono ?_
              rintro e w4 ⟨rfl, hb4⟩
              have S3 := S2.on hb4
              clear S2 hb4 k1
              cases hpa : pastB ts
              · have hf := hide (verB_f (k := k) (t := t) (u := u) (ts := ts) (s := s) (g := true) (.inr (.inr (.inr (.inr (.inr (.inl hpa)))))))
                go_wp2
                go_ret
                exact ⟨ret_bool hf.out.symm, S3.below⟩
              · have HP := hide hpa
                have h4 := pastB_four hpa
                clear hpa
                rw [h4] at S3 ⊢
                have H4 := hide h4
                clear h4
                go_wp2
                go_loopw [3] (fun i wr => ∃ j : Nat, j ≤ 4 ∧ i = .int .i64 (j : Int) ∧ Hid (∀ m x, m < j → ts[m]? = some x → x.1 < t) ∧ Inv w (w.heap.size + 1) [(w.heap.size, 96, verC k t u a 4 c s true)] wr) (fun i _ => 4 - (intOf i).toNat)
                case atStart => exact ⟨0, by omega, rfl, fun m x hm => absurd hm (by omega), S3⟩
                case round =>
                  obtain ⟨j, hj, rfl, hA, hI⟩ := hrel
                  clear S3
                  by_cases hlt : j < 4
                  · rcases ht with e0 | ⟨b, off, rfl, hb, hx⟩
                    · have := H4.out; subst e0; simp at this
                    · have hjl : j < ts.length := by have := H4.out; omega
                      obtain ⟨hc0, hc1⟩ := hx j _ (List.getElem?_eq_getElem hjl)
                      have HX := hide (List.getElem?_eq_getElem hjl)
                      generalize ts[j] = x at hc0 hc1 HX
                      obtain ⟨x1, x2⟩ := x
                      simp only at hc0 hc1
                      have C0 := hide hc0
                      clear hc0 hc1 hx
                      have i1 : (0 : Int) ≤ (j : Int) := by omega
                      have i2 : (j : Int) < 4 := by omega
                      by_cases hl : x1 < t
                      · have hl' : ¬ t ≤ x1 := by omega
                        have HA : Hid (∀ m x, m < j + 1 → ts[m]? = some x → x.1 < t) := fun m x hm hx => by
                          by_cases e : m = j
                          · subst e
                            have h1 := HX.out
                            rw [h1] at hx
                            injection hx with hx
                            subst hx
                            exact hl
                          · exact hA.out m x (by omega) hx
                        go_wp2_with fail
                        refine wp_region_noPanic ?_
                        refine wp_region_held_drew (S := (fun w' => w'.cell? ⟨b, off + j * 2, none⟩ = some (.int .i64 x1) ∧ w'.cell? ⟨w.heap.size, 1, none⟩ = some (.int .i64 t) ∧ w'.cell? ⟨w.heap.size, 3, none⟩ = some (.slice (some ⟨b, off, none⟩) 4 c) ∧ Inv w (w.heap.size + 1) [(w.heap.size, 96, verC k t u (some ⟨b, off, none⟩) 4 c s true)] w')) (by kernel_rfl) (by exact ⟨(hI.below.cell (p := ⟨b, off + j * 2, none⟩) hb).trans C0.out, (hI.nth 0 rfl).at 1, (hI.nth 0 rfl).at 3, hI.drew⟩) (fun hHeld => ?_)
                        refine mvR 0 (some 45) hHeld ?_
                        refine mvR 1 (some 46) hHeld ?_
                        refine mvR 2 (some 47) hHeld ?_
                        refine mvR 3 (some 48) hHeld ?_
                        refine mvR 4 (some 49) hHeld ?_
                        refine mvR 5 (some 50) hHeld ?_
                        refine mvR 6 (some 51) hHeld ?_
                        refine mvR 7 (some 52) hHeld ?_
                        refine mvR 8 (some 53) hHeld ?_
                        refine mvR 9 (some 54) hHeld ?_
                        refine mvR 10 (some 55) hHeld ?_
                        refine wpAnyH_done (by kernel_rfl) ?_ _
                        refine NoPanic.normal ?_
                        have hI2 := hHeld.2.2.2
                        clear hHeld hI
                        go_wp2
                        exact ⟨⟨j + 1, by omega, by go_num, HA, hI2⟩, by simp [intOf]; omega⟩
                      · have hl' : t ≤ x1 := by omega
                        have hf := hide (verB_f (k := k) (t := t) (u := u) (ts := ts) (s := s) (g := true) (.inr (.inr (.inr (.inr (.inr (.inr ⟨_, List.mem_of_getElem? HX.out, hl⟩)))))))
                        go_wp2_with fail
                        refine wp_region_noPanic ?_
                        refine wp_region_held_drew (S := (fun w' => w'.cell? ⟨b, off + j * 2, none⟩ = some (.int .i64 x1) ∧ w'.cell? ⟨w.heap.size, 1, none⟩ = some (.int .i64 t) ∧ w'.cell? ⟨w.heap.size, 3, none⟩ = some (.slice (some ⟨b, off, none⟩) 4 c) ∧ Inv w (w.heap.size + 1) [(w.heap.size, 96, verC k t u (some ⟨b, off, none⟩) 4 c s true)] w')) (by kernel_rfl) (by exact ⟨(hI.below.cell (p := ⟨b, off + j * 2, none⟩) hb).trans C0.out, (hI.nth 0 rfl).at 1, (hI.nth 0 rfl).at 3, hI.drew⟩) (fun hHeld => ?_)
                        refine mvR 0 (some 45) hHeld ?_
                        refine mvR 1 (some 46) hHeld ?_
                        refine mvR 2 (some 47) hHeld ?_
                        refine mvR 3 (some 48) hHeld ?_
                        refine mvR 4 (some 49) hHeld ?_
                        refine mvR 5 (some 50) hHeld ?_
                        refine mvR 6 (some 51) hHeld ?_
                        refine mvR 7 (some 52) hHeld ?_
                        refine mvR 8 (some 53) hHeld ?_
                        refine mvR 9 (some 54) hHeld ?_
                        refine mvR 10 (some 55) hHeld ?_
                        refine wpAnyH_done (by kernel_rfl) ?_ _
                        refine NoPanic.normal ?_
                        have hI2 := hHeld.2.2.2
                        clear hHeld hI
                        go_wp2
                        go_ret
                        exact ⟨ret_bool hf.out.symm, hI2.below⟩
                  · have hj4 : j = 4 := by omega
                    subst hj4
                    clear hlt
                    have hf := hide (verB_t (g := true) HK.out HT.out HO.out H0.out (fun _ => H5.out trivial) HP.out (fun x hx => by
                      obtain ⟨m, hm⟩ := List.getElem?_of_mem hx
                      exact hA.out m x (by have := (List.getElem?_eq_some_iff.1 hm).1; have := H4.out; omega) hm))
                    go_wp2
                    go_ret
                    exact ⟨ret_bool hf.out.symm, hI.below⟩
          · have e1 : g = true ∧ s.toList.isEmpty = false := by simpa using hge
            obtain ⟨rfl, hem⟩ := e1
            have hf := hide (verB_f (k := k) (t := t) (u := u) (ts := ts) (s := s) (g := true) (.inr (.inr (.inr (.inr (.inl ⟨rfl, hem⟩))))))
            clear hge
            go_wp2
            go_ret
            exact ⟨ret_bool hf.out.symm, S2.below⟩
  · have hf := hide (verB_f (k := k) (t := t) (u := u) (ts := ts) (s := s) (g := g) (.inl hk))
    rw [decide_eq_false hk]
    go_wp2
    go_ret
    exact ⟨ret_bool hf.out.symm, S0.below⟩

end Go.Proofs.YtnaggcdhimcilaaGreat
/- Whether a row of versions is a valid store, said plainly; contracts of the program's and the model's functions that say so. Condition: at most 1048576 versions, and tags of each. -/
namespace Go.Proofs.YtnaggcdhimcilaaGreat
open Go.RowKit Go.Joins

/-- Whether this is no version. -/
def noneC (k t u : Int) (n : Nat) (s : ByteArray) (g : Bool) : Bool := decide (k = 0) && decide (t = 0 ∧ u = 0) && decide (n = 0) && s.toList.isEmpty && !g
theorem noneC_f {k t u : Int} {n : Nat} {s : ByteArray} {g : Bool} (h : ¬ k = 0 ∨ ¬ (t = 0 ∧ u = 0) ∨ ¬ n = 0 ∨ s.toList.isEmpty = false ∨ g = true) : noneC k t u n s g = false := by
  unfold noneC
  rcases h with h | h | h | h | h
  · rw [decide_eq_false h]; rfl
  · rw [decide_eq_false h]; simp
  · rw [decide_eq_false h]; simp
  · rw [h]; simp
  · rw [h]; simp
theorem noneC_t {s : ByteArray} (h : s.toList.isEmpty = true) : noneC 0 0 0 0 s false = true := by
  unfold noneC
  rw [h]
  rfl
/-- Whether this version may lie at place i. -/
def slotB (i : Nat) (v : V) : Bool := noneC v.k v.t v.u v.ts.length v.s v.g || (decide (v.k = i) && verB v.k v.t v.u v.ts v.s v.g)
/-- Whether these versions are a store. -/
def storeB (vs : List V) : Bool := decide (vs.length = 4) && (List.range vs.length).all fun i => match vs[i]? with | some v => slotB i v | none => true
theorem storeB_len {vs : List V} (h : ¬ vs.length = 4) : storeB vs = false := by unfold storeB; simp [h]
theorem storeB_bad {vs : List V} {i : Nat} {v : V} (hi : vs[i]? = some v) (h : slotB i v = false) : storeB vs = false := by
  unfold storeB
  have : ((List.range vs.length).all fun i => match vs[i]? with | some v => slotB i v | none => true) = false := by
    rw [List.all_eq_false]
    exact ⟨i, by simpa using (List.getElem?_eq_some_iff.1 hi).1, by simp [hi, h]⟩
  rw [this]
  simp
theorem storeB_ok {vs : List V} (hl : vs.length = 4) (h : ∀ (i : Nat) (v : V), vs[i]? = some v → slotB i v = true) : storeB vs = true := by
  unfold storeB
  have : ((List.range vs.length).all fun i => match vs[i]? with | some v => slotB i v | none => true) = true := by
    rw [List.all_eq_true]
    intro i _
    cases hi : vs[i]? with
    | none => rfl
    | some v => exact h i v hi
  rw [this, decide_eq_true hl]
  rfl
theorem slot_step {vs : List V} {k : Nat} {v : V} (hA : ∀ (i : Nat) (v : V), i < k → vs[i]? = some v → slotB i v = true) (hk : vs[k]? = some v) (h : slotB k v = true) : ∀ (i : Nat) (v : V), i < k + 1 → vs[i]? = some v → slotB i v = true := fun i x hi hx => by
  by_cases e : i = k
  · subst e
    rw [hk] at hx
    injection hx with hx
    subst hx
    exact h
  · exact hA i x (by omega) hx
theorem storeB_like {vs us : List V} (hl : us.length = vs.length) (h : Like us vs) : storeB us = storeB vs := by
  have hs : ∀ i, (match us[i]? with | some v => slotB i v | none => true) = (match vs[i]? with | some v => slotB i v | none => true) := by
    intro i
    by_cases hi : i < us.length
    · have hi' : i < vs.length := by omega
      rw [List.getElem?_eq_getElem hi, List.getElem?_eq_getElem hi']
      obtain ⟨e1, e2, e3, e4, e5, e6⟩ := h i _ _ (List.getElem?_eq_getElem hi) (List.getElem?_eq_getElem hi')
      simp only [slotB, e1, e2, e3, e4, e5, e6]
    · rw [List.getElem?_eq_none (by omega), List.getElem?_eq_none (by omega)]
  unfold storeB
  rw [hl]
  congr 1
  exact congrArg (fun f => (List.range vs.length).all f) (funext hs)

theorem tagEql_ne {t u : Int} (h : ¬ (t = 0 ∧ u = 0)) (W : World) : (binOp .eql 91 (.agg #[.int .i64 t, .int .i64 u]) (.agg #[.int .i64 0, .int .i64 0])).run Tryz.prog W = .ok (.bool false) W := by
  by_cases ht : t = 0
  · have hp : ¬ u = 0 := fun e => h ⟨ht, e⟩
    subst ht
    go_simp
  · go_simp
theorem tagNeq_ne {t u : Int} (h : ¬ (t = 0 ∧ u = 0)) (W : World) : (binOp .neq 91 (.agg #[.int .i64 t, .int .i64 u]) (.agg #[.int .i64 0, .int .i64 0])).run Tryz.prog W = .ok (.bool true) W := by
  by_cases ht : t = 0
  · have hp : ¬ u = 0 := fun e => h ⟨ht, e⟩
    subst ht
    go_simp
  · go_simp

set_option maxRecDepth 100000 in
set_option maxHeartbeats 1000000 in
theorem equalTags_zero (a : Option Addr) (c : Nat) (w : World) :
    Calls Tryz.prog 142 #[.slice a 0 c, .slice none 0 0] w fun e w' => e = .returned (.bool true) ∧ w = w' := by
  go_enter Tryz.func142, Tryz.ntmps142
  go_wp2
  go_loop [13] (fun i => i = .int .i64 0) (fun _ => 0)
  case atStart => rfl
  case round =>
    obtain rfl := hrel
    go_wp2
    go_ret
    exact ⟨rfl, rfl⟩
set_option maxHeartbeats 1000000 in
theorem equalTags_more (a : Option Addr) (n c : Nat) (w : World) (hn : ¬ n = 0) :
    Calls Tryz.prog 142 #[.slice a n c, .slice none 0 0] w fun e w' => e = .returned (.bool false) ∧ w = w' := by
  have hn' : ((n : Int) != 0) = true := by simp; omega
  clear hn
  go_enter Tryz.func142, Tryz.ntmps142
  go_wp2
  go_ret
  exact ⟨rfl, rfl⟩

set_option maxRecDepth 100000 in
set_option maxHeartbeats 2000000 in
theorem verSameZero_any (k t u : Int) (a : Option Addr) (n c : Nat) (s : ByteArray) (g : Bool) (w : World) :
    Calls Tryz.prog 111 #[.agg (verC k t u a n c s g), .agg (verC 0 0 0 none 0 0 ⟨#[]⟩ false)] w fun e w' => e = .returned (.bool (noneC k t u n s g)) ∧ Below w.heap.size w w' := by
  have S0 := ((Inv.start w).box 96 (verC k t u a n c s g)).box 96 (verC 0 0 0 none 0 0 ⟨#[]⟩ false)
  by_cases hk : k = 0
  · subst hk
    by_cases ht : t = 0 ∧ u = 0
    · obtain ⟨rfl, rfl⟩ := ht
      by_cases hn : n = 0
      · subst hn
        cases hs : s.toList.isEmpty
        · have hf := hide (noneC_f (k := 0) (t := 0) (u := 0) (n := 0) (g := g) (.inr (.inr (.inr (.inl hs)))))
          go_enter Tryz.func111, Tryz.ntmps111
          go_wp2_with fail
          refine (equalTags_zero _ _ _).mono ?_
          rintro e w1 ⟨rfl, rfl⟩
          go_wp2
          go_ret
          exact ⟨ret_bool hf.out.symm, S0.below⟩
        · cases g
          · have hf := hide (noneC_t hs)
            go_enter Tryz.func111, Tryz.ntmps111
            go_wp2_with fail
            refine (equalTags_zero _ _ _).mono ?_
            rintro e w1 ⟨rfl, rfl⟩
            go_wp2
            go_ret
            exact ⟨ret_bool hf.out.symm, S0.below⟩
          · have hf := hide (noneC_f (k := 0) (t := 0) (u := 0) (n := 0) (s := s) (g := true) (.inr (.inr (.inr (.inr rfl)))))
            go_enter Tryz.func111, Tryz.ntmps111
            go_wp2_with fail
            refine (equalTags_zero _ _ _).mono ?_
            rintro e w1 ⟨rfl, rfl⟩
            go_wp2
            go_ret
            exact ⟨ret_bool hf.out.symm, S0.below⟩
      · have hf := hide (noneC_f (k := 0) (t := 0) (u := 0) (s := s) (g := g) (.inr (.inr (.inl hn))))
        go_enter Tryz.func111, Tryz.ntmps111
        go_wp2_with fail
        refine (equalTags_more _ _ _ _ hn).mono ?_
        rintro e w1 ⟨rfl, rfl⟩
        go_wp2
        go_ret
        exact ⟨ret_bool hf.out.symm, S0.below⟩
    · have hf := hide (noneC_f (k := 0) (n := n) (s := s) (g := g) (.inr (.inl ht)))
      have he := tagEql_ne ht
      clear ht
      go_enter Tryz.func111, Tryz.ntmps111
      go_wp2
      go_ret
      exact ⟨ret_bool hf.out.symm, S0.below⟩
  · have hf := hide (noneC_f (t := t) (u := u) (n := n) (s := s) (g := g) (.inl hk))
    have hk' : (k == 0) = false := by simpa using hk
    clear hk
    go_enter Tryz.func111, Tryz.ntmps111
    go_wp2
    go_ret
    exact ⟨ret_bool hf.out.symm, S0.below⟩

set_option maxHeartbeats 1000000 in
theorem verNone_any (k t u : Int) (a : Option Addr) (n c : Nat) (s : ByteArray) (g : Bool) (w : World) :
    Calls Tryz.prog 73 #[.agg (verC k t u a n c s g)] w fun e w' => e = .returned (.bool (noneC k t u n s g)) ∧ Below w.heap.size w w' := by
  have S0 := (Inv.start w).box 96 (verC k t u a n c s g)
  go_enter Tryz.func73, Tryz.ntmps73
  go_wp2_with fail
  refine (verSameZero_any _ _ _ _ _ _ _ _ _).mono ?_
  rintro e w1 ⟨rfl, hb⟩
  have hl := (S0.on hb).below
  clear S0 hb
  go_wp2
  go_ret
  exact ⟨rfl, hl⟩
end Go.Proofs.YtnaggcdhimcilaaGreat
