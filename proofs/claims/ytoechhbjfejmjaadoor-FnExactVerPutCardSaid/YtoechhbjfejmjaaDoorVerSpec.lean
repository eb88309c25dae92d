/- Contract of the model's functions that say whether a version is valid. Condition: at most 1048576 tags. -/
import Derived.Test.YtoechhbjfejmjaaDoorVerOk0
namespace Go.Proofs.YtoechhbjfejmjaaDoor
open Go.RowKit Go.Joins

theorem pastB_four {ts : List (Int × Int)} (h : pastB ts = true) : ts.length = 4 := by
  obtain ⟨x0, x1, x2, x3, rfl⟩ := four_of h
  rfl

set_option maxRecDepth 100000 in
set_option maxHeartbeats 4000000 in
theorem l2Ok_any (k t u : Int) (a : Option Addr) (c : Nat) (ts : List (Int × Int)) (s : ByteArray) (g : Bool) (w : World) (hn : ts.length ≤ 1048576) (hs : s.size ≤ 9223372036854775807) (ht : Tg w w.heap.size a ts) :
    Calls Tryd.prog 15 #[.agg (verC k t u a ts.length c s g)] w fun e w' => e = .returned (.bool (verB k t u ts s g)) ∧ Below w.heap.size w w' := by
  have S0 := (Inv.start w).box 36 (verC k t u a ts.length c s g)
  simp only [World.size_alloc] at S0
  go_enter Tryd.func15, Tryd.ntmps15
  go_wp2_with fail
  refine (l1In_any _ _ _ _).mono ?_
  rintro e w1 ⟨rfl, rfl⟩
  by_cases hk : 0 ≤ k ∧ k ≤ 3
  · have HK := hide hk
    rw [decide_eq_true hk]
    clear hk
    go_wp2_with fail
    refine (l2TextOk_any s _ hs).mono ?_
    rintro e w2 ⟨rfl, hb2⟩
    have S1 := S0.on hb2
    clear S0 hb2
    have k1 := (S1.nth 0 rfl).six.1
    cases htx : textB s
    · have hf := hide (verB_f (k := k) (t := t) (u := u) (ts := ts) (s := s) (g := g) (.inr (.inl htx)))
      go_wp2
      go_ret
      exact ⟨ret_bool hf.out.symm, S1.below⟩
    · have HT := hide htx
      clear htx
      go_wp2_with fail
      refine (l1TagOk_any _ _ _).mono ?_
      rintro e w3 ⟨rfl, hb3⟩
      have S2 := S1.on hb3
      clear S1 hb3 k1
      have k1 := (S2.nth 0 rfl).six.1
      cases hok : okB t u
      · have hf := hide (verB_f (k := k) (t := t) (u := u) (ts := ts) (s := s) (g := g) (.inr (.inr (.inl hok))))
        go_wp2
        go_ret
        exact ⟨ret_bool hf.out.symm, S2.below⟩
      · have HO := hide hok
        clear hok
        by_cases h0 : t = 0
        · have hf := hide (verB_f (k := k) (t := t) (u := u) (ts := ts) (s := s) (g := g) (.inr (.inr (.inr (.inl h0)))))
          subst h0
          go_wp2
          go_ret
          exact ⟨ret_bool hf.out.symm, S2.below⟩
        · have h0' : (t == 0) = false := by simpa using h0
          have H0 := hide h0
          clear h0
          cases hge : (g && !s.toList.isEmpty)
          · have H5 : Hid (g = true → s.toList.isEmpty = true) := by
              intro hg
              rw [hg] at hge
              simpa using hge
            have e1 : g = false ∨ g = true ∧ s.toList.isEmpty = true := by
              cases g
              · exact .inl rfl
              · exact .inr ⟨rfl, H5.out rfl⟩
            clear hge
            rcases e1 with rfl | ⟨rfl, hem⟩
            · go_wp2_with fail
              refine (l1PastOk_any a c ts _ hn ((ht.on S2.below).up S2.base)).mono ?_
              rintro e w4 ⟨rfl, hb4⟩
              have S3 := S2.on hb4
              clear S2 hb4 k1
              cases hpa : pastB ts
              · have hf := hide (verB_f (k := k) (t := t) (u := u) (ts := ts) (s := s) (g := false) (.inr (.inr (.inr (.inr (.inr (.inl hpa)))))))
                go_wp2
                go_ret
                exact ⟨ret_bool hf.out.symm, S3.below⟩
              · have HP := hide hpa
                have h4 := pastB_four hpa
                clear hpa
                rw [h4] at S3 ⊢
                have H4 := hide h4
                clear h4
                go_wp2
                go_loopw [3] (fun i wr => ∃ j : Nat, j ≤ 4 ∧ i = .int .i64 (j : Int) ∧ Hid (∀ m x, m < j → ts[m]? = some x → x.1 < t) ∧ Inv w (w.heap.size + 1) [(w.heap.size, 36, verC k t u a 4 c s false)] wr) (fun i _ => 4 - (intOf i).toNat)
                case atStart => exact ⟨0, by omega, rfl, fun m x hm => absurd hm (by omega), S3⟩
                case round =>
                  obtain ⟨j, hj, rfl, hA, hI⟩ := hrel
                  clear S3
                  by_cases hlt : j < 4
                  · rcases ht with e0 | ⟨b, off, rfl, hb, hx⟩
                    · have := H4.out; subst e0; simp at this
                    · have hjl : j < ts.length := by have := H4.out; omega
                      obtain ⟨hc0, hc1⟩ := hx j _ (List.getElem?_eq_getElem hjl)
                      have HX := hide (List.getElem?_eq_getElem hjl)
                      generalize ts[j] = x at hc0 hc1 HX
                      obtain ⟨x1, x2⟩ := x
                      simp only at hc0 hc1
                      have C0 := hide hc0
                      clear hc0 hc1 hx
                      have i1 : (0 : Int) ≤ (j : Int) := by omega
                      have i2 : (j : Int) < 4 := by omega
                      by_cases hl : x1 < t
                      · have hl' : ¬ t ≤ x1 := by omega
                        have HA : Hid (∀ m x, m < j + 1 → ts[m]? = some x → x.1 < t) := fun m x hm hx => by
                          by_cases e : m = j
                          · subst e
                            have h1 := HX.out
                            rw [h1] at hx
                            injection hx with hx
                            subst hx
                            exact hl
                          · exact hA.out m x (by omega) hx
                        go_wp2_with fail
                        refine wp_region_noPanic ?_
                        refine wp_region_held_drew (S := (fun w' => w'.cell? ⟨b, off + j * 2, none⟩ = some (.int .i64 x1) ∧ w'.cell? ⟨w.heap.size, 1, none⟩ = some (.int .i64 t) ∧ w'.cell? ⟨w.heap.size, 3, none⟩ = some (.slice (some ⟨b, off, none⟩) 4 c) ∧ Inv w (w.heap.size + 1) [(w.heap.size, 36, verC k t u (some ⟨b, off, none⟩) 4 c s false)] w')) (by kernel_rfl) (by exact ⟨(hI.below.cell (p := ⟨b, off + j * 2, none⟩) hb).trans C0.out, (hI.nth 0 rfl).at 1, (hI.nth 0 rfl).at 3, hI.drew⟩) (fun hHeld => ?_)
                        refine take_run 0 (some 45) (v := ?_) rfl rfl (by kernel_rfl) (by kernel_rfl) (by kernel_rfl) (fun _ _ _ h => h) (by rfl) ?_ hHeld ?_
                        rotate_left
                        · ((intro w hSw); (try dsimp only at hSw); go_simp <;> with_reducible rfl)
                        simp only [Act.put, List.setIfInBounds_toArray, List.set_cons_zero, List.set_cons_succ]
                        refine take_run 1 (some 46) (v := ?_) rfl rfl (by kernel_rfl) (by kernel_rfl) (by kernel_rfl) (fun _ _ _ h => h) (by rfl) ?_ hHeld ?_
                        rotate_left
                        · ((intro w hSw); (try dsimp only at hSw); go_simp <;> with_reducible rfl)
                        simp only [Act.put, List.setIfInBounds_toArray, List.set_cons_zero, List.set_cons_succ]
                        refine take_run 2 (some 47) (v := ?_) rfl rfl (by kernel_rfl) (by kernel_rfl) (by kernel_rfl) (fun _ _ _ h => h) (by rfl) ?_ hHeld ?_
                        rotate_left
                        · ((intro w hSw); (try dsimp only at hSw); go_simp <;> with_reducible rfl)
                        simp only [Act.put, List.setIfInBounds_toArray, List.set_cons_zero, List.set_cons_succ]
                        refine take_run 3 (some 48) (v := ?_) rfl rfl (by kernel_rfl) (by kernel_rfl) (by kernel_rfl) (fun _ _ _ h => h) (by rfl) ?_ hHeld ?_
                        rotate_left
                        · ((intro w hSw); (try dsimp only at hSw); go_simp <;> with_reducible rfl)
                        simp only [Act.put, List.setIfInBounds_toArray, List.set_cons_zero, List.set_cons_succ]
                        refine take_run 4 (some 49) (v := ?_) rfl rfl (by kernel_rfl) (by kernel_rfl) (by kernel_rfl) (fun _ _ _ h => h) (by rfl) ?_ hHeld ?_
                        rotate_left
                        · ((intro w hSw); (try dsimp only at hSw); go_simp <;> with_reducible rfl)
                        simp only [Act.put, List.setIfInBounds_toArray, List.set_cons_zero, List.set_cons_succ]
                        refine take_run 5 (some 50) (v := ?_) rfl rfl (by kernel_rfl) (by kernel_rfl) (by kernel_rfl) (fun _ _ _ h => h) (by rfl) ?_ hHeld ?_
                        rotate_left
                        · ((intro w hSw); (try dsimp only at hSw); go_simp <;> with_reducible rfl)
                        simp only [Act.put, List.setIfInBounds_toArray, List.set_cons_zero, List.set_cons_succ]
                        refine take_run 6 (some 51) (v := ?_) rfl rfl (by kernel_rfl) (by kernel_rfl) (by kernel_rfl) (fun _ _ _ h => h) (by rfl) ?_ hHeld ?_
                        rotate_left
                        · ((intro w hSw); (try dsimp only at hSw); go_simp <;> with_reducible rfl)
                        simp only [Act.put, List.setIfInBounds_toArray, List.set_cons_zero, List.set_cons_succ]
                        refine take_run 7 (some 52) (v := ?_) rfl rfl (by kernel_rfl) (by kernel_rfl) (by kernel_rfl) (fun _ _ _ h => h) (by rfl) ?_ hHeld ?_
                        rotate_left
                        · ((intro w hSw); (try dsimp only at hSw); go_simp <;> with_reducible rfl)
                        simp only [Act.put, List.setIfInBounds_toArray, List.set_cons_zero, List.set_cons_succ]
                        refine take_run 8 (some 53) (v := ?_) rfl rfl (by kernel_rfl) (by kernel_rfl) (by kernel_rfl) (fun _ _ _ h => h) (by rfl) ?_ hHeld ?_
                        rotate_left
                        · ((intro w hSw); (try dsimp only at hSw); go_simp <;> with_reducible rfl)
                        simp only [Act.put, List.setIfInBounds_toArray, List.set_cons_zero, List.set_cons_succ]
                        refine take_run 9 (some 54) (v := ?_) rfl rfl (by kernel_rfl) (by kernel_rfl) (by kernel_rfl) (fun _ _ _ h => h) (by rfl) ?_ hHeld ?_
                        rotate_left
                        · ((intro w hSw); (try dsimp only at hSw); go_simp <;> with_reducible rfl)
                        simp only [Act.put, List.setIfInBounds_toArray, List.set_cons_zero, List.set_cons_succ]
                        refine take_run 10 (some 55) (v := ?_) rfl rfl (by kernel_rfl) (by kernel_rfl) (by kernel_rfl) (fun _ _ _ h => h) (by rfl) ?_ hHeld ?_
                        rotate_left
                        · ((intro w hSw); (try dsimp only at hSw); go_simp <;> with_reducible rfl)
                        simp only [Act.put, List.setIfInBounds_toArray, List.set_cons_zero, List.set_cons_succ]
                        refine wpAnyH_done (by kernel_rfl) ?_ _
                        refine NoPanic.normal ?_
                        have hI2 := hHeld.2.2.2
                        clear hHeld hI
                        go_wp2
                        exact ⟨⟨j + 1, by omega, by go_num, HA, hI2⟩, by simp [intOf]; omega⟩
                      · have hl' : t ≤ x1 := by omega
                        have hf := hide (verB_f (k := k) (t := t) (u := u) (ts := ts) (s := s) (g := false) (.inr (.inr (.inr (.inr (.inr (.inr ⟨_, List.mem_of_getElem? HX.out, hl⟩)))))))
                        go_wp2_with fail
                        refine wp_region_noPanic ?_
                        refine wp_region_held_drew (S := (fun w' => w'.cell? ⟨b, off + j * 2, none⟩ = some (.int .i64 x1) ∧ w'.cell? ⟨w.heap.size, 1, none⟩ = some (.int .i64 t) ∧ w'.cell? ⟨w.heap.size, 3, none⟩ = some (.slice (some ⟨b, off, none⟩) 4 c) ∧ Inv w (w.heap.size + 1) [(w.heap.size, 36, verC k t u (some ⟨b, off, none⟩) 4 c s false)] w')) (by kernel_rfl) (by exact ⟨(hI.below.cell (p := ⟨b, off + j * 2, none⟩) hb).trans C0.out, (hI.nth 0 rfl).at 1, (hI.nth 0 rfl).at 3, hI.drew⟩) (fun hHeld => ?_)
                        refine take_run 0 (some 45) (v := ?_) rfl rfl (by kernel_rfl) (by kernel_rfl) (by kernel_rfl) (fun _ _ _ h => h) (by rfl) ?_ hHeld ?_
                        rotate_left
                        · ((intro w hSw); (try dsimp only at hSw); go_simp <;> with_reducible rfl)
                        simp only [Act.put, List.setIfInBounds_toArray, List.set_cons_zero, List.set_cons_succ]
                        refine take_run 1 (some 46) (v := ?_) rfl rfl (by kernel_rfl) (by kernel_rfl) (by kernel_rfl) (fun _ _ _ h => h) (by rfl) ?_ hHeld ?_
                        rotate_left
                        · ((intro w hSw); (try dsimp only at hSw); go_simp <;> with_reducible rfl)
                        simp only [Act.put, List.setIfInBounds_toArray, List.set_cons_zero, List.set_cons_succ]
                        refine take_run 2 (some 47) (v := ?_) rfl rfl (by kernel_rfl) (by kernel_rfl) (by kernel_rfl) (fun _ _ _ h => h) (by rfl) ?_ hHeld ?_
                        rotate_left
                        · ((intro w hSw); (try dsimp only at hSw); go_simp <;> with_reducible rfl)
                        simp only [Act.put, List.setIfInBounds_toArray, List.set_cons_zero, List.set_cons_succ]
                        refine take_run 3 (some 48) (v := ?_) rfl rfl (by kernel_rfl) (by kernel_rfl) (by kernel_rfl) (fun _ _ _ h => h) (by rfl) ?_ hHeld ?_
                        rotate_left
                        · ((intro w hSw); (try dsimp only at hSw); go_simp <;> with_reducible rfl)
                        simp only [Act.put, List.setIfInBounds_toArray, List.set_cons_zero, List.set_cons_succ]
                        refine take_run 4 (some 49) (v := ?_) rfl rfl (by kernel_rfl) (by kernel_rfl) (by kernel_rfl) (fun _ _ _ h => h) (by rfl) ?_ hHeld ?_
                        rotate_left
                        · ((intro w hSw); (try dsimp only at hSw); go_simp <;> with_reducible rfl)
                        simp only [Act.put, List.setIfInBounds_toArray, List.set_cons_zero, List.set_cons_succ]
                        refine take_run 5 (some 50) (v := ?_) rfl rfl (by kernel_rfl) (by kernel_rfl) (by kernel_rfl) (fun _ _ _ h => h) (by rfl) ?_ hHeld ?_
                        rotate_left
                        · ((intro w hSw); (try dsimp only at hSw); go_simp <;> with_reducible rfl)
                        simp only [Act.put, List.setIfInBounds_toArray, List.set_cons_zero, List.set_cons_succ]
                        refine take_run 6 (some 51) (v := ?_) rfl rfl (by kernel_rfl) (by kernel_rfl) (by kernel_rfl) (fun _ _ _ h => h) (by rfl) ?_ hHeld ?_
                        rotate_left
                        · ((intro w hSw); (try dsimp only at hSw); go_simp <;> with_reducible rfl)
                        simp only [Act.put, List.setIfInBounds_toArray, List.set_cons_zero, List.set_cons_succ]
                        refine take_run 7 (some 52) (v := ?_) rfl rfl (by kernel_rfl) (by kernel_rfl) (by kernel_rfl) (fun _ _ _ h => h) (by rfl) ?_ hHeld ?_
                        rotate_left
                        · ((intro w hSw); (try dsimp only at hSw); go_simp <;> with_reducible rfl)
                        simp only [Act.put, List.setIfInBounds_toArray, List.set_cons_zero, List.set_cons_succ]
                        refine take_run 8 (some 53) (v := ?_) rfl rfl (by kernel_rfl) (by kernel_rfl) (by kernel_rfl) (fun _ _ _ h => h) (by rfl) ?_ hHeld ?_
                        rotate_left
                        · ((intro w hSw); (try dsimp only at hSw); go_simp <;> with_reducible rfl)
                        simp only [Act.put, List.setIfInBounds_toArray, List.set_cons_zero, List.set_cons_succ]
                        refine take_run 9 (some 54) (v := ?_) rfl rfl (by kernel_rfl) (by kernel_rfl) (by kernel_rfl) (fun _ _ _ h => h) (by rfl) ?_ hHeld ?_
                        rotate_left
                        · ((intro w hSw); (try dsimp only at hSw); go_simp <;> with_reducible rfl)
                        simp only [Act.put, List.setIfInBounds_toArray, List.set_cons_zero, List.set_cons_succ]
                        refine take_run 10 (some 55) (v := ?_) rfl rfl (by kernel_rfl) (by kernel_rfl) (by kernel_rfl) (fun _ _ _ h => h) (by rfl) ?_ hHeld ?_
                        rotate_left
                        · ((intro w hSw); (try dsimp only at hSw); go_simp <;> with_reducible rfl)
                        simp only [Act.put, List.setIfInBounds_toArray, List.set_cons_zero, List.set_cons_succ]
                        refine wpAnyH_done (by kernel_rfl) ?_ _
                        refine NoPanic.normal ?_
                        have hI2 := hHeld.2.2.2
                        clear hHeld hI
                        go_wp2
                        go_ret
                        exact ⟨ret_bool hf.out.symm, hI2.below⟩
                  · have hj4 : j = 4 := by omega
                    subst hj4
                    clear hlt
                    have hf := hide (verB_t (g := false) HK.out HT.out HO.out H0.out H5.out HP.out (fun x hx => by
                      obtain ⟨m, hm⟩ := List.getElem?_of_mem hx
                      exact hA.out m x (by have := (List.getElem?_eq_some_iff.1 hm).1; have := H4.out; omega) hm))
                    go_wp2
                    go_ret
                    exact ⟨ret_bool hf.out.symm, hI.below⟩
            · go_wp2_with fail
              refine (l1PastOk_any a c ts _ hn ((ht.on S2.below).up S2.base)).mono ?_
              rintro e w4 ⟨rfl, hb4⟩
              have S3 := S2.on hb4
              clear S2 hb4 k1
              cases hpa : pastB ts
              · have hf := hide (verB_f (k := k) (t := t) (u := u) (ts := ts) (s := s) (g := true) (.inr (.inr (.inr (.inr (.inr (.inl hpa)))))))
                go_wp2
                go_ret
                exact ⟨ret_bool hf.out.symm, S3.below⟩
              · have HP := hide hpa
                have h4 := pastB_four hpa
                clear hpa
                rw [h4] at S3 ⊢
                have H4 := hide h4
                clear h4
                go_wp2
                go_loopw [3] (fun i wr => ∃ j : Nat, j ≤ 4 ∧ i = .int .i64 (j : Int) ∧ Hid (∀ m x, m < j → ts[m]? = some x → x.1 < t) ∧ Inv w (w.heap.size + 1) [(w.heap.size, 36, verC k t u a 4 c s true)] wr) (fun i _ => 4 - (intOf i).toNat)
                case atStart => exact ⟨0, by omega, rfl, fun m x hm => absurd hm (by omega), S3⟩
                case round =>
                  obtain ⟨j, hj, rfl, hA, hI⟩ := hrel
                  clear S3
                  by_cases hlt : j < 4
                  · rcases ht with e0 | ⟨b, off, rfl, hb, hx⟩
                    · have := H4.out; subst e0; simp at this
                    · have hjl : j < ts.length := by have := H4.out; omega
                      obtain ⟨hc0, hc1⟩ := hx j _ (List.getElem?_eq_getElem hjl)
                      have HX := hide (List.getElem?_eq_getElem hjl)
                      generalize ts[j] = x at hc0 hc1 HX
                      obtain ⟨x1, x2⟩ := x
                      simp only at hc0 hc1
                      have C0 := hide hc0
                      clear hc0 hc1 hx
                      have i1 : (0 : Int) ≤ (j : Int) := by omega
                      have i2 : (j : Int) < 4 := by omega
                      by_cases hl : x1 < t
                      · have hl' : ¬ t ≤ x1 := by omega
                        have HA : Hid (∀ m x, m < j + 1 → ts[m]? = some x → x.1 < t) := fun m x hm hx => by
                          by_cases e : m = j
                          · subst e
                            have h1 := HX.out
                            rw [h1] at hx
                            injection hx with hx
                            subst hx
                            exact hl
                          · exact hA.out m x (by omega) hx
                        go_wp2_with fail
                        refine wp_region_noPanic ?_
                        refine wp_region_held_drew (S := (fun w' => w'.cell? ⟨b, off + j * 2, none⟩ = some (.int .i64 x1) ∧ w'.cell? ⟨w.heap.size, 1, none⟩ = some (.int .i64 t) ∧ w'.cell? ⟨w.heap.size, 3, none⟩ = some (.slice (some ⟨b, off, none⟩) 4 c) ∧ Inv w (w.heap.size + 1) [(w.heap.size, 36, verC k t u (some ⟨b, off, none⟩) 4 c s true)] w')) (by kernel_rfl) (by exact ⟨(hI.below.cell (p := ⟨b, off + j * 2, none⟩) hb).trans C0.out, (hI.nth 0 rfl).at 1, (hI.nth 0 rfl).at 3, hI.drew⟩) (fun hHeld => ?_)
                        refine take_run 0 (some 45) (v := ?_) rfl rfl (by kernel_rfl) (by kernel_rfl) (by kernel_rfl) (fun _ _ _ h => h) (by rfl) ?_ hHeld ?_
                        rotate_left
                        · ((intro w hSw); (try dsimp only at hSw); go_simp <;> with_reducible rfl)
                        simp only [Act.put, List.setIfInBounds_toArray, List.set_cons_zero, List.set_cons_succ]
                        refine take_run 1 (some 46) (v := ?_) rfl rfl (by kernel_rfl) (by kernel_rfl) (by kernel_rfl) (fun _ _ _ h => h) (by rfl) ?_ hHeld ?_
                        rotate_left
                        · ((intro w hSw); (try dsimp only at hSw); go_simp <;> with_reducible rfl)
                        simp only [Act.put, List.setIfInBounds_toArray, List.set_cons_zero, List.set_cons_succ]
                        refine take_run 2 (some 47) (v := ?_) rfl rfl (by kernel_rfl) (by kernel_rfl) (by kernel_rfl) (fun _ _ _ h => h) (by rfl) ?_ hHeld ?_
                        rotate_left
                        · ((intro w hSw); (try dsimp only at hSw); go_simp <;> with_reducible rfl)
                        simp only [Act.put, List.setIfInBounds_toArray, List.set_cons_zero, List.set_cons_succ]
                        refine take_run 3 (some 48) (v := ?_) rfl rfl (by kernel_rfl) (by kernel_rfl) (by kernel_rfl) (fun _ _ _ h => h) (by rfl) ?_ hHeld ?_
                        rotate_left
                        · ((intro w hSw); (try dsimp only at hSw); go_simp <;> with_reducible rfl)
                        simp only [Act.put, List.setIfInBounds_toArray, List.set_cons_zero, List.set_cons_succ]
                        refine take_run 4 (some 49) (v := ?_) rfl rfl (by kernel_rfl) (by kernel_rfl) (by kernel_rfl) (fun _ _ _ h => h) (by rfl) ?_ hHeld ?_
                        rotate_left
                        · ((intro w hSw); (try dsimp only at hSw); go_simp <;> with_reducible rfl)
                        simp only [Act.put, List.setIfInBounds_toArray, List.set_cons_zero, List.set_cons_succ]
                        refine take_run 5 (some 50) (v := ?_) rfl rfl (by kernel_rfl) (by kernel_rfl) (by kernel_rfl) (fun _ _ _ h => h) (by rfl) ?_ hHeld ?_
                        rotate_left
                        · ((intro w hSw); (try dsimp only at hSw); go_simp <;> with_reducible rfl)
                        simp only [Act.put, List.setIfInBounds_toArray, List.set_cons_zero, List.set_cons_succ]
                        refine take_run 6 (some 51) (v := ?_) rfl rfl (by kernel_rfl) (by kernel_rfl) (by kernel_rfl) (fun _ _ _ h => h) (by rfl) ?_ hHeld ?_
                        rotate_left
                        · ((intro w hSw); (try dsimp only at hSw); go_simp <;> with_reducible rfl)
                        simp only [Act.put, List.setIfInBounds_toArray, List.set_cons_zero, List.set_cons_succ]
                        refine take_run 7 (some 52) (v := ?_) rfl rfl (by kernel_rfl) (by kernel_rfl) (by kernel_rfl) (fun _ _ _ h => h) (by rfl) ?_ hHeld ?_
                        rotate_left
                        · ((intro w hSw); (try dsimp only at hSw); go_simp <;> with_reducible rfl)
                        simp only [Act.put, List.setIfInBounds_toArray, List.set_cons_zero, List.set_cons_succ]
                        refine take_run 8 (some 53) (v := ?_) rfl rfl (by kernel_rfl) (by kernel_rfl) (by kernel_rfl) (fun _ _ _ h => h) (by rfl) ?_ hHeld ?_
                        rotate_left
                        · ((intro w hSw); (try dsimp only at hSw); go_simp <;> with_reducible rfl)
                        simp only [Act.put, List.setIfInBounds_toArray, List.set_cons_zero, List.set_cons_succ]
                        refine take_run 9 (some 54) (v := ?_) rfl rfl (by kernel_rfl) (by kernel_rfl) (by kernel_rfl) (fun _ _ _ h => h) (by rfl) ?_ hHeld ?_
                        rotate_left
                        · ((intro w hSw); (try dsimp only at hSw); go_simp <;> with_reducible rfl)
                        simp only [Act.put, List.setIfInBounds_toArray, List.set_cons_zero, List.set_cons_succ]
                        refine take_run 10 (some 55) (v := ?_) rfl rfl (by kernel_rfl) (by kernel_rfl) (by kernel_rfl) (fun _ _ _ h => h) (by rfl) ?_ hHeld ?_
                        rotate_left
                        · ((intro w hSw); (try dsimp only at hSw); go_simp <;> with_reducible rfl)
                        simp only [Act.put, List.setIfInBounds_toArray, List.set_cons_zero, List.set_cons_succ]
                        refine wpAnyH_done (by kernel_rfl) ?_ _
                        refine NoPanic.normal ?_
                        have hI2 := hHeld.2.2.2
                        clear hHeld hI
                        go_wp2
                        exact ⟨⟨j + 1, by omega, by go_num, HA, hI2⟩, by simp [intOf]; omega⟩
                      · have hl' : t ≤ x1 := by omega
                        have hf := hide (verB_f (k := k) (t := t) (u := u) (ts := ts) (s := s) (g := true) (.inr (.inr (.inr (.inr (.inr (.inr ⟨_, List.mem_of_getElem? HX.out, hl⟩)))))))
                        go_wp2_with fail
                        refine wp_region_noPanic ?_
                        refine wp_region_held_drew (S := (fun w' => w'.cell? ⟨b, off + j * 2, none⟩ = some (.int .i64 x1) ∧ w'.cell? ⟨w.heap.size, 1, none⟩ = some (.int .i64 t) ∧ w'.cell? ⟨w.heap.size, 3, none⟩ = some (.slice (some ⟨b, off, none⟩) 4 c) ∧ Inv w (w.heap.size + 1) [(w.heap.size, 36, verC k t u (some ⟨b, off, none⟩) 4 c s true)] w')) (by kernel_rfl) (by exact ⟨(hI.below.cell (p := ⟨b, off + j * 2, none⟩) hb).trans C0.out, (hI.nth 0 rfl).at 1, (hI.nth 0 rfl).at 3, hI.drew⟩) (fun hHeld => ?_)
                        refine take_run 0 (some 45) (v := ?_) rfl rfl (by kernel_rfl) (by kernel_rfl) (by kernel_rfl) (fun _ _ _ h => h) (by rfl) ?_ hHeld ?_
                        rotate_left
                        · ((intro w hSw); (try dsimp only at hSw); go_simp <;> with_reducible rfl)
                        simp only [Act.put, List.setIfInBounds_toArray, List.set_cons_zero, List.set_cons_succ]
                        refine take_run 1 (some 46) (v := ?_) rfl rfl (by kernel_rfl) (by kernel_rfl) (by kernel_rfl) (fun _ _ _ h => h) (by rfl) ?_ hHeld ?_
                        rotate_left
                        · ((intro w hSw); (try dsimp only at hSw); go_simp <;> with_reducible rfl)
                        simp only [Act.put, List.setIfInBounds_toArray, List.set_cons_zero, List.set_cons_succ]
                        refine take_run 2 (some 47) (v := ?_) rfl rfl (by kernel_rfl) (by kernel_rfl) (by kernel_rfl) (fun _ _ _ h => h) (by rfl) ?_ hHeld ?_
                        rotate_left
                        · ((intro w hSw); (try dsimp only at hSw); go_simp <;> with_reducible rfl)
                        simp only [Act.put, List.setIfInBounds_toArray, List.set_cons_zero, List.set_cons_succ]
                        refine take_run 3 (some 48) (v := ?_) rfl rfl (by kernel_rfl) (by kernel_rfl) (by kernel_rfl) (fun _ _ _ h => h) (by rfl) ?_ hHeld ?_
                        rotate_left
                        · ((intro w hSw); (try dsimp only at hSw); go_simp <;> with_reducible rfl)
                        simp only [Act.put, List.setIfInBounds_toArray, List.set_cons_zero, List.set_cons_succ]
                        refine take_run 4 (some 49) (v := ?_) rfl rfl (by kernel_rfl) (by kernel_rfl) (by kernel_rfl) (fun _ _ _ h => h) (by rfl) ?_ hHeld ?_
                        rotate_left
                        · ((intro w hSw); (try dsimp only at hSw); go_simp <;> with_reducible rfl)
                        simp only [Act.put, List.setIfInBounds_toArray, List.set_cons_zero, List.set_cons_succ]
                        refine take_run 5 (some 50) (v := ?_) rfl rfl (by kernel_rfl) (by kernel_rfl) (by kernel_rfl) (fun _ _ _ h => h) (by rfl) ?_ hHeld ?_
                        rotate_left
                        · ((intro w hSw); (try dsimp only at hSw); go_simp <;> with_reducible rfl)
                        simp only [Act.put, List.setIfInBounds_toArray, List.set_cons_zero, List.set_cons_succ]
                        refine take_run 6 (some 51) (v := ?_) rfl rfl (by kernel_rfl) (by kernel_rfl) (by kernel_rfl) (fun _ _ _ h => h) (by rfl) ?_ hHeld ?_
                        rotate_left
                        · ((intro w hSw); (try dsimp only at hSw); go_simp <;> with_reducible rfl)
                        simp only [Act.put, List.setIfInBounds_toArray, List.set_cons_zero, List.set_cons_succ]
                        refine take_run 7 (some 52) (v := ?_) rfl rfl (by kernel_rfl) (by kernel_rfl) (by kernel_rfl) (fun _ _ _ h => h) (by rfl) ?_ hHeld ?_
                        rotate_left
                        · ((intro w hSw); (try dsimp only at hSw); go_simp <;> with_reducible rfl)
                        simp only [Act.put, List.setIfInBounds_toArray, List.set_cons_zero, List.set_cons_succ]
                        refine take_run 8 (some 53) (v := ?_) rfl rfl (by kernel_rfl) (by kernel_rfl) (by kernel_rfl) (fun _ _ _ h => h) (by rfl) ?_ hHeld ?_
                        rotate_left
                        · ((intro w hSw); (try dsimp only at hSw); go_simp <;> with_reducible rfl)
                        simp only [Act.put, List.setIfInBounds_toArray, List.set_cons_zero, List.set_cons_succ]
                        refine take_run 9 (some 54) (v := ?_) rfl rfl (by kernel_rfl) (by kernel_rfl) (by kernel_rfl) (fun _ _ _ h => h) (by rfl) ?_ hHeld ?_
                        rotate_left
                        · ((intro w hSw); (try dsimp only at hSw); go_simp <;> with_reducible rfl)
                        simp only [Act.put, List.setIfInBounds_toArray, List.set_cons_zero, List.set_cons_succ]
                        refine take_run 10 (some 55) (v := ?_) rfl rfl (by kernel_rfl) (by kernel_rfl) (by kernel_rfl) (fun _ _ _ h => h) (by rfl) ?_ hHeld ?_
                        rotate_left
                        · ((intro w hSw); (try dsimp only at hSw); go_simp <;> with_reducible rfl)
                        simp only [Act.put, List.setIfInBounds_toArray, List.set_cons_zero, List.set_cons_succ]
                        refine wpAnyH_done (by kernel_rfl) ?_ _
                        refine NoPanic.normal ?_
                        have hI2 := hHeld.2.2.2
                        clear hHeld hI
                        go_wp2
                        go_ret
                        exact ⟨ret_bool hf.out.symm, hI2.below⟩
                  · have hj4 : j = 4 := by omega
                    subst hj4
                    clear hlt
                    have hf := hide (verB_t (g := true) HK.out HT.out HO.out H0.out (fun _ => H5.out trivial) HP.out (fun x hx => by
                      obtain ⟨m, hm⟩ := List.getElem?_of_mem hx
                      exact hA.out m x (by have := (List.getElem?_eq_some_iff.1 hm).1; have := H4.out; omega) hm))
                    go_wp2
                    go_ret
                    exact ⟨ret_bool hf.out.symm, hI.below⟩
          · have e1 : g = true ∧ s.toList.isEmpty = false := by simpa using hge
            obtain ⟨rfl, hem⟩ := e1
            have hf := hide (verB_f (k := k) (t := t) (u := u) (ts := ts) (s := s) (g := true) (.inr (.inr (.inr (.inr (.inl ⟨rfl, hem⟩))))))
            clear hge
            go_wp2
            go_ret
            exact ⟨ret_bool hf.out.symm, S2.below⟩
  · have hf := hide (verB_f (k := k) (t := t) (u := u) (ts := ts) (s := s) (g := g) (.inl hk))
    rw [decide_eq_false hk]
    go_wp2
    go_ret
    exact ⟨ret_bool hf.out.symm, S0.below⟩

end Go.Proofs.YtoechhbjfejmjaaDoor
