/- Contract of the model's functions that say whether a version is valid. Condition: at most 1048576 tags. -/
import Derived.Test.YtnaggcdhimcilaaGreatJVerOk0
import Derived.Test.YtnaggcdhimcilaaGreatJVerOk
namespace Go.Proofs.YtnaggcdhimcilaaGreat
open Go.RowKit Go.Joins

theorem pastB_four {ts : List (Int × Int)} (h : pastB ts = true) : ts.length = 4 := by
  obtain ⟨x0, x1, x2, x3, rfl⟩ := four_of h
  rfl

set_option maxRecDepth 100000 in
set_option maxHeartbeats 4000000 in
theorem l2Ok_any (k t u : Int) (a : Option Addr) (c : Nat) (ts : List (Int × Int)) (s : ByteArray) (g : Bool) (w : World) (hn : ts.length ≤ 1048576) (hs : s.size ≤ 9223372036854775807) (ht : Tg w w.heap.size a ts) :
    Calls Tryz.prog 93 #[.agg (verC k t u a ts.length c s g)] w fun e w' => e = .returned (.bool (verB k t u ts s g)) ∧ Below w.heap.size w w' := by
  have S0 := (Inv.start w).box 96 (verC k t u a ts.length c s g)
  simp only [World.size_alloc] at S0
  go_enter Tryz.func93, Tryz.ntmps93
  go_wp2_with fail
  refine (l1In_any _ _ _ _).mono ?_
  rintro e w1 ⟨rfl, rfl⟩
  by_cases hk : 0 ≤ k ∧ k ≤ 3
  · have HK := hide hk
    rw [decide_eq_true hk]
    clear hk
    go_wp2_with fail
    refine (l2TextOk_any s _ hs).mono ?_
    rintro e w2 ⟨rfl, hb2⟩
    have S1 := S0.on hb2
    clear S0 hb2
    have k1 := (S1.nth 0 rfl).six.1
    cases htx : textB s
    · have hf := hide (verB_f (k := k) (t := t) (u := u) (ts := ts) (s := s) (g := g) (.inr (.inl htx)))
      go_wp2
      go_ret
      exact ⟨ret_bool hf.out.symm, S1.below⟩
    · have HT := hide htx
      clear htx
      go_wp2_with fail
      refine (l1TagOk_any _ _ _).mono ?_
      rintro e w3 ⟨rfl, hb3⟩
      have S2 := S1.on hb3
      clear S1 hb3 k1
      have k1 := (S2.nth 0 rfl).six.1
      cases hok : okB t u
      · have hf := hide (verB_f (k := k) (t := t) (u := u) (ts := ts) (s := s) (g := g) (.inr (.inr (.inl hok))))
        go_wp2
        go_ret
        exact ⟨ret_bool hf.out.symm, S2.below⟩
      · have HO := hide hok
        clear hok
        by_cases h0 : t = 0
        · have hf := hide (verB_f (k := k) (t := t) (u := u) (ts := ts) (s := s) (g := g) (.inr (.inr (.inr (.inl h0)))))
          subst h0
          go_wp2
          go_ret
          exact ⟨ret_bool hf.out.symm, S2.below⟩
        · have h0' : (t == 0) = false := by simpa using h0
          have H0 := hide h0
          clear h0
          cases hge : (g && !s.toList.isEmpty)
          · have H5 : Hid (g = true → s.toList.isEmpty = true) := by
              intro hg
              rw [hg] at hge
              simpa using hge
            have e1 : g = false ∨ g = true ∧ s.toList.isEmpty = true := by
              cases g
              · exact .inl rfl
              · exact .inr ⟨rfl, H5.out rfl⟩
            clear hge
            rcases e1 with rfl | ⟨rfl, hem⟩
            · go_wp2_with fail
              refine (l1PastOk_any a c ts _ hn ((ht.on S2.below).up S2.base)).mono ?_
              rintro e w4 ⟨rfl, hb4⟩
              have S3 := S2.on hb4
              clear S2 hb4 k1
              cases hpa : pastB ts
              · have hf := hide (verB_f (k := k) (t := t) (u := u) (ts := ts) (s := s) (g := false) (.inr (.inr (.inr (.inr (.inr (.inl hpa)))))))
                go_wp2
                go_ret
                exact ⟨ret_bool hf.out.symm, S3.below⟩
              · have HP := hide hpa
                have h4 := pastB_four hpa
                clear hpa
                rw [h4] at S3 ⊢
                have H4 := hide h4
                clear h4
                go_wp2
                go_loopw [3] (fun i wr => ∃ j : Nat, j ≤ 4 ∧ i = .int .i64 (j : Int) ∧ Hid (∀ m x, m < j → ts[m]? = some x → x.1 < t) ∧ Inv w (w.heap.size + 1) [(w.heap.size, 96, verC k t u a 4 c s false)] wr) (fun i _ => 4 - (intOf i).toNat)
                case atStart => exact ⟨0, by omega, rfl, fun m x hm => absurd hm (by omega), S3⟩
                case round =>
                  obtain ⟨j, hj, rfl, hA, hI⟩ := hrel
                  clear S3
                  by_cases hlt : j < 4
                  · rcases ht with e0 | ⟨b, off, rfl, hb, hx⟩
                    · have := H4.out; subst e0; simp at this
                    · have hjl : j < ts.length := by have := H4.out; omega
                      obtain ⟨hc0, hc1⟩ := hx j _ (List.getElem?_eq_getElem hjl)
                      have HX := hide (List.getElem?_eq_getElem hjl)
                      generalize ts[j] = x at hc0 hc1 HX
                      obtain ⟨x1, x2⟩ := x
                      simp only at hc0 hc1
                      have C0 := hide hc0
                      clear hc0 hc1 hx
                      have i1 : (0 : Int) ≤ (j : Int) := by omega
                      have i2 : (j : Int) < 4 := by omega
                      by_cases hl : x1 < t
                      · have hl' : ¬ t ≤ x1 := by omega
                        have HA : Hid (∀ m x, m < j + 1 → ts[m]? = some x → x.1 < t) := fun m x hm hx => by
                          by_cases e : m = j
                          · subst e
                            have h1 := HX.out
                            rw [h1] at hx
                            injection hx with hx
                            subst hx
                            exact hl
                          · exact hA.out m x (by omega) hx
                        go_wp2_with fail
                        refine wp_region_noPanic ?_
                        refine wp_region_held_drew (S := (fun w' => w'.cell? ⟨b, off + j * 2, none⟩ = some (.int .i64 x1) ∧ w'.cell? ⟨w.heap.size, 1, none⟩ = some (.int .i64 t) ∧ w'.cell? ⟨w.heap.size, 3, none⟩ = some (.slice (some ⟨b, off, none⟩) 4 c) ∧ Inv w (w.heap.size + 1) [(w.heap.size, 96, verC k t u (some ⟨b, off, none⟩) 4 c s false)] w')) (by kernel_rfl) (by exact ⟨(hI.below.cell (p := ⟨b, off + j * 2, none⟩) hb).trans C0.out, (hI.nth 0 rfl).at 1, (hI.nth 0 rfl).at 3, hI.drew⟩) (fun hHeld => ?_)
                        refine take_run 0 (some 45) (v := ?_) rfl rfl (by kernel_rfl) (by kernel_rfl) (by kernel_rfl) (fun _ _ _ h => h) (by rfl) ?_ hHeld ?_
                        rotate_left
                        · ((intro w hSw); (try dsimp only at hSw); go_simp <;> with_reducible rfl)
                        simp only [Act.put, List.setIfInBounds_toArray, List.set_cons_zero, List.set_cons_succ]
                        refine take_run 1 (some 46) (v := ?_) rfl rfl (by kernel_rfl) (by kernel_rfl) (by kernel_rfl) (fun _ _ _ h => h) (by rfl) ?_ hHeld ?_
                        rotate_left
                        · ((intro w hSw); (try dsimp only at hSw); go_simp <;> with_reducible rfl)
                        simp only [Act.put, List.setIfInBounds_toArray, List.set_cons_zero, List.set_cons_succ]
                        refine take_run 2 (some 47) (v := ?_) rfl rfl (by kernel_rfl) (by kernel_rfl) (by kernel_rfl) (fun _ _ _ h => h) (by rfl) ?_ hHeld ?_
                        rotate_left
                        · ((intro w hSw); (try dsimp only at hSw); go_simp <;> with_reducible rfl)
                        simp only [Act.put, List.setIfInBounds_toArray, List.set_cons_zero, List.set_cons_succ]
                        refine take_run 3 (some 48) (v := ?_) rfl rfl (by kernel_rfl) (by kernel_rfl) (by kernel_rfl) (fun _ _ _ h => h) (by rfl) ?_ hHeld ?_
                        rotate_left
                        · ((intro w hSw); (try dsimp only at hSw); go_simp <;> with_reducible rfl)
                        simp only [Act.put, List.setIfInBounds_toArray, List.set_cons_zero, List.set_cons_succ]
                        refine take_run 4 (some 49) (v := ?_) rfl rfl (by kernel_rfl) (by kernel_rfl) (by kernel_rfl) (fun _ _ _ h => h) (by rfl) ?_ hHeld ?_
                        rotate_left
                        · ((intro w hSw); (try dsimp only at hSw); go_simp <;> with_reducible rfl)
                        simp only [Act.put, List.setIfInBounds_toArray, List.set_cons_zero, List.set_cons_succ]
                        refine take_run 5 (some 50) (v := ?_) rfl rfl (by kernel_rfl) (by kernel_rfl) (by kernel_rfl) (fun _ _ _ h => h) (by rfl) ?_ hHeld ?_
                        rotate_left
                        · ((intro w hSw); (try dsimp only at hSw); go_simp <;> with_reducible rfl)
                        simp only [Act.put, List.setIfInBounds_toArray, List.set_cons_zero, List.set_cons_succ]
                        refine take_run 6 (some 51) (v := ?_) rfl rfl (by kernel_rfl) (by kernel_rfl) (by kernel_rfl) (fun _ _ _ h => h) (by rfl) ?_ hHeld ?_
                        rotate_left
                        · ((intro w hSw); (try dsimp only at hSw); go_simp <;> with_reducible rfl)
                        simp only [Act.put, List.setIfInBounds_toArray, List.set_cons_zero, List.set_cons_succ]
                        refine take_run 7 (some 52) (v := ?_) rfl rfl (by kernel_rfl) (by kernel_rfl) (by kernel_rfl) (fun _ _ _ h => h) (by rfl) ?_ hHeld ?_
                        rotate_left
                        · ((intro w hSw); (try dsimp only at hSw); go_simp <;> with_reducible rfl)
                        simp only [Act.put, List.setIfInBounds_toArray, List.set_cons_zero, List.set_cons_succ]
                        refine take_run 8 (some 53) (v := ?_) rfl rfl (by kernel_rfl) (by kernel_rfl) (by kernel_rfl) (fun _ _ _ h => h) (by rfl) ?_ hHeld ?_
                        rotate_left
                        · ((intro w hSw); (try dsimp only at hSw); go_simp <;> with_reducible rfl)
                        simp only [Act.put, List.setIfInBounds_toArray, List.set_cons_zero, List.set_cons_succ]
                        refine take_run 9 (some 54) (v := ?_) rfl rfl (by kernel_rfl) (by kernel_rfl) (by kernel_rfl) (fun _ _ _ h => h) (by rfl) ?_ hHeld ?_
                        rotate_left
                        · ((intro w hSw); (try dsimp only at hSw); go_simp <;> with_reducible rfl)
                        simp only [Act.put, List.setIfInBounds_toArray, List.set_cons_zero, List.set_cons_succ]
                        refine take_run 10 (some 55) (v := ?_) rfl rfl (by kernel_rfl) (by kernel_rfl) (by kernel_rfl) (fun _ _ _ h => h) (by rfl) ?_ hHeld ?_
                        rotate_left
                        · ((intro w hSw); (try dsimp only at hSw); go_simp <;> with_reducible rfl)
                        simp only [Act.put, List.setIfInBounds_toArray, List.set_cons_zero, List.set_cons_succ]
                        refine wpAnyH_done (by kernel_rfl) ?_ _
                        refine NoPanic.normal ?_
                        have hI2 := hHeld.2.2.2
                        clear hHeld hI
                        go_wp2
                        exact ⟨⟨j + 1, by omega, by go_num, HA, hI2⟩, by simp [intOf]; omega⟩
                      · have hl' : t ≤ x1 := by omega
                        have hf := hide (verB_f (k := k) (t := t) (u := u) (ts := ts) (s := s) (g := false) (.inr (.inr (.inr (.inr (.inr (.inr ⟨_, List.mem_of_getElem? HX.out, hl⟩)))))))
                        go_wp2_with fail
                        refine wp_region_noPanic ?_
                        refine wp_region_held_drew (S := (fun w' => w'.cell? ⟨b, off + j * 2, none⟩ = some (.int .i64 x1) ∧ w'.cell? ⟨w.heap.size, 1, none⟩ = some (.int .i64 t) ∧ w'.cell? ⟨w.heap.size, 3, none⟩ = some (.slice (some ⟨b, off, none⟩) 4 c) ∧ Inv w (w.heap.size + 1) [(w.heap.size, 96, verC k t u (some ⟨b, off, none⟩) 4 c s false)] w')) (by kernel_rfl) (by exact ⟨(hI.below.cell (p := ⟨b, off + j * 2, none⟩) hb).trans C0.out, (hI.nth 0 rfl).at 1, (hI.nth 0 rfl).at 3, hI.drew⟩) (fun hHeld => ?_)
                        refine take_run 0 (some 45) (v := ?_) rfl rfl (by kernel_rfl) (by kernel_rfl) (by kernel_rfl) (fun _ _ _ h => h) (by rfl) ?_ hHeld ?_
                        rotate_left
                        · ((intro w hSw); (try dsimp only at hSw); go_simp <;> with_reducible rfl)
                        simp only [Act.put, List.setIfInBounds_toArray, List.set_cons_zero, List.set_cons_succ]
                        refine take_run 1 (some 46) (v := ?_) rfl rfl (by kernel_rfl) (by kernel_rfl) (by kernel_rfl) (fun _ _ _ h => h) (by rfl) ?_ hHeld ?_
                        rotate_left
                        · ((intro w hSw); (try dsimp only at hSw); go_simp <;> with_reducible rfl)
                        simp only [Act.put, List.setIfInBounds_toArray, List.set_cons_zero, List.set_cons_succ]
                        refine take_run 2 (some 47) (v := ?_) rfl rfl (by kernel_rfl) (by kernel_rfl) (by kernel_rfl) (fun _ _ _ h => h) (by rfl) ?_ hHeld ?_
                        rotate_left
                        · ((intro w hSw); (try dsimp only at hSw); go_simp <;> with_reducible rfl)
                        simp only [Act.put, List.setIfInBounds_toArray, List.set_cons_zero, List.set_cons_succ]
                        refine take_run 3 (some 48) (v := ?_) rfl rfl (by kernel_rfl) (by kernel_rfl) (by kernel_rfl) (fun _ _ _ h => h) (by rfl) ?_ hHeld ?_
                        rotate_left
                        · ((intro w hSw); (try dsimp only at hSw); go_simp <;> with_reducible rfl)
                        simp only [Act.put, List.setIfInBounds_toArray, List.set_cons_zero, List.set_cons_succ]
                        refine take_run 4 (some 49) (v := ?_) rfl rfl (by kernel_rfl) (by kernel_rfl) (by kernel_rfl) (fun _ _ _ h => h) (by rfl) ?_ hHeld ?_
                        rotate_left
                        · ((intro w hSw); (try dsimp only at hSw); go_simp <;> with_reducible rfl)
                        simp only [Act.put, List.setIfInBounds_toArray, List.set_cons_zero, List.set_cons_succ]
                        refine take_run 5 (some 50) (v := ?_) rfl rfl (by kernel_rfl) (by kernel_rfl) (by kernel_rfl) (fun _ _ _ h => h) (by rfl) ?_ hHeld ?_
                        rotate_left
                        · ((intro w hSw); (try dsimp only at hSw); go_simp <;> with_reducible rfl)
                        simp only [Act.put, List.setIfInBounds_toArray, List.set_cons_zero, List.set_cons_succ]
                        refine take_run 6 (some 51) (v := ?_) rfl rfl (by kernel_rfl) (by kernel_rfl) (by kernel_rfl) (fun _ _ _ h => h) (by rfl) ?_ hHeld ?_
                        rotate_left
                        · ((intro w hSw); (try dsimp only at hSw); go_simp <;> with_reducible rfl)
                        simp only [Act.put, List.setIfInBounds_toArray, List.set_cons_zero, List.set_cons_succ]
                        refine take_run 7 (some 52) (v := ?_) rfl rfl (by kernel_rfl) (by kernel_rfl) (by kernel_rfl) (fun _ _ _ h => h) (by rfl) ?_ hHeld ?_
                        rotate_left
                        · ((intro w hSw); (try dsimp only at hSw); go_simp <;> with_reducible rfl)
                        simp only [Act.put, List.setIfInBounds_toArray, List.set_cons_zero, List.set_cons_succ]
                        refine take_run 8 (some 53) (v := ?_) rfl rfl (by kernel_rfl) (by kernel_rfl) (by kernel_rfl) (fun _ _ _ h => h) (by rfl) ?_ hHeld ?_
                        rotate_left
                        · ((intro w hSw); (try dsimp only at hSw); go_simp <;> with_reducible rfl)
                        simp only [Act.put, List.setIfInBounds_toArray, List.set_cons_zero, List.set_cons_succ]
                        refine take_run 9 (some 54) (v := ?_) rfl rfl (by kernel_rfl) (by kernel_rfl) (by kernel_rfl) (fun _ _ _ h => h) (by rfl) ?_ hHeld ?_
                        rotate_left
                        · ((intro w hSw); (try dsimp only at hSw); go_simp <;> with_reducible rfl)
                        simp only [Act.put, List.setIfInBounds_toArray, List.set_cons_zero, List.set_cons_succ]
                        refine take_run 10 (some 55) (v := ?_) rfl rfl (by kernel_rfl) (by kernel_rfl) (by kernel_rfl) (fun _ _ _ h => h) (by rfl) ?_ hHeld ?_
                        rotate_left
                        · ((intro w hSw); (try dsimp only at hSw); go_simp <;> with_reducible rfl)
                        simp only [Act.put, List.setIfInBounds_toArray, List.set_cons_zero, List.set_cons_succ]
                        refine wpAnyH_done (by kernel_rfl) ?_ _
                        refine NoPanic.normal ?_
                        have hI2 := hHeld.2.2.2
                        clear hHeld hI
                        go_wp2
                        go_ret
                        exact ⟨ret_bool hf.out.symm, hI2.below⟩
                  · have hj4 : j = 4 := by omega
                    subst hj4
                    clear hlt
                    have hf := hide (verB_t (g := false) HK.out HT.out HO.out H0.out H5.out HP.out (fun x hx => by
                      obtain ⟨m, hm⟩ := List.getElem?_of_mem hx
                      exact hA.out m x (by have := (List.getElem?_eq_some_iff.1 hm).1; have := H4.out; omega) hm))
                    go_wp2
                    go_ret
                    exact ⟨ret_bool hf.out.symm, hI.below⟩
            · go_wp2_with fail
              refine (l1PastOk_any a c ts _ hn ((ht.on S2.below).up S2.base)).mono ?_
              rintro e w4 ⟨rfl, hb4⟩
              have S3 := S2.on hb4
              clear S2 hb4 k1
              cases hpa : pastB ts
              · have hf := hide (verB_f (k := k) (t := t) (u := u) (ts := ts) (s := s) (g := true) (.inr (.inr (.inr (.inr (.inr (.inl hpa)))))))
                go_wp2
                go_ret
                exact ⟨ret_bool hf.out.symm, S3.below⟩
              · have HP := hide hpa
                have h4 := pastB_four hpa
                clear hpa
                rw [h4] at S3 ⊢
                have H4 := hide h4
                clear h4
                go_wp2
                go_loopw [3] (fun i wr => ∃ j : Nat, j ≤ 4 ∧ i = .int .i64 (j : Int) ∧ Hid (∀ m x, m < j → ts[m]? = some x → x.1 < t) ∧ Inv w (w.heap.size + 1) [(w.heap.size, 96, verC k t u a 4 c s true)] wr) (fun i _ => 4 - (intOf i).toNat)
                case atStart => exact ⟨0, by omega, rfl, fun m x hm => absurd hm (by omega), S3⟩
                case round =>
                  obtain ⟨j, hj, rfl, hA, hI⟩ := hrel
                  clear S3
                  by_cases hlt : j < 4
                  · rcases ht with e0 | ⟨b, off, rfl, hb, hx⟩
                    · have := H4.out; subst e0; simp at this
                    · have hjl : j < ts.length := by have := H4.out; omega
                      obtain ⟨hc0, hc1⟩ := hx j _ (List.getElem?_eq_getElem hjl)
                      have HX := hide (List.getElem?_eq_getElem hjl)
                      generalize ts[j] = x at hc0 hc1 HX
                      obtain ⟨x1, x2⟩ := x
                      simp only at hc0 hc1
                      have C0 := hide hc0
                      clear hc0 hc1 hx
                      have i1 : (0 : Int) ≤ (j : Int) := by omega
                      have i2 : (j : Int) < 4 := by omega
                      by_cases hl : x1 < t
                      · have hl' : ¬ t ≤ x1 := by omega
                        have HA : Hid (∀ m x, m < j + 1 → ts[m]? = some x → x.1 < t) := fun m x hm hx => by
                          by_cases e : m = j
                          · subst e
                            have h1 := HX.out
                            rw [h1] at hx
                            injection hx with hx
                            subst hx
                            exact hl
                          · exact hA.out m x (by omega) hx
                        go_wp2_with fail
                        refine wp_region_noPanic ?_
                        refine wp_region_held_drew (S := (fun w' => w'.cell? ⟨b, off + j * 2, none⟩ = some (.int .i64 x1) ∧ w'.cell? ⟨w.heap.size, 1, none⟩ = some (.int .i64 t) ∧ w'.cell? ⟨w.heap.size, 3, none⟩ = some (.slice (some ⟨b, off, none⟩) 4 c) ∧ Inv w (w.heap.size + 1) [(w.heap.size, 96, verC k t u (some ⟨b, off, none⟩) 4 c s true)] w')) (by kernel_rfl) (by exact ⟨(hI.below.cell (p := ⟨b, off + j * 2, none⟩) hb).trans C0.out, (hI.nth 0 rfl).at 1, (hI.nth 0 rfl).at 3, hI.drew⟩) (fun hHeld => ?_)
                        refine take_run 0 (some 45) (v := ?_) rfl rfl (by kernel_rfl) (by kernel_rfl) (by kernel_rfl) (fun _ _ _ h => h) (by rfl) ?_ hHeld ?_
                        rotate_left
                        · ((intro w hSw); (try dsimp only at hSw); go_simp <;> with_reducible rfl)
                        simp only [Act.put, List.setIfInBounds_toArray, List.set_cons_zero, List.set_cons_succ]
                        refine take_run 1 (some 46) (v := ?_) rfl rfl (by kernel_rfl) (by kernel_rfl) (by kernel_rfl) (fun _ _ _ h => h) (by rfl) ?_ hHeld ?_
                        rotate_left
                        · ((intro w hSw); (try dsimp only at hSw); go_simp <;> with_reducible rfl)
                        simp only [Act.put, List.setIfInBounds_toArray, List.set_cons_zero, List.set_cons_succ]
                        refine take_run 2 (some 47) (v := ?_) rfl rfl (by kernel_rfl) (by kernel_rfl) (by kernel_rfl) (fun _ _ _ h => h) (by rfl) ?_ hHeld ?_
                        rotate_left
                        · ((intro w hSw); (try dsimp only at hSw); go_simp <;> with_reducible rfl)
                        simp only [Act.put, List.setIfInBounds_toArray, List.set_cons_zero, List.set_cons_succ]
                        refine take_run 3 (some 48) (v := ?_) rfl rfl (by kernel_rfl) (by kernel_rfl) (by kernel_rfl) (fun _ _ _ h => h) (by rfl) ?_ hHeld ?_
                        rotate_left
                        · ((intro w hSw); (try dsimp only at hSw); go_simp <;> with_reducible rfl)
                        simp only [Act.put, List.setIfInBounds_toArray, List.set_cons_zero, List.set_cons_succ]
                        refine take_run 4 (some 49) (v := ?_) rfl rfl (by kernel_rfl) (by kernel_rfl) (by kernel_rfl) (fun _ _ _ h => h) (by rfl) ?_ hHeld ?_
                        rotate_left
                        · ((intro w hSw); (try dsimp only at hSw); go_simp <;> with_reducible rfl)
                        simp only [Act.put, List.setIfInBounds_toArray, List.set_cons_zero, List.set_cons_succ]
                        refine take_run 5 (some 50) (v := ?_) rfl rfl (by kernel_rfl) (by kernel_rfl) (by kernel_rfl) (fun _ _ _ h => h) (by rfl) ?_ hHeld ?_
                        rotate_left
                        · ((intro w hSw); (try dsimp only at hSw); go_simp <;> with_reducible rfl)
                        simp only [Act.put, List.setIfInBounds_toArray, List.set_cons_zero, List.set_cons_succ]
                        refine take_run 6 (some 51) (v := ?_) rfl rfl (by kernel_rfl) (by kernel_rfl) (by kernel_rfl) (fun _ _ _ h => h) (by rfl) ?_ hHeld ?_
                        rotate_left
                        · ((intro w hSw); (try dsimp only at hSw); go_simp <;> with_reducible rfl)
                        simp only [Act.put, List.setIfInBounds_toArray, List.set_cons_zero, List.set_cons_succ]
                        refine take_run 7 (some 52) (v := ?_) rfl rfl (by kernel_rfl) (by kernel_rfl) (by kernel_rfl) (fun _ _ _ h => h) (by rfl) ?_ hHeld ?_
                        rotate_left
                        · ((intro w hSw); (try dsimp only at hSw); go_simp <;> with_reducible rfl)
                        simp only [Act.put, List.setIfInBounds_toArray, List.set_cons_zero, List.set_cons_succ]
                        refine take_run 8 (some 53) (v := ?_) rfl rfl (by kernel_rfl) (by kernel_rfl) (by kernel_rfl) (fun _ _ _ h => h) (by rfl) ?_ hHeld ?_
                        rotate_left
                        · ((intro w hSw); (try dsimp only at hSw); go_simp <;> with_reducible rfl)
                        simp only [Act.put, List.setIfInBounds_toArray, List.set_cons_zero, List.set_cons_succ]
                        refine take_run 9 (some 54) (v := ?_) rfl rfl (by kernel_rfl) (by kernel_rfl) (by kernel_rfl) (fun _ _ _ h => h) (by rfl) ?_ hHeld ?_
                        rotate_left
                        · ((intro w hSw); (try dsimp only at hSw); go_simp <;> with_reducible rfl)
                        simp only [Act.put, List.setIfInBounds_toArray, List.set_cons_zero, List.set_cons_succ]
                        refine take_run 10 (some 55) (v := ?_) rfl rfl (by kernel_rfl) (by kernel_rfl) (by kernel_rfl) (fun _ _ _ h => h) (by rfl) ?_ hHeld ?_
                        rotate_left
                        · ((intro w hSw); (try dsimp only at hSw); go_simp <;> with_reducible rfl)
                        simp only [Act.put, List.setIfInBounds_toArray, List.set_cons_zero, List.set_cons_succ]
                        refine wpAnyH_done (by kernel_rfl) ?_ _
                        refine NoPanic.normal ?_
                        have hI2 := hHeld.2.2.2
                        clear hHeld hI
                        go_wp2
                        exact ⟨⟨j + 1, by omega, by go_num, HA, hI2⟩, by simp [intOf]; omega⟩
                      · have hl' : t ≤ x1 := by omega
                        have hf := hide (verB_f (k := k) (t := t) (u := u) (ts := ts) (s := s) (g := true) (.inr (.inr (.inr (.inr (.inr (.inr ⟨_, List.mem_of_getElem? HX.out, hl⟩)))))))
                        go_wp2_with fail
                        refine wp_region_noPanic ?_
                        refine wp_region_held_drew (S := (fun w' => w'.cell? ⟨b, off + j * 2, none⟩ = some (.int .i64 x1) ∧ w'.cell? ⟨w.heap.size, 1, none⟩ = some (.int .i64 t) ∧ w'.cell? ⟨w.heap.size, 3, none⟩ = some (.slice (some ⟨b, off, none⟩) 4 c) ∧ Inv w (w.heap.size + 1) [(w.heap.size, 96, verC k t u (some ⟨b, off, none⟩) 4 c s true)] w')) (by kernel_rfl) (by exact ⟨(hI.below.cell (p := ⟨b, off + j * 2, none⟩) hb).trans C0.out, (hI.nth 0 rfl).at 1, (hI.nth 0 rfl).at 3, hI.drew⟩) (fun hHeld => ?_)
                        refine take_run 0 (some 45) (v := ?_) rfl rfl (by kernel_rfl) (by kernel_rfl) (by kernel_rfl) (fun _ _ _ h => h) (by rfl) ?_ hHeld ?_
                        rotate_left
                        · ((intro w hSw); (try dsimp only at hSw); go_simp <;> with_reducible rfl)
                        simp only [Act.put, List.setIfInBounds_toArray, List.set_cons_zero, List.set_cons_succ]
                        refine take_run 1 (some 46) (v := ?_) rfl rfl (by kernel_rfl) (by kernel_rfl) (by kernel_rfl) (fun _ _ _ h => h) (by rfl) ?_ hHeld ?_
                        rotate_left
                        · ((intro w hSw); (try dsimp only at hSw); go_simp <;> with_reducible rfl)
                        simp only [Act.put, List.setIfInBounds_toArray, List.set_cons_zero, List.set_cons_succ]
                        refine take_run 2 (some 47) (v := ?_) rfl rfl (by kernel_rfl) (by kernel_rfl) (by kernel_rfl) (fun _ _ _ h => h) (by rfl) ?_ hHeld ?_
                        rotate_left
                        · ((intro w hSw); (try dsimp only at hSw); go_simp <;> with_reducible rfl)
                        simp only [Act.put, List.setIfInBounds_toArray, List.set_cons_zero, List.set_cons_succ]
                        refine take_run 3 (some 48) (v := ?_) rfl rfl (by kernel_rfl) (by kernel_rfl) (by kernel_rfl) (fun _ _ _ h => h) (by rfl) ?_ hHeld ?_
                        rotate_left
                        · ((intro w hSw); (try dsimp only at hSw); go_simp <;> with_reducible rfl)
                        simp only [Act.put, List.setIfInBounds_toArray, List.set_cons_zero, List.set_cons_succ]
                        refine take_run 4 (some 49) (v := ?_) rfl rfl (by kernel_rfl) (by kernel_rfl) (by kernel_rfl) (fun _ _ _ h => h) (by rfl) ?_ hHeld ?_
                        rotate_left
                        · ((intro w hSw); (try dsimp only at hSw); go_simp <;> with_reducible rfl)
                        simp only [Act.put, List.setIfInBounds_toArray, List.set_cons_zero, List.set_cons_succ]
                        refine take_run 5 (some 50) (v := ?_) rfl rfl (by kernel_rfl) (by kernel_rfl) (by kernel_rfl) (fun _ _ _ h => h) (by rfl) ?_ hHeld ?_
                        rotate_left
                        · ((intro w hSw); (try dsimp only at hSw); go_simp <;> with_reducible rfl)
                        simp only [Act.put, List.setIfInBounds_toArray, List.set_cons_zero, List.set_cons_succ]
                        refine take_run 6 (some 51) (v := ?_) rfl rfl (by kernel_rfl) (by kernel_rfl) (by kernel_rfl) (fun _ _ _ h => h) (by rfl) ?_ hHeld ?_
                        rotate_left
                        · ((intro w hSw); (try dsimp only at hSw); go_simp <;> with_reducible rfl)
                        simp only [Act.put, List.setIfInBounds_toArray, List.set_cons_zero, List.set_cons_succ]
                        refine take_run 7 (some 52) (v := ?_) rfl rfl (by kernel_rfl) (by kernel_rfl) (by kernel_rfl) (fun _ _ _ h => h) (by rfl) ?_ hHeld ?_
                        rotate_left
                        · ((intro w hSw); (try dsimp only at hSw); go_simp <;> with_reducible rfl)
                        simp only [Act.put, List.setIfInBounds_toArray, List.set_cons_zero, List.set_cons_succ]
                        refine take_run 8 (some 53) (v := ?_) rfl rfl (by kernel_rfl) (by kernel_rfl) (by kernel_rfl) (fun _ _ _ h => h) (by rfl) ?_ hHeld ?_
                        rotate_left
                        · ((intro w hSw); (try dsimp only at hSw); go_simp <;> with_reducible rfl)
                        simp only [Act.put, List.setIfInBounds_toArray, List.set_cons_zero, List.set_cons_succ]
                        refine take_run 9 (some 54) (v := ?_) rfl rfl (by kernel_rfl) (by kernel_rfl) (by kernel_rfl) (fun _ _ _ h => h) (by rfl) ?_ hHeld ?_
                        rotate_left
                        · ((intro w hSw); (try dsimp only at hSw); go_simp <;> with_reducible rfl)
                        simp only [Act.put, List.setIfInBounds_toArray, List.set_cons_zero, List.set_cons_succ]
                        refine take_run 10 (some 55) (v := ?_) rfl rfl (by kernel_rfl) (by kernel_rfl) (by kernel_rfl) (fun _ _ _ h => h) (by rfl) ?_ hHeld ?_
                        rotate_left
                        · ((intro w hSw); (try dsimp only at hSw); go_simp <;> with_reducible rfl)
                        simp only [Act.put, List.setIfInBounds_toArray, List.set_cons_zero, List.set_cons_succ]
                        refine wpAnyH_done (by kernel_rfl) ?_ _
                        refine NoPanic.normal ?_
                        have hI2 := hHeld.2.2.2
                        clear hHeld hI
                        go_wp2
                        go_ret
                        exact ⟨ret_bool hf.out.symm, hI2.below⟩
                  · have hj4 : j = 4 := by omega
                    subst hj4
                    clear hlt
                    have hf := hide (verB_t (g := true) HK.out HT.out HO.out H0.out (fun _ => H5.out trivial) HP.out (fun x hx => by
                      obtain ⟨m, hm⟩ := List.getElem?_of_mem hx
                      exact hA.out m x (by have := (List.getElem?_eq_some_iff.1 hm).1; have := H4.out; omega) hm))
                    go_wp2
                    go_ret
                    exact ⟨ret_bool hf.out.symm, hI.below⟩
          · have e1 : g = true ∧ s.toList.isEmpty = false := by simpa using hge
            obtain ⟨rfl, hem⟩ := e1
            have hf := hide (verB_f (k := k) (t := t) (u := u) (ts := ts) (s := s) (g := true) (.inr (.inr (.inr (.inr (.inl ⟨rfl, hem⟩))))))
            clear hge
            go_wp2
            go_ret
            exact ⟨ret_bool hf.out.symm, S2.below⟩
  · have hf := hide (verB_f (k := k) (t := t) (u := u) (ts := ts) (s := s) (g := g) (.inl hk))
    rw [decide_eq_false hk]
    go_wp2
    go_ret
    exact ⟨ret_bool hf.out.symm, S0.below⟩

end Go.Proofs.YtnaggcdhimcilaaGreat
/- Whether a row of versions is a valid store, said plainly; contracts of the program's and the model's functions that say so. Condition: at most 1048576 versions, and tags of each. -/
namespace Go.Proofs.YtnaggcdhimcilaaGreat
open Go.RowKit Go.Joins

/-- Whether this is no version. -/
def noneC (k t u : Int) (n : Nat) (s : ByteArray) (g : Bool) : Bool := decide (k = 0) && decide (t = 0 ∧ u = 0) && decide (n = 0) && s.toList.isEmpty && !g
theorem noneC_f {k t u : Int} {n : Nat} {s : ByteArray} {g : Bool} (h : ¬ k = 0 ∨ ¬ (t = 0 ∧ u = 0) ∨ ¬ n = 0 ∨ s.toList.isEmpty = false ∨ g = true) : noneC k t u n s g = false := by
  unfold noneC
  rcases h with h | h | h | h | h
  · rw [decide_eq_false h]; rfl
  · rw [decide_eq_false h]; simp
  · rw [decide_eq_false h]; simp
  · rw [h]; simp
  · rw [h]; simp
theorem noneC_t {s : ByteArray} (h : s.toList.isEmpty = true) : noneC 0 0 0 0 s false = true := by
  unfold noneC
  rw [h]
  rfl
/-- Whether this version may lie at place i. -/
def slotB (i : Nat) (v : V) : Bool := noneC v.k v.t v.u v.ts.length v.s v.g || (decide (v.k = i) && verB v.k v.t v.u v.ts v.s v.g)
/-- Whether these versions are a store. -/
def storeB (vs : List V) : Bool := decide (vs.length = 4) && (List.range vs.length).all fun i => match vs[i]? with | some v => slotB i v | none => true
theorem storeB_len {vs : List V} (h : ¬ vs.length = 4) : storeB vs = false := by unfold storeB; simp [h]
theorem storeB_bad {vs : List V} {i : Nat} {v : V} (hi : vs[i]? = some v) (h : slotB i v = false) : storeB vs = false := by
  unfold storeB
  have : ((List.range vs.length).all fun i => match vs[i]? with | some v => slotB i v | none => true) = false := by
    rw [List.all_eq_false]
    exact ⟨i, by simpa using (List.getElem?_eq_some_iff.1 hi).1, by simp [hi, h]⟩
  rw [this]
  simp
theorem storeB_ok {vs : List V} (hl : vs.length = 4) (h : ∀ (i : Nat) (v : V), vs[i]? = some v → slotB i v = true) : storeB vs = true := by
  unfold storeB
  have : ((List.range vs.length).all fun i => match vs[i]? with | some v => slotB i v | none => true) = true := by
    rw [List.all_eq_true]
    intro i _
    cases hi : vs[i]? with
    | none => rfl
    | some v => exact h i v hi
  rw [this, decide_eq_true hl]
  rfl
theorem slot_step {vs : List V} {k : Nat} {v : V} (hA : ∀ (i : Nat) (v : V), i < k → vs[i]? = some v → slotB i v = true) (hk : vs[k]? = some v) (h : slotB k v = true) : ∀ (i : Nat) (v : V), i < k + 1 → vs[i]? = some v → slotB i v = true := fun i x hi hx => by
  by_cases e : i = k
  · subst e
    rw [hk] at hx
    injection hx with hx
    subst hx
    exact h
  · exact hA i x (by omega) hx
theorem storeB_like {vs us : List V} (hl : us.length = vs.length) (h : Like us vs) : storeB us = storeB vs := by
  have hs : ∀ i, (match us[i]? with | some v => slotB i v | none => true) = (match vs[i]? with | some v => slotB i v | none => true) := by
    intro i
    by_cases hi : i < us.length
    · have hi' : i < vs.length := by omega
      rw [List.getElem?_eq_getElem hi, List.getElem?_eq_getElem hi']
      obtain ⟨e1, e2, e3, e4, e5, e6⟩ := h i _ _ (List.getElem?_eq_getElem hi) (List.getElem?_eq_getElem hi')
      simp only [slotB, e1, e2, e3, e4, e5, e6]
    · rw [List.getElem?_eq_none (by omega), List.getElem?_eq_none (by omega)]
  unfold storeB
  rw [hl]
  congr 1
  exact congrArg (fun f => (List.range vs.length).all f) (funext hs)

theorem tagEql_ne {t u : Int} (h : ¬ (t = 0 ∧ u = 0)) (W : World) : (binOp .eql 91 (.agg #[.int .i64 t, .int .i64 u]) (.agg #[.int .i64 0, .int .i64 0])).run Tryz.prog W = .ok (.bool false) W := by
  by_cases ht : t = 0
  · have hp : ¬ u = 0 := fun e => h ⟨ht, e⟩
    subst ht
    go_simp
  · go_simp
theorem tagNeq_ne {t u : Int} (h : ¬ (t = 0 ∧ u = 0)) (W : World) : (binOp .neq 91 (.agg #[.int .i64 t, .int .i64 u]) (.agg #[.int .i64 0, .int .i64 0])).run Tryz.prog W = .ok (.bool true) W := by
  by_cases ht : t = 0
  · have hp : ¬ u = 0 := fun e => h ⟨ht, e⟩
    subst ht
    go_simp
  · go_simp

set_option maxRecDepth 100000 in
set_option maxHeartbeats 1000000 in
theorem equalTags_zero (a : Option Addr) (c : Nat) (w : World) :
    Calls Tryz.prog 142 #[.slice a 0 c, .slice none 0 0] w fun e w' => e = .returned (.bool true) ∧ w = w' := by
  go_enter Tryz.func142, Tryz.ntmps142
  go_wp2
  go_loop [13] (fun i => i = .int .i64 0) (fun _ => 0)
  case atStart => rfl
  case round =>
    obtain rfl := hrel
    go_wp2
    go_ret
    exact ⟨rfl, rfl⟩
set_option maxHeartbeats 1000000 in
theorem equalTags_more (a : Option Addr) (n c : Nat) (w : World) (hn : ¬ n = 0) :
    Calls Tryz.prog 142 #[.slice a n c, .slice none 0 0] w fun e w' => e = .returned (.bool false) ∧ w = w' := by
  have hn' : ((n : Int) != 0) = true := by simp; omega
  clear hn
  go_enter Tryz.func142, Tryz.ntmps142
  go_wp2
  go_ret
  exact ⟨rfl, rfl⟩

set_option maxRecDepth 100000 in
set_option maxHeartbeats 2000000 in
theorem verSameZero_any (k t u : Int) (a : Option Addr) (n c : Nat) (s : ByteArray) (g : Bool) (w : World) :
    Calls Tryz.prog 111 #[.agg (verC k t u a n c s g), .agg (verC 0 0 0 none 0 0 ⟨#[]⟩ false)] w fun e w' => e = .returned (.bool (noneC k t u n s g)) ∧ Below w.heap.size w w' := by
  have S0 := ((Inv.start w).box 96 (verC k t u a n c s g)).box 96 (verC 0 0 0 none 0 0 ⟨#[]⟩ false)
  by_cases hk : k = 0
  · subst hk
    by_cases ht : t = 0 ∧ u = 0
    · obtain ⟨rfl, rfl⟩ := ht
      by_cases hn : n = 0
      · subst hn
        cases hs : s.toList.isEmpty
        · have hf := hide (noneC_f (k := 0) (t := 0) (u := 0) (n := 0) (g := g) (.inr (.inr (.inr (.inl hs)))))
          go_enter Tryz.func111, Tryz.ntmps111
          go_wp2_with fail
          refine (equalTags_zero _ _ _).mono ?_
          rintro e w1 ⟨rfl, rfl⟩
          go_wp2
          go_ret
          exact ⟨ret_bool hf.out.symm, S0.below⟩
        · cases g
          · have hf := hide (noneC_t hs)
            go_enter Tryz.func111, Tryz.ntmps111
            go_wp2_with fail
            refine (equalTags_zero _ _ _).mono ?_
            rintro e w1 ⟨rfl, rfl⟩
            go_wp2
            go_ret
            exact ⟨ret_bool hf.out.symm, S0.below⟩
          · have hf := hide (noneC_f (k := 0) (t := 0) (u := 0) (n := 0) (s := s) (g := true) (.inr (.inr (.inr (.inr rfl)))))
            go_enter Tryz.func111, Tryz.ntmps111
            go_wp2_with fail
            refine (equalTags_zero _ _ _).mono ?_
            rintro e w1 ⟨rfl, rfl⟩
            go_wp2
            go_ret
            exact ⟨ret_bool hf.out.symm, S0.below⟩
      · have hf := hide (noneC_f (k := 0) (t := 0) (u := 0) (s := s) (g := g) (.inr (.inr (.inl hn))))
        go_enter Tryz.func111, Tryz.ntmps111
        go_wp2_with fail
        refine (equalTags_more _ _ _ _ hn).mono ?_
        rintro e w1 ⟨rfl, rfl⟩
        go_wp2
        go_ret
        exact ⟨ret_bool hf.out.symm, S0.below⟩
    · have hf := hide (noneC_f (k := 0) (n := n) (s := s) (g := g) (.inr (.inl ht)))
      have he := tagEql_ne ht
      clear ht
      go_enter Tryz.func111, Tryz.ntmps111
      go_wp2
      go_ret
      exact ⟨ret_bool hf.out.symm, S0.below⟩
  · have hf := hide (noneC_f (t := t) (u := u) (n := n) (s := s) (g := g) (.inl hk))
    have hk' : (k == 0) = false := by simpa using hk
    clear hk
    go_enter Tryz.func111, Tryz.ntmps111
    go_wp2
    go_ret
    exact ⟨ret_bool hf.out.symm, S0.below⟩

set_option maxHeartbeats 1000000 in
theorem verNone_any (k t u : Int) (a : Option Addr) (n c : Nat) (s : ByteArray) (g : Bool) (w : World) :
    Calls Tryz.prog 73 #[.agg (verC k t u a n c s g)] w fun e w' => e = .returned (.bool (noneC k t u n s g)) ∧ Below w.heap.size w w' := by
  have S0 := (Inv.start w).box 96 (verC k t u a n c s g)
  go_enter Tryz.func73, Tryz.ntmps73
  go_wp2_with fail
  refine (verSameZero_any _ _ _ _ _ _ _ _ _).mono ?_
  rintro e w1 ⟨rfl, hb⟩
  have hl := (S0.on hb).below
  clear S0 hb
  go_wp2
  go_ret
  exact ⟨rfl, hl⟩
end Go.Proofs.YtnaggcdhimcilaaGreat
/- Contracts of the program's and the model's functions that say whether a store is valid. Condition: at most 1048576 versions, and tags of each. -/
namespace Go.Proofs.YtnaggcdhimcilaaGreat
open Go.RowKit Go.Joins

/-- No version is too large to be read. -/
def Small (vs : List V) : Prop := ∀ v ∈ vs, v.ts.length ≤ 1048576 ∧ v.s.size ≤ 9223372036854775807
theorem slotB_none {k : Nat} {v : V} (h : noneC v.k v.t v.u v.ts.length v.s v.g = true) : slotB k v = true := by unfold slotB; rw [h]; rfl
theorem slotB_key {k : Nat} {v : V} (h : noneC v.k v.t v.u v.ts.length v.s v.g = false) (hk : ¬ v.k = k) : slotB k v = false := by unfold slotB; rw [h, decide_eq_false hk]; rfl
theorem slotB_ver {k : Nat} {v : V} (h : noneC v.k v.t v.u v.ts.length v.s v.g = false) (hk : v.k = k) : slotB k v = verB v.k v.t v.u v.ts v.s v.g := by unfold slotB; rw [h, decide_eq_true hk]; simp
theorem slotB_bad {k : Nat} {v : V} (h : noneC v.k v.t v.u v.ts.length v.s v.g = false) (hb : verB v.k v.t v.u v.ts v.s v.g = false) : slotB k v = false := by unfold slotB; rw [h, hb]; simp

set_option maxRecDepth 100000 in
set_option maxHeartbeats 2000000 in
theorem implStoreOk_any (a : Option Addr) (c : Nat) (vs : List V) (w : World) (hn : vs.length ≤ 1048576) (hm : Small vs) (hv : Vg w w.heap.size a vs) :
    Calls Tryz.prog 130 #[.agg #[.slice a vs.length c]] w fun e w' => e = .returned (.bool (storeB vs)) ∧ Below w.heap.size w w' := by
  have S0 := (Inv.start w).box 88 #[.slice a vs.length c]
  simp only [World.size_alloc] at S0
  have HM := hide hm
  clear hm
  by_cases h4 : vs.length = 4
  · have H4 := hide h4
    rw [h4] at S0 ⊢
    clear h4
    go_enter Tryz.func130, Tryz.ntmps130
    go_wp2
    go_loopw [12] (fun i wr => ∃ k : Nat, k ≤ 4 ∧ i = .int .i64 (k : Int) ∧ Hid (∀ (i : Nat) (v : V), i < k → vs[i]? = some v → slotB i v = true) ∧ Below w.heap.size w wr) (fun i _ => 4 - (intOf i).toNat)
    case atStart => exact ⟨0, by omega, rfl, fun i v hi => absurd hi (by omega), S0.below⟩
    case round =>
      obtain ⟨k, hk, rfl, hA, hL⟩ := hrel
      clear S0
      by_cases hlt : k < 4
      · rcases hv with e0 | ⟨b, off, rfl, hb, hx⟩
        · have := H4.out; subst e0; simp at this
        · have hkl : k < vs.length := by have := H4.out; omega
          obtain ⟨hS, hT⟩ := hx k _ (List.getElem?_eq_getElem hkl)
          have HX := hide (List.getElem?_eq_getElem hkl)
          have hS' := hS.keep hb fun _ hp => hL.cell hp
          have hT' := (hT.on hL).up hL.size
          generalize vs[k] = v at hS' hT' HX
          have HB := hide (HM.out v (List.mem_of_getElem? HX.out))
          have HS := hide (slot_step hA.out HX.out)
          have HF := hide (storeB_bad HX.out)
          have N1 := hide (slotB_none (k := k) (v := v))
          have N2 := hide (slotB_key (k := k) (v := v))
          have N3 := hide (slotB_ver (k := k) (v := v))
          obtain ⟨vk, vt, vu, va, vc, vts, vs', vg⟩ := v
          simp only at hS' hT' HB N1 N2 N3
          have HT := hide hT'
          clear hS hT hx hT'
          have i1 : (0 : Int) ≤ (k : Int) := by omega
          have i2 : (k : Int) < 4 := by omega
          have X0 := (Inv.start wr).box 96 (verC vk vt vu va vts.length vc vs' vg)
          simp only [World.size_alloc] at X0
          go_wp2_with fail
          refine (verNone_any _ _ _ _ _ _ _ _ _).mono ?_
          rintro e w1 ⟨rfl, hb1⟩
          have X1 := X0.on hb1
          have k1 := (X1.nth 0 rfl).six.1
          cases hno : noneC vk vt vu vts.length vs' vg
          · have N2' := hide (N2.out hno)
            have N3' := hide (N3.out hno)
            clear N1 N2 N3 X0
            by_cases hkk : vk = (k : Int)
            · have N4 := hide (N3'.out hkk)
              subst hkk
              go_wp2_with fail
              refine (implVerOk_any _ _ _ _ _ vts _ _ _ HB.out.1 HB.out.2 ((HT.out.on X1.below).up X1.base)).mono ?_
              rintro e w2 ⟨rfl, hb2⟩
              have X2 := X1.on hb2
              clear X1 k1
              cases hve : verB (k : Int) vt vu vts vs' vg
              · have hf := hide (HF.out (N4.out.trans hve))
                go_wp2
                go_ret
                exact ⟨ret_bool hf.out.symm, hL.trans (X2.below.mono hL.size)⟩
              · have HA := hide (HS.out (N4.out.trans hve))
                go_wp2
                exact ⟨⟨k + 1, by omega, by go_num, HA, hL.trans (X2.below.mono hL.size)⟩, by simp [intOf]; omega⟩
            · have hf := hide (HF.out (N2'.out hkk))
              have hkk' : (vk != (k : Int)) = true := by simpa using hkk
              clear hkk
              go_wp2
              go_ret
              exact ⟨ret_bool hf.out.symm, hL.trans (X1.below.mono hL.size)⟩
          · have HA := hide (HS.out (N1.out hno))
            clear N1 N2 N3
            go_wp2
            exact ⟨⟨k + 1, by omega, by go_num, HA, hL.trans (X1.below.mono hL.size)⟩, by simp [intOf]; omega⟩
      · have hk4 : k = 4 := by omega
        subst hk4
        clear hlt
        have hf := hide (storeB_ok H4.out (fun i v hi => hA.out i v (by have := (List.getElem?_eq_some_iff.1 hi).1; have := H4.out; omega) hi))
        go_wp2
        go_ret
        exact ⟨ret_bool hf.out.symm, hL⟩
  · have hf := hide (storeB_len h4)
    have h4' : ((vs.length : Int) != 4) = true := by simp; omega
    clear h4
    go_enter Tryz.func130, Tryz.ntmps130
    go_wp2
    go_ret
    exact ⟨ret_bool hf.out.symm, S0.below⟩

set_option maxRecDepth 100000 in
set_option maxHeartbeats 4000000 in
theorem l2StoreOk_any (a : Option Addr) (c : Nat) (vs : List V) (w : World) (hn : vs.length ≤ 1048576) (hm : Small vs) (hv : Vg w w.heap.size a vs) :
    Calls Tryz.prog 92 #[.agg #[.slice a vs.length c]] w fun e w' => e = .returned (.bool (storeB vs)) ∧ Below w.heap.size w w' := by
  have S0 := (Inv.start w).box 88 #[.slice a vs.length c]
  simp only [World.size_alloc] at S0
  have HM := hide hm
  clear hm
  generalize hnn : vs.length = n at *
  have HN := hide hnn
  clear hnn
  go_enter Tryz.func92, Tryz.ntmps92
  go_wp2
  go_loopw [3] (fun i wr => ∃ k : Nat, k ≤ n ∧ i = .int .i64 (k : Int) ∧ Hid (∀ (i : Nat) (v : V), i < k → vs[i]? = some v → slotB i v = true) ∧ Inv w (w.heap.size + 1) [(w.heap.size, 88, #[.slice a n c])] wr) (fun i _ => n - (intOf i).toNat)
  case atStart => exact ⟨0, by omega, rfl, fun i v hi => absurd hi (by omega), S0⟩
  case round =>
    obtain ⟨k, hk, rfl, hA, hI⟩ := hrel
    have k0 := (hI.nth 0 rfl).one.1
    clear S0
    by_cases hlt : k < n
    · rcases hv with e0 | ⟨b, off, rfl, hb, hx⟩
      · have := HN.out; subst e0; simp at this; omega
      · have hkl : k < vs.length := by have := HN.out; omega
        obtain ⟨hS, hT⟩ := hx k _ (List.getElem?_eq_getElem hkl)
        have HX := hide (List.getElem?_eq_getElem hkl)
        have HQ := hide hS
        have hS' := hS.keep hb fun _ hp => hI.below.cell hp
        have hT' := (hT.on hI.below).up hI.base
        generalize vs[k] = v at hS' hT' HX HQ
        have HB := hide (HM.out v (List.mem_of_getElem? HX.out))
        have HS := hide (slot_step hA.out HX.out)
        have HF := hide (storeB_bad HX.out)
        have N1 := hide (slotB_none (k := k) (v := v))
        have N2 := hide (slotB_key (k := k) (v := v))
        have N3 := hide (slotB_ver (k := k) (v := v))
        have N5 := hide (slotB_bad (k := k) (v := v))
        obtain ⟨vk, vt, vu, va, vc, vts, vs', vg⟩ := v
        simp only at hS' hT' HB N1 N2 N3 HQ N5
        have HT := hide hT'
        clear hS hT hx hT'
        have i1 : (0 : Int) ≤ (k : Int) := by omega
        have i2 : (k : Int) < (n : Int) := by omega
        by_cases htz : vt = 0 ∧ vu = 0
        · obtain ⟨rfl, rfl⟩ := htz
          have N6 : Hid (verB vk 0 0 vts vs' vg = false) := verB_f (.inr (.inr (.inr (.inl rfl))))
          by_cases h1 : vk = 0
          · subst h1
            cases h2 : vs'.toList.isEmpty
            · have hf := hide (HF.out (N5.out (noneC_f (.inr (.inr (.inr (.inl h2))))) N6.out))
              clear N1 N2 N3 N5 HQ
              go_wp2
              go_ret
              exact ⟨ret_bool hf.out.symm, hI.below⟩
            · cases vg
              · by_cases h3 : vts.length = 0
                · have h3' : ¬ ((vts.length : Int) > 0) := by omega
                  have HA := hide (HS.out (N1.out (by rw [h3]; exact noneC_t h2)))
                  clear N1 N2 N3 N5 HQ
                  go_wp2
                  exact ⟨⟨k + 1, by omega, by go_num, HA, hI⟩, by simp [intOf]; omega⟩
                · have h3' : ((vts.length : Int) > 0) := by omega
                  have hf := hide (HF.out (N5.out (noneC_f (.inr (.inr (.inl h3)))) N6.out))
                  clear N1 N2 N3 N5 HQ
                  go_wp2
                  go_ret
                  exact ⟨ret_bool hf.out.symm, hI.below⟩
              · have hf := hide (HF.out (N5.out (noneC_f (.inr (.inr (.inr (.inr rfl))))) N6.out))
                clear N1 N2 N3 N5 HQ
                go_wp2
                go_ret
                exact ⟨ret_bool hf.out.symm, hI.below⟩
          · have hf := hide (HF.out (N5.out (noneC_f (.inl h1)) N6.out))
            have h1' : (vk != 0) = true := by simpa using h1
            clear N1 N2 N3 N5 HQ h1
            go_wp2
            go_ret
            exact ⟨ret_bool hf.out.symm, hI.below⟩
        · have N0 : Hid (noneC vk vt vu vts.length vs' vg = false) := noneC_f (.inr (.inl htz))
          have he := tagNeq_ne htz
          have he2 := tagEql_ne htz
          clear htz N1
          go_wp2_with fail
          refine (l2Ok_any _ _ _ _ _ vts _ _ _ HB.out.1 HB.out.2 HT.out).mono ?_
          rintro e w2 ⟨rfl, hb2⟩
          have hI2 := hI.on hb2
          have hS2 := HQ.out.keep hb fun _ hp => hI2.below.cell hp
          clear k0
          have k0 := (hI2.nth 0 rfl).one.1
          clear hS' HQ hI
          cases hve : verB vk vt vu vts vs' vg
          · have hf := hide (HF.out (N5.out N0.out hve))
            clear N2 N3 N5
            go_wp2
            go_ret
            exact ⟨ret_bool hf.out.symm, hI2.below⟩
          · by_cases hkk : vk = (k : Int)
            · have HA := hide (HS.out ((N3.out N0.out hkk).trans hve))
              clear N2 N3 N5 hve
              subst hkk
              go_wp2
              exact ⟨⟨k + 1, by omega, by go_num, HA, hI2⟩, by simp [intOf]; omega⟩
            · have hf := hide (HF.out (N2.out N0.out hkk))
              have hkk' : (vk != (k : Int)) = true := by simpa using hkk
              clear hkk N2 N3 N5 hve
              go_wp2
              go_ret
              exact ⟨ret_bool hf.out.symm, hI2.below⟩
    · have hkn : k = n := by omega
      subst hkn
      clear hlt
      by_cases h4 : k = 4
      · have hf := hide (storeB_ok (HN.out.trans h4) (fun i v hi => hA.out i v (by have := (List.getElem?_eq_some_iff.1 hi).1; have := HN.out; omega) hi))
        subst h4
        go_wp2
        go_ret
        exact ⟨ret_bool hf.out.symm, hI.below⟩
      · have hf := hide (storeB_len (fun e => h4 (HN.out.symm.trans e)))
        have h4' : ((k : Int) == 4) = false := by simp; omega
        clear h4
        go_wp2
        go_ret
        exact ⟨ret_bool hf.out.symm, hI.below⟩

end Go.Proofs.YtnaggcdhimcilaaGreat
