/- Contracts of the functions that say whether a store is closed, in the program and in the model. Condition: at most 1048576 versions, and tags of each. -/
import Derived.Test.YtnblnafajlnofaaStoreTags
import Derived.Test.YtnblnafajlnofaaPastWithin
namespace Go.Proofs.Ytnblnafajlnofaa
open Go.RowKit Go.Joins
attribute [local go_sem ↓] Go.wp_at_zero Go.wp_at_succ

/-- Whether these versions are a store that has all causes of what it has. -/
def closedB (vs : List V) : Bool := storeB vs && vs.all fun v => decide (v.t ≤ 0) || withinB v.ts (tagsL vs)
theorem closedB_no {vs : List V} (h : storeB vs = false) : closedB vs = false := by unfold closedB; rw [h]; rfl
theorem closedB_bad {vs : List V} {k : Nat} {v : V} (hk : vs[k]? = some v) (ht : 0 < v.t) (h : withinB v.ts (tagsL vs) = false) : closedB vs = false := by
  unfold closedB
  have : (vs.all fun v => decide (v.t ≤ 0) || withinB v.ts (tagsL vs)) = false := by
    rw [List.all_eq_false]
    exact ⟨v, List.mem_of_getElem? hk, by rw [h, decide_eq_false (by omega)]; simp⟩
  rw [this]
  simp
theorem closedB_ok {vs : List V} (h : storeB vs = true) (hall : ∀ (k : Nat) (v : V), vs[k]? = some v → v.t ≤ 0 ∨ withinB v.ts (tagsL vs) = true) : closedB vs = true := by
  unfold closedB
  have : (vs.all fun v => decide (v.t ≤ 0) || withinB v.ts (tagsL vs)) = true := by
    rw [List.all_eq_true]
    intro v hv
    obtain ⟨k, hk⟩ := List.getElem?_of_mem hv
    rcases hall k v hk with h1 | h1
    · rw [decide_eq_true h1]; rfl
    · rw [h1]; simp
  rw [this, h]
  rfl
theorem closed_step {vs : List V} {k : Nat} {v : V} (hA : ∀ (i : Nat) (v : V), i < k → vs[i]? = some v → v.t ≤ 0 ∨ withinB v.ts (tagsL vs) = true) (hk : vs[k]? = some v) (h : v.t ≤ 0 ∨ withinB v.ts (tagsL vs) = true) : ∀ (i : Nat) (v : V), i < k + 1 → vs[i]? = some v → v.t ≤ 0 ∨ withinB v.ts (tagsL vs) = true := fun i x hi hx => by
  by_cases e : i = k
  · subst e
    rw [hk] at hx
    injection hx with hx
    subst hx
    exact h
  · exact hA i x (by omega) hx
theorem slot_of {vs : List V} {i : Nat} {v : V} (h : storeB vs = true) (hi : vs[i]? = some v) : slotB i v = true := by
  cases hs : slotB i v
  · rw [storeB_bad hi hs] at h; cases h
  · rfl
theorem verB_parts {k t u : Int} {ts : List (Int × Int)} {s : ByteArray} {g : Bool} (h : verB k t u ts s g = true) : okB t u = true ∧ ¬ t = 0 ∧ pastB ts = true := by
  refine ⟨?_, ?_, ?_⟩
  · cases ho : okB t u
    · rw [verB_f (.inr (.inr (.inl ho)))] at h; cases h
    · rfl
  · intro h0
    rw [verB_f (.inr (.inr (.inr (.inl h0))))] at h
    cases h
  · cases ho : pastB ts
    · rw [verB_f (.inr (.inr (.inr (.inr (.inr (.inl ho))))))] at h; cases h
    · rfl
theorem slot_cases {i : Nat} {v : V} (h : slotB i v = true) : (noneC v.k v.t v.u v.ts.length v.s v.g = true ∧ v.t = 0 ∧ v.u = 0) ∨ (noneC v.k v.t v.u v.ts.length v.s v.g = false ∧ okB v.t v.u = true ∧ 0 < v.t ∧ pastB v.ts = true) := by
  cases hn : noneC v.k v.t v.u v.ts.length v.s v.g
  · right
    have hv : verB v.k v.t v.u v.ts v.s v.g = true := by
      cases hb : verB v.k v.t v.u v.ts v.s v.g
      · rw [slotB_bad hn hb] at h; cases h
      · rfl
    obtain ⟨h1, h2, h3⟩ := verB_parts hv
    exact ⟨rfl, h1, by have := okB_zero h1; omega, h3⟩
  · exact .inl ⟨rfl, noneC_tag hn⟩
theorem pastB_tags {vs : List V} (h : storeB vs = true) : pastB (tagsL vs) = true := by
  refine pastB_ok ((tagsL_len vs).trans (storeB_four h)) (fun k x hx => ?_)
  unfold tagsL at hx
  rw [List.getElem?_map] at hx
  obtain ⟨v, hv, rfl⟩ := Option.map_eq_some_iff.1 hx
  rcases slot_cases (slot_of h hv) with ⟨_, h1, h2⟩ | ⟨_, h1, _⟩
  · exact decide_eq_true (.inl ⟨h1, h2⟩)
  · exact h1

set_option maxRecDepth 100000 in
set_option maxHeartbeats 2000000 in
theorem implStoreClosed_any (a : Option Addr) (c : Nat) (vs : List V) (w : World) (hn : vs.length ≤ 1048576) (hm : Small vs) (hv : Vg w w.heap.size a vs) :
    Calls Try.prog 69 #[.agg #[.slice a vs.length c]] w fun e w' => e = .returned (.bool (closedB vs)) ∧ Below w.heap.size w w' := by
  have S0 := (Inv.start w).box 70 #[.slice a vs.length c]
  simp only [World.size_alloc] at S0
  have C0 := implStoreOk_any a c vs _ hn hm ((hv.on S0.below).up S0.base)
  have HM := hide hm
  clear hm
  cases hok : storeB vs
  · have hf := hide (closedB_no hok)
    rw [hok] at C0
    clear hok
    go_enter Try.func69, Try.ntmps69
    go_wp2_with fail
    refine C0.mono ?_
    rintro e w1 ⟨rfl, hb1⟩
    have S1 := S0.on hb1
    clear S0 C0
    go_wp2
    go_ret
    exact ⟨ret_bool hf.out.symm, S1.below⟩
  · have HK := hide hok
    have h4 := storeB_four hok
    have H4 := hide h4
    rw [hok] at C0
    rw [h4] at C0 S0 ⊢
    clear hok h4
    go_enter Try.func69, Try.ntmps69
    go_wp2_with fail
    refine C0.mono ?_
    rintro e w1 ⟨rfl, hb1⟩
    have S1 := S0.on hb1
    have k1 := (S1.nth 0 rfl).one.1
    clear S0 C0 hb1
    go_wp2_with fail
    refine (implStoreTags_ok a c vs _ HK.out HM.out ((hv.on S1.below).up S1.base)).mono ?_
    rintro e w2 ⟨g2, cap2, T2, cur2, rfl, hg2, hB2, hsz2, hcur2, hb2⟩
    have S2 := (((S1.on hb2).add (by have := S1.base; omega) hB2)).box 33 #[.slice (some ⟨g2, 0, none⟩) 4 cap2]
    have HC := hide hcur2
    have k2 := (S2.nth 2 rfl).one.1
    clear S1 k1 hcur2
    go_wp2_with fail
    go_loopw [14] (fun i wr => ∃ k : Nat, k ≤ 4 ∧ i = .int .i64 (k : Int) ∧ Hid (∀ (i : Nat) (v : V), i < k → vs[i]? = some v → v.t ≤ 0 ∨ withinB v.ts (tagsL vs) = true) ∧ Inv w (w2.heap.size + 1) [(w2.heap.size, 33, #[.slice (some ⟨g2, 0, none⟩) 4 cap2]), (g2, T2, cur2), (w.heap.size, 70, #[.slice a 4 c])] wr) (fun i _ => 4 - (intOf i).toNat)
    case atStart => exact ⟨0, by omega, rfl, fun i v hi => absurd hi (by omega), by simpa only [World.size_alloc] using S2⟩
    case round =>
      obtain ⟨k, hk, rfl, hA, hI⟩ := hrel
      clear S2 k2
      have hL := hI.below
      by_cases hlt : k < 4
      · rcases hv with e0 | ⟨b, off, rfl, hb, hx⟩
        · have := H4.out; subst e0; simp at this
        · have hkl : k < vs.length := by have := H4.out; omega
          obtain ⟨hS, hT⟩ := hx k _ (List.getElem?_eq_getElem hkl)
          have HX := hide (List.getElem?_eq_getElem hkl)
          have hS' := hS.keep hb fun _ hp => hL.cell hp
          have hT' := (hT.on hL).up hL.size
          generalize vs[k] = v at hS' hT' HX
          have HB := hide (HM.out v (List.mem_of_getElem? HX.out))
          have HS := hide (closed_step hA.out HX.out)
          have HF := hide (closedB_bad HX.out)
          have SC := slot_cases (slot_of HK.out HX.out)
          obtain ⟨vk, vt, vu, va, vc, vts, vs', vg⟩ := v
          simp only at hS' hT' HB HS HF SC
          have HT := hide hT'
          clear hS hT hx hT'
          have i1 : (0 : Int) ≤ (k : Int) := by omega
          have i2 : (k : Int) < 4 := by omega
          have X0 := hI.top.box 59 (verC vk vt vu va vts.length vc vs' vg)
          go_wp2_with fail
          refine (verNone_any _ _ _ _ _ _ _ _ _).mono ?_
          rintro e w3 ⟨rfl, hb3⟩
          have X1 := X0.on hb3
          have k3 := (X1.nth 0 rfl).six.1
          have k4 := (X1.nth 1 rfl).one.1
          have I3 := ((hI.alloc (.cells (verC vk vt vu va vts.length vc vs' vg) 59)).on hb3)
          clear X0
          rcases SC with ⟨h1, h2, h3⟩ | ⟨h1, h2, h3, h5⟩
          · have HA := hide (HS.out (.inl (by omega)))
            clear HS HF h2 h3
            go_wp2
            exact ⟨⟨k + 1, by omega, by go_num, HA, I3⟩, by simp [intOf]; omega⟩
          · have P3 := hide h3
            have P5 := hide h5
            have h54 := hide (pastB_four h5)
            clear h2 h3 h5
            have TG : Tg w3 w3.heap.size (some ⟨g2, 0, none⟩) (tagsL vs) := Tg.of (I3.nth 1 rfl) (I3.nth 1 rfl).inside HC.out
            have CW := implPastWithin_any va (some ⟨g2, 0, none⟩) vc cap2 vts (tagsL vs) w3 HB.out.1 (by rw [tagsL_len]; have := H4.out; omega) ((HT.out.on (hI.top.alloc (.cells (verC vk vt vu va vts.length vc vs' vg) 59) |>.on hb3 |> fun h => (below_alloc1 wr (.cells (verC vk vt vu va vts.length vc vs' vg) 59)).trans (hb3.mono (by simp)))).up (by have := hb3.size; simp at this; omega)) TG
            rw [tagsL_len, H4.out, pwB_3 P5.out (pastB_tags HK.out)] at CW
            go_wp2_with fail
            refine CW.mono ?_
            rintro e w4 ⟨rfl, hb4⟩
            have I4 := I3.on hb4
            clear X1 I3 CW TG k3 k4
            cases hwi : withinB vts (tagsL vs)
            · have hf := hide (HF.out P3.out hwi)
              clear HS HF
              go_wp2
              go_ret
              exact ⟨ret_bool hf.out.symm, I4.below⟩
            · have HA := hide (HS.out (.inr hwi))
              clear HS HF
              go_wp2
              exact ⟨⟨k + 1, by omega, by go_num, HA, I4⟩, by simp [intOf]; omega⟩
      · have hk4 : k = 4 := by omega
        subst hk4
        clear hlt
        have hf := hide (closedB_ok HK.out (fun i v hi => hA.out i v (by have := (List.getElem?_eq_some_iff.1 hi).1; have := H4.out; omega) hi))
        go_wp2
        go_ret
        exact ⟨ret_bool hf.out.symm, hL⟩

set_option maxRecDepth 100000 in
set_option maxHeartbeats 2000000 in
theorem l2Closed_any (a : Option Addr) (c : Nat) (vs : List V) (w : World) (hok : storeB vs = true) (hm : Small vs) (hv : Vg w w.heap.size a vs) :
    Calls Try.prog 109 #[.agg #[.slice a 4 c]] w fun e w' => e = .returned (.bool (closedB vs)) ∧ Below w.heap.size w w' := by
  have S0 := (Inv.start w).box 70 #[.slice a 4 c]
  simp only [World.size_alloc] at S0
  have HM := hide hm
  have HK := hide hok
  have H4 := hide (storeB_four hok)
  clear hm hok
  go_enter Try.func109, Try.ntmps109
  go_wp2_with fail
  refine (l2Tags_any a c vs _ H4.out ((hv.on S0.below).up S0.base)).mono ?_
  rintro e w2 ⟨g2, cap2, T2, cur2, rfl, hg2, hB2, hsz2, hcur2, hb2⟩
  have S2 := (((S0.on hb2).add (by have := S0.base; omega) hB2)).box 33 #[.slice (some ⟨g2, 0, none⟩) 4 cap2]
  have HC := hide hcur2
  clear S0 hcur2
  go_wp2_with fail
  go_loopw [4] (fun i wr => ∃ k : Nat, k ≤ 4 ∧ i = .int .i64 (k : Int) ∧ Hid (∀ (i : Nat) (v : V), i < k → vs[i]? = some v → v.t ≤ 0 ∨ withinB v.ts (tagsL vs) = true) ∧ Inv w (w2.heap.size + 1) [(w2.heap.size, 33, #[.slice (some ⟨g2, 0, none⟩) 4 cap2]), (g2, T2, cur2), (w.heap.size, 70, #[.slice a 4 c])] wr) (fun i _ => 4 - (intOf i).toNat)
  case atStart => exact ⟨0, by omega, rfl, fun i v hi => absurd hi (by omega), by simpa only [World.size_alloc] using S2⟩
  case round =>
    obtain ⟨k, hk, rfl, hA, hI⟩ := hrel
    clear S2
    have hL := hI.below
    have k0 := (hI.nth 2 rfl).one.1
    by_cases hlt : k < 4
    · rcases hv with e0 | ⟨b, off, rfl, hb, hx⟩
      · have := H4.out; subst e0; simp at this
      · have hkl : k < vs.length := by have := H4.out; omega
        obtain ⟨hS, hT⟩ := hx k _ (List.getElem?_eq_getElem hkl)
        have HX := hide (List.getElem?_eq_getElem hkl)
        have Q := hide hS
        have HT := hide hT
        generalize vs[k] = v at Q HT HX
        have HS := hide (closed_step hA.out HX.out)
        have HF := hide (closedB_bad HX.out)
        have SC := slot_cases (slot_of HK.out HX.out)
        obtain ⟨vk, vt, vu, va, vc, vts, vs', vg⟩ := v
        simp only at Q HT HS HF SC
        clear hS hT hx
        have i1 : (0 : Int) ≤ (k : Int) := by omega
        have i2 : (k : Int) < 4 := by omega
        rcases SC with ⟨h1, h2, h3⟩ | ⟨h1, h2, h3, h5⟩
        · have HA := hide (HS.out (.inl (by omega)))
          clear HS HF h1 h3
          subst h2
          go_wp2_with fail
          refine wp_region_noPanic ?_
          refine wp_region_held_drew (S := (fun w' => Six w' b (off + k * 6) ⟨vk, 0, vu, va, vc, vts, vs', vg⟩ ∧ w'.cell? ⟨w.heap.size, 0, none⟩ = some (.slice (some ⟨b, off, none⟩) 4 c) ∧ w'.cell? ⟨w2.heap.size, 0, none⟩ = some (.slice (some ⟨g2, 0, none⟩) 4 cap2) ∧ Inv w (w2.heap.size + 1) [(w2.heap.size, 33, #[.slice (some ⟨g2, 0, none⟩) 4 cap2]), (g2, T2, cur2), (w.heap.size, 70, #[.slice (some ⟨b, off, none⟩) 4 c])] w')) (by kernel_rfl) (by exact ⟨Q.out.keep hb fun _ hp => hL.cell hp, (hI.nth 2 rfl).at 0, (hI.nth 0 rfl).at 0, hI.drew⟩) (fun hHeld => ?_)
          refine take_run 0 (some 14) (v := ?_) rfl rfl (by kernel_rfl) (by kernel_rfl) (by kernel_rfl) (fun _ _ _ h => h) (by rfl) ?_ hHeld ?_
          rotate_left
          · ((intro w hSw); (try dsimp only at hSw); go_simp <;> with_reducible rfl)
          simp only [Act.put, List.setIfInBounds_toArray, List.set_cons_zero, List.set_cons_succ]
          refine take_run 1 (some 15) (v := ?_) rfl rfl (by kernel_rfl) (by kernel_rfl) (by kernel_rfl) (fun _ _ _ h => h) (by rfl) ?_ hHeld ?_
          rotate_left
          · ((intro w hSw); (try dsimp only at hSw); go_simp <;> with_reducible rfl)
          simp only [Act.put, List.setIfInBounds_toArray, List.set_cons_zero, List.set_cons_succ]
          refine take_run 2 (some 16) (v := ?_) rfl rfl (by kernel_rfl) (by kernel_rfl) (by kernel_rfl) (fun _ _ _ h => h) (by rfl) ?_ hHeld ?_
          rotate_left
          · ((intro w hSw); (try dsimp only at hSw); go_simp <;> with_reducible rfl)
          simp only [Act.put, List.setIfInBounds_toArray, List.set_cons_zero, List.set_cons_succ]
          refine take_run 3 (some 17) (v := ?_) rfl rfl (by kernel_rfl) (by kernel_rfl) (by kernel_rfl) (fun _ _ _ h => h) (by rfl) ?_ hHeld ?_
          rotate_left
          · ((intro w hSw); (try dsimp only at hSw); go_simp <;> with_reducible rfl)
          simp only [Act.put, List.setIfInBounds_toArray, List.set_cons_zero, List.set_cons_succ]
          refine take_run 4 (some 18) (v := ?_) rfl rfl (by kernel_rfl) (by kernel_rfl) (by kernel_rfl) (fun _ _ _ h => h) (by rfl) ?_ hHeld ?_
          rotate_left
          · ((intro w hSw); (try dsimp only at hSw); go_simp <;> with_reducible rfl)
          simp only [Act.put, List.setIfInBounds_toArray, List.set_cons_zero, List.set_cons_succ]
          refine take_run 5 (some 19) (v := ?_) rfl rfl (by kernel_rfl) (by kernel_rfl) (by kernel_rfl) (fun _ _ _ h => h) (by rfl) ?_ hHeld ?_
          rotate_left
          · ((intro w hSw); (try dsimp only at hSw); go_simp <;> with_reducible rfl)
          simp only [Act.put, List.setIfInBounds_toArray, List.set_cons_zero, List.set_cons_succ]
          refine take_run 6 (some 20) (v := ?_) rfl rfl (by kernel_rfl) (by kernel_rfl) (by kernel_rfl) (fun _ _ _ h => h) (by rfl) ?_ hHeld ?_
          rotate_left
          · ((intro w hSw); (try dsimp only at hSw); go_simp <;> with_reducible rfl)
          simp only [Act.put, List.setIfInBounds_toArray, List.set_cons_zero, List.set_cons_succ]
          refine take_run 7 (some 21) (v := ?_) rfl rfl (by kernel_rfl) (by kernel_rfl) (by kernel_rfl) (fun _ _ _ h => h) (by rfl) ?_ hHeld ?_
          rotate_left
          · ((intro w hSw); (try dsimp only at hSw); go_simp <;> with_reducible rfl)
          simp only [Act.put, List.setIfInBounds_toArray, List.set_cons_zero, List.set_cons_succ]
          refine take_run 8 (some 22) (v := ?_) rfl rfl (by kernel_rfl) (by kernel_rfl) (by kernel_rfl) (fun _ _ _ h => h) (by rfl) ?_ hHeld ?_
          rotate_left
          · ((intro w hSw); (try dsimp only at hSw); go_simp <;> with_reducible rfl)
          simp only [Act.put, List.setIfInBounds_toArray, List.set_cons_zero, List.set_cons_succ]
          refine take_skip 9 (some 23) rfl rfl (by kernel_rfl) (by kernel_rfl) (by kernel_rfl) (fun _ _ _ h => h) (by rfl) hHeld ?_
          simp only [Act.put, List.setIfInBounds_toArray, List.set_cons_zero, List.set_cons_succ]
          refine take_skip 10 (some 24) rfl rfl (by kernel_rfl) (by kernel_rfl) (by kernel_rfl) (fun _ _ _ h => h) (by rfl) hHeld ?_
          simp only [Act.put, List.setIfInBounds_toArray, List.set_cons_zero, List.set_cons_succ]
          refine take_skip 11 (some 25) rfl rfl (by kernel_rfl) (by kernel_rfl) (by kernel_rfl) (fun _ _ _ h => h) (by rfl) hHeld ?_
          simp only [Act.put, List.setIfInBounds_toArray, List.set_cons_zero, List.set_cons_succ]
          refine take_skip 12 (some 26) rfl rfl (by kernel_rfl) (by kernel_rfl) (by kernel_rfl) (fun _ _ _ h => h) (by rfl) hHeld ?_
          simp only [Act.put, List.setIfInBounds_toArray, List.set_cons_zero, List.set_cons_succ]
          refine take_skip 13 (some 27) rfl rfl (by kernel_rfl) (by kernel_rfl) (by kernel_rfl) (fun _ _ _ h => h) (by rfl) hHeld ?_
          simp only [Act.put, List.setIfInBounds_toArray, List.set_cons_zero, List.set_cons_succ]
          refine take_skip 14 (some 28) rfl rfl (by kernel_rfl) (by kernel_rfl) (by kernel_rfl) (fun _ _ _ h => h) (by rfl) hHeld ?_
          simp only [Act.put, List.setIfInBounds_toArray, List.set_cons_zero, List.set_cons_succ]
          refine take_skip 15 (some 29) rfl rfl (by kernel_rfl) (by kernel_rfl) (by kernel_rfl) (fun _ _ _ h => h) (by rfl) hHeld ?_
          simp only [Act.put, List.setIfInBounds_toArray, List.set_cons_zero, List.set_cons_succ]
          refine take_skip 16 (some 30) rfl rfl (by kernel_rfl) (by kernel_rfl) (by kernel_rfl) (fun _ _ _ h => h) (by rfl) hHeld ?_
          simp only [Act.put, List.setIfInBounds_toArray, List.set_cons_zero, List.set_cons_succ]
          refine take_skip 17 (some 31) rfl rfl (by kernel_rfl) (by kernel_rfl) (by kernel_rfl) (fun _ _ _ h => h) (by rfl) hHeld ?_
          simp only [Act.put, List.setIfInBounds_toArray, List.set_cons_zero, List.set_cons_succ]
          refine take_run 18 (some 32) (v := ?_) rfl rfl (by kernel_rfl) (by kernel_rfl) (by kernel_rfl) (fun _ _ _ h => h) (by rfl) ?_ hHeld ?_
          rotate_left
          · ((intro w hSw); (try dsimp only at hSw); go_simp <;> with_reducible rfl)
          simp only [Act.put, List.setIfInBounds_toArray, List.set_cons_zero, List.set_cons_succ]
          refine wpAnyH_done (by kernel_rfl) ?_ _
          refine NoPanic.normal ?_
          have I4 := hHeld.2.2.2
          clear hHeld hI k0
          go_wp2
          exact ⟨⟨k + 1, by omega, by go_num, HA, I4⟩, by simp [intOf]; omega⟩
        · have P3 := hide h3
          have P4 := hide (pastB_four h5)
          have ht0 : vt > 0 := by omega
          have CW := fun (w3 : World) (hp : Tg w3 w3.heap.size va vts) (hq : Tg w3 w3.heap.size (some ⟨g2, 0, none⟩) (tagsL vs)) => l1Within_any va (some ⟨g2, 0, none⟩) vc cap2 vts (tagsL vs) w3 P4.out ((tagsL_len vs).trans H4.out) hp hq
          have h54 := P4.out
          have CW' := hide CW
          clear h1 h2 h3 h5 CW
          cases hwi : withinB vts (tagsL vs)
          · have hf := hide (HF.out P3.out hwi)
            clear HS HF
            go_wp2_with fail
            refine wp_region_noPanic ?_
            refine wp_region_held_drew (S := (fun w' => Six w' b (off + k * 6) ⟨vk, vt, vu, va, vc, vts, vs', vg⟩ ∧ w'.cell? ⟨w.heap.size, 0, none⟩ = some (.slice (some ⟨b, off, none⟩) 4 c) ∧ w'.cell? ⟨w2.heap.size, 0, none⟩ = some (.slice (some ⟨g2, 0, none⟩) 4 cap2) ∧ Inv w (w2.heap.size + 1) [(w2.heap.size, 33, #[.slice (some ⟨g2, 0, none⟩) 4 cap2]), (g2, T2, cur2), (w.heap.size, 70, #[.slice (some ⟨b, off, none⟩) 4 c])] w')) (by kernel_rfl) (by exact ⟨Q.out.keep hb fun _ hp => hL.cell hp, (hI.nth 2 rfl).at 0, (hI.nth 0 rfl).at 0, hI.drew⟩) (fun hHeld => ?_)
            refine take_run 0 (some 14) (v := ?_) rfl rfl (by kernel_rfl) (by kernel_rfl) (by kernel_rfl) (fun _ _ _ h => h) (by rfl) ?_ hHeld ?_
            rotate_left
            · ((intro w hSw); (try dsimp only at hSw); go_simp <;> with_reducible rfl)
            simp only [Act.put, List.setIfInBounds_toArray, List.set_cons_zero, List.set_cons_succ]
            refine take_run 1 (some 15) (v := ?_) rfl rfl (by kernel_rfl) (by kernel_rfl) (by kernel_rfl) (fun _ _ _ h => h) (by rfl) ?_ hHeld ?_
            rotate_left
            · ((intro w hSw); (try dsimp only at hSw); go_simp <;> with_reducible rfl)
            simp only [Act.put, List.setIfInBounds_toArray, List.set_cons_zero, List.set_cons_succ]
            refine take_run 2 (some 16) (v := ?_) rfl rfl (by kernel_rfl) (by kernel_rfl) (by kernel_rfl) (fun _ _ _ h => h) (by rfl) ?_ hHeld ?_
            rotate_left
            · ((intro w hSw); (try dsimp only at hSw); go_simp <;> with_reducible rfl)
            simp only [Act.put, List.setIfInBounds_toArray, List.set_cons_zero, List.set_cons_succ]
            refine take_run 3 (some 17) (v := ?_) rfl rfl (by kernel_rfl) (by kernel_rfl) (by kernel_rfl) (fun _ _ _ h => h) (by rfl) ?_ hHeld ?_
            rotate_left
            · ((intro w hSw); (try dsimp only at hSw); go_simp <;> with_reducible rfl)
            simp only [Act.put, List.setIfInBounds_toArray, List.set_cons_zero, List.set_cons_succ]
            refine take_run 4 (some 18) (v := ?_) rfl rfl (by kernel_rfl) (by kernel_rfl) (by kernel_rfl) (fun _ _ _ h => h) (by rfl) ?_ hHeld ?_
            rotate_left
            · ((intro w hSw); (try dsimp only at hSw); go_simp <;> with_reducible rfl)
            simp only [Act.put, List.setIfInBounds_toArray, List.set_cons_zero, List.set_cons_succ]
            refine take_run 5 (some 19) (v := ?_) rfl rfl (by kernel_rfl) (by kernel_rfl) (by kernel_rfl) (fun _ _ _ h => h) (by rfl) ?_ hHeld ?_
            rotate_left
            · ((intro w hSw); (try dsimp only at hSw); go_simp <;> with_reducible rfl)
            simp only [Act.put, List.setIfInBounds_toArray, List.set_cons_zero, List.set_cons_succ]
            refine take_run 6 (some 20) (v := ?_) rfl rfl (by kernel_rfl) (by kernel_rfl) (by kernel_rfl) (fun _ _ _ h => h) (by rfl) ?_ hHeld ?_
            rotate_left
            · ((intro w hSw); (try dsimp only at hSw); go_simp <;> with_reducible rfl)
            simp only [Act.put, List.setIfInBounds_toArray, List.set_cons_zero, List.set_cons_succ]
            refine take_run 7 (some 21) (v := ?_) rfl rfl (by kernel_rfl) (by kernel_rfl) (by kernel_rfl) (fun _ _ _ h => h) (by rfl) ?_ hHeld ?_
            rotate_left
            · ((intro w hSw); (try dsimp only at hSw); go_simp <;> with_reducible rfl)
            simp only [Act.put, List.setIfInBounds_toArray, List.set_cons_zero, List.set_cons_succ]
            refine take_run 8 (some 22) (v := ?_) rfl rfl (by kernel_rfl) (by kernel_rfl) (by kernel_rfl) (fun _ _ _ h => h) (by rfl) ?_ hHeld ?_
            rotate_left
            · ((intro w hSw); (try dsimp only at hSw); go_simp <;> with_reducible rfl)
            simp only [Act.put, List.setIfInBounds_toArray, List.set_cons_zero, List.set_cons_succ]
            refine take_run 9 (some 23) (v := ?_) rfl rfl (by kernel_rfl) (by kernel_rfl) (by kernel_rfl) (fun _ _ _ h => h) (by rfl) ?_ hHeld ?_
            rotate_left
            · ((intro w hSw); (try dsimp only at hSw); go_simp <;> with_reducible rfl)
            simp only [Act.put, List.setIfInBounds_toArray, List.set_cons_zero, List.set_cons_succ]
            refine take_run 10 (some 24) (v := ?_) rfl rfl (by kernel_rfl) (by kernel_rfl) (by kernel_rfl) (fun _ _ _ h => h) (by rfl) ?_ hHeld ?_
            rotate_left
            · ((intro w hSw); (try dsimp only at hSw); go_simp <;> with_reducible rfl)
            simp only [Act.put, List.setIfInBounds_toArray, List.set_cons_zero, List.set_cons_succ]
            refine take_run 11 (some 25) (v := ?_) rfl rfl (by kernel_rfl) (by kernel_rfl) (by kernel_rfl) (fun _ _ _ h => h) (by rfl) ?_ hHeld ?_
            rotate_left
            · ((intro w hSw); (try dsimp only at hSw); go_simp <;> with_reducible rfl)
            simp only [Act.put, List.setIfInBounds_toArray, List.set_cons_zero, List.set_cons_succ]
            refine take_run 12 (some 26) (v := ?_) rfl rfl (by kernel_rfl) (by kernel_rfl) (by kernel_rfl) (fun _ _ _ h => h) (by rfl) ?_ hHeld ?_
            rotate_left
            · ((intro w hSw); (try dsimp only at hSw); go_simp <;> with_reducible rfl)
            simp only [Act.put, List.setIfInBounds_toArray, List.set_cons_zero, List.set_cons_succ]
            refine take_run 13 (some 27) (v := ?_) rfl rfl (by kernel_rfl) (by kernel_rfl) (by kernel_rfl) (fun _ _ _ h => h) (by rfl) ?_ hHeld ?_
            rotate_left
            · ((intro w hSw); (try dsimp only at hSw); go_simp <;> with_reducible rfl)
            simp only [Act.put, List.setIfInBounds_toArray, List.set_cons_zero, List.set_cons_succ]
            refine take_run 14 (some 28) (v := ?_) rfl rfl (by kernel_rfl) (by kernel_rfl) (by kernel_rfl) (fun _ _ _ h => h) (by rfl) ?_ hHeld ?_
            rotate_left
            · ((intro w hSw); (try dsimp only at hSw); go_simp <;> with_reducible rfl)
            simp only [Act.put, List.setIfInBounds_toArray, List.set_cons_zero, List.set_cons_succ]
            refine take_run 15 (some 29) (v := ?_) rfl rfl (by kernel_rfl) (by kernel_rfl) (by kernel_rfl) (fun _ _ _ h => h) (by rfl) ?_ hHeld ?_
            rotate_left
            · ((intro w hSw); (try dsimp only at hSw); go_simp <;> with_reducible rfl)
            simp only [Act.put, List.setIfInBounds_toArray, List.set_cons_zero, List.set_cons_succ]
            refine take_one 16 (by kernel_rfl) rfl (fun K hK => ?_)
            go_simp
            (refine (CW'.out _ ((HT.out.on hHeld.2.2.2.below).up hHeld.2.2.2.base) (Tg.of (hHeld.2.2.2.nth 1 rfl) (hHeld.2.2.2.nth 1 rfl).inside HC.out)).mono ?_; rintro e w4 ⟨rfl, hb4⟩)
            try go_wp2_with fail
            refine hK.out _ _ (by exact ⟨Q.out.keep hb fun _ hp => (hHeld.2.2.2.on hb4).below.cell hp, ((hHeld.2.2.2.on hb4).nth 2 rfl).at 0, ((hHeld.2.2.2.on hb4).nth 0 rfl).at 0, hHeld.2.2.2.on hb4⟩) (fun hHeld => ?_)
            clear hK K
            refine take_run 17 (some 31) (v := ?_) rfl rfl (by kernel_rfl) (by kernel_rfl) (by kernel_rfl) (fun _ _ _ h => h) (by rfl) ?_ hHeld ?_
            rotate_left
            · ((intro w hSw); (try dsimp only at hSw); go_simp <;> with_reducible rfl)
            simp only [Act.put, List.setIfInBounds_toArray, List.set_cons_zero, List.set_cons_succ]
            refine take_run 18 (some 32) (v := ?_) rfl rfl (by kernel_rfl) (by kernel_rfl) (by kernel_rfl) (fun _ _ _ h => h) (by rfl) ?_ hHeld ?_
            rotate_left
            · ((intro w hSw); (try dsimp only at hSw); go_simp <;> with_reducible rfl)
            simp only [Act.put, List.setIfInBounds_toArray, List.set_cons_zero, List.set_cons_succ]
            refine wpAnyH_done (by kernel_rfl) ?_ _
            refine NoPanic.normal ?_
            have I4 := hHeld.2.2.2
            clear hHeld hI k0
            go_wp2
            go_ret
            exact ⟨ret_bool hf.out.symm, I4.below⟩
          · have HA := hide (HS.out (.inr hwi))
            clear HS HF
            go_wp2_with fail
            refine wp_region_noPanic ?_
            refine wp_region_held_drew (S := (fun w' => Six w' b (off + k * 6) ⟨vk, vt, vu, va, vc, vts, vs', vg⟩ ∧ w'.cell? ⟨w.heap.size, 0, none⟩ = some (.slice (some ⟨b, off, none⟩) 4 c) ∧ w'.cell? ⟨w2.heap.size, 0, none⟩ = some (.slice (some ⟨g2, 0, none⟩) 4 cap2) ∧ Inv w (w2.heap.size + 1) [(w2.heap.size, 33, #[.slice (some ⟨g2, 0, none⟩) 4 cap2]), (g2, T2, cur2), (w.heap.size, 70, #[.slice (some ⟨b, off, none⟩) 4 c])] w')) (by kernel_rfl) (by exact ⟨Q.out.keep hb fun _ hp => hL.cell hp, (hI.nth 2 rfl).at 0, (hI.nth 0 rfl).at 0, hI.drew⟩) (fun hHeld => ?_)
            refine take_run 0 (some 14) (v := ?_) rfl rfl (by kernel_rfl) (by kernel_rfl) (by kernel_rfl) (fun _ _ _ h => h) (by rfl) ?_ hHeld ?_
            rotate_left
            · ((intro w hSw); (try dsimp only at hSw); go_simp <;> with_reducible rfl)
            simp only [Act.put, List.setIfInBounds_toArray, List.set_cons_zero, List.set_cons_succ]
            refine take_run 1 (some 15) (v := ?_) rfl rfl (by kernel_rfl) (by kernel_rfl) (by kernel_rfl) (fun _ _ _ h => h) (by rfl) ?_ hHeld ?_
            rotate_left
            · ((intro w hSw); (try dsimp only at hSw); go_simp <;> with_reducible rfl)
            simp only [Act.put, List.setIfInBounds_toArray, List.set_cons_zero, List.set_cons_succ]
            refine take_run 2 (some 16) (v := ?_) rfl rfl (by kernel_rfl) (by kernel_rfl) (by kernel_rfl) (fun _ _ _ h => h) (by rfl) ?_ hHeld ?_
            rotate_left
            · ((intro w hSw); (try dsimp only at hSw); go_simp <;> with_reducible rfl)
            simp only [Act.put, List.setIfInBounds_toArray, List.set_cons_zero, List.set_cons_succ]
            refine take_run 3 (some 17) (v := ?_) rfl rfl (by kernel_rfl) (by kernel_rfl) (by kernel_rfl) (fun _ _ _ h => h) (by rfl) ?_ hHeld ?_
            rotate_left
            · ((intro w hSw); (try dsimp only at hSw); go_simp <;> with_reducible rfl)
            simp only [Act.put, List.setIfInBounds_toArray, List.set_cons_zero, List.set_cons_succ]
            refine take_run 4 (some 18) (v := ?_) rfl rfl (by kernel_rfl) (by kernel_rfl) (by kernel_rfl) (fun _ _ _ h => h) (by rfl) ?_ hHeld ?_
            rotate_left
            · ((intro w hSw); (try dsimp only at hSw); go_simp <;> with_reducible rfl)
            simp only [Act.put, List.setIfInBounds_toArray, List.set_cons_zero, List.set_cons_succ]
            refine take_run 5 (some 19) (v := ?_) rfl rfl (by kernel_rfl) (by kernel_rfl) (by kernel_rfl) (fun _ _ _ h => h) (by rfl) ?_ hHeld ?_
            rotate_left
            · ((intro w hSw); (try dsimp only at hSw); go_simp <;> with_reducible rfl)
            simp only [Act.put, List.setIfInBounds_toArray, List.set_cons_zero, List.set_cons_succ]
            refine take_run 6 (some 20) (v := ?_) rfl rfl (by kernel_rfl) (by kernel_rfl) (by kernel_rfl) (fun _ _ _ h => h) (by rfl) ?_ hHeld ?_
            rotate_left
            · ((intro w hSw); (try dsimp only at hSw); go_simp <;> with_reducible rfl)
            simp only [Act.put, List.setIfInBounds_toArray, List.set_cons_zero, List.set_cons_succ]
            refine take_run 7 (some 21) (v := ?_) rfl rfl (by kernel_rfl) (by kernel_rfl) (by kernel_rfl) (fun _ _ _ h => h) (by rfl) ?_ hHeld ?_
            rotate_left
            · ((intro w hSw); (try dsimp only at hSw); go_simp <;> with_reducible rfl)
            simp only [Act.put, List.setIfInBounds_toArray, List.set_cons_zero, List.set_cons_succ]
            refine take_run 8 (some 22) (v := ?_) rfl rfl (by kernel_rfl) (by kernel_rfl) (by kernel_rfl) (fun _ _ _ h => h) (by rfl) ?_ hHeld ?_
            rotate_left
            · ((intro w hSw); (try dsimp only at hSw); go_simp <;> with_reducible rfl)
            simp only [Act.put, List.setIfInBounds_toArray, List.set_cons_zero, List.set_cons_succ]
            refine take_run 9 (some 23) (v := ?_) rfl rfl (by kernel_rfl) (by kernel_rfl) (by kernel_rfl) (fun _ _ _ h => h) (by rfl) ?_ hHeld ?_
            rotate_left
            · ((intro w hSw); (try dsimp only at hSw); go_simp <;> with_reducible rfl)
            simp only [Act.put, List.setIfInBounds_toArray, List.set_cons_zero, List.set_cons_succ]
            refine take_run 10 (some 24) (v := ?_) rfl rfl (by kernel_rfl) (by kernel_rfl) (by kernel_rfl) (fun _ _ _ h => h) (by rfl) ?_ hHeld ?_
            rotate_left
            · ((intro w hSw); (try dsimp only at hSw); go_simp <;> with_reducible rfl)
            simp only [Act.put, List.setIfInBounds_toArray, List.set_cons_zero, List.set_cons_succ]
            refine take_run 11 (some 25) (v := ?_) rfl rfl (by kernel_rfl) (by kernel_rfl) (by kernel_rfl) (fun _ _ _ h => h) (by rfl) ?_ hHeld ?_
            rotate_left
            · ((intro w hSw); (try dsimp only at hSw); go_simp <;> with_reducible rfl)
            simp only [Act.put, List.setIfInBounds_toArray, List.set_cons_zero, List.set_cons_succ]
            refine take_run 12 (some 26) (v := ?_) rfl rfl (by kernel_rfl) (by kernel_rfl) (by kernel_rfl) (fun _ _ _ h => h) (by rfl) ?_ hHeld ?_
            rotate_left
            · ((intro w hSw); (try dsimp only at hSw); go_simp <;> with_reducible rfl)
            simp only [Act.put, List.setIfInBounds_toArray, List.set_cons_zero, List.set_cons_succ]
            refine take_run 13 (some 27) (v := ?_) rfl rfl (by kernel_rfl) (by kernel_rfl) (by kernel_rfl) (fun _ _ _ h => h) (by rfl) ?_ hHeld ?_
            rotate_left
            · ((intro w hSw); (try dsimp only at hSw); go_simp <;> with_reducible rfl)
            simp only [Act.put, List.setIfInBounds_toArray, List.set_cons_zero, List.set_cons_succ]
            refine take_run 14 (some 28) (v := ?_) rfl rfl (by kernel_rfl) (by kernel_rfl) (by kernel_rfl) (fun _ _ _ h => h) (by rfl) ?_ hHeld ?_
            rotate_left
            · ((intro w hSw); (try dsimp only at hSw); go_simp <;> with_reducible rfl)
            simp only [Act.put, List.setIfInBounds_toArray, List.set_cons_zero, List.set_cons_succ]
            refine take_run 15 (some 29) (v := ?_) rfl rfl (by kernel_rfl) (by kernel_rfl) (by kernel_rfl) (fun _ _ _ h => h) (by rfl) ?_ hHeld ?_
            rotate_left
            · ((intro w hSw); (try dsimp only at hSw); go_simp <;> with_reducible rfl)
            simp only [Act.put, List.setIfInBounds_toArray, List.set_cons_zero, List.set_cons_succ]
            refine take_one 16 (by kernel_rfl) rfl (fun K hK => ?_)
            go_simp
            (refine (CW'.out _ ((HT.out.on hHeld.2.2.2.below).up hHeld.2.2.2.base) (Tg.of (hHeld.2.2.2.nth 1 rfl) (hHeld.2.2.2.nth 1 rfl).inside HC.out)).mono ?_; rintro e w4 ⟨rfl, hb4⟩)
            try go_wp2_with fail
            refine hK.out _ _ (by exact ⟨Q.out.keep hb fun _ hp => (hHeld.2.2.2.on hb4).below.cell hp, ((hHeld.2.2.2.on hb4).nth 2 rfl).at 0, ((hHeld.2.2.2.on hb4).nth 0 rfl).at 0, hHeld.2.2.2.on hb4⟩) (fun hHeld => ?_)
            clear hK K
            refine take_run 17 (some 31) (v := ?_) rfl rfl (by kernel_rfl) (by kernel_rfl) (by kernel_rfl) (fun _ _ _ h => h) (by rfl) ?_ hHeld ?_
            rotate_left
            · ((intro w hSw); (try dsimp only at hSw); go_simp <;> with_reducible rfl)
            simp only [Act.put, List.setIfInBounds_toArray, List.set_cons_zero, List.set_cons_succ]
            refine take_run 18 (some 32) (v := ?_) rfl rfl (by kernel_rfl) (by kernel_rfl) (by kernel_rfl) (fun _ _ _ h => h) (by rfl) ?_ hHeld ?_
            rotate_left
            · ((intro w hSw); (try dsimp only at hSw); go_simp <;> with_reducible rfl)
            simp only [Act.put, List.setIfInBounds_toArray, List.set_cons_zero, List.set_cons_succ]
            refine wpAnyH_done (by kernel_rfl) ?_ _
            refine NoPanic.normal ?_
            have I4 := hHeld.2.2.2
            clear hHeld hI k0
            go_wp2
            exact ⟨⟨k + 1, by omega, by go_num, HA, I4⟩, by simp [intOf]; omega⟩
    · have hk4 : k = 4 := by omega
      subst hk4
      clear hlt
      have hf := hide (closedB_ok HK.out (fun i v hi => hA.out i v (by have := (List.getElem?_eq_some_iff.1 hi).1; have := H4.out; omega) hi))
      go_wp2
      go_ret
      exact ⟨ret_bool hf.out.symm, hL⟩

set_option maxRecDepth 100000 in
set_option maxHeartbeats 1000000 in
theorem specStoreClosed_any (a : Option Addr) (c : Nat) (vs : List V) (w : World) (hn : vs.length ≤ 1048576) (hm : Small vs) (hv : Vg w w.heap.size a vs) :
    Calls Try.prog 68 #[.agg #[.slice a vs.length c]] w fun e w' => e = .returned (.bool (closedB vs)) ∧ Below w.heap.size w w' := by
  have S0 := (Inv.start w).box 70 #[.slice a vs.length c]
  simp only [World.size_alloc] at S0
  have C0 := l2StoreOk_any a c vs _ hn hm ((hv.on S0.below).up S0.base)
  have HM := hide hm
  clear hm
  cases hok : storeB vs
  · have hf := hide (closedB_no hok)
    rw [hok] at C0
    clear hok
    go_enter Try.func68, Try.ntmps68
    go_wp2_with fail
    refine C0.mono ?_
    rintro e w1 ⟨rfl, hb1⟩
    have S1 := S0.on hb1
    clear S0 C0
    go_wp2
    go_ret
    exact ⟨ret_bool hf.out.symm, S1.below⟩
  · have HK := hide hok
    have h4 := storeB_four hok
    rw [hok] at C0
    rw [h4] at C0 S0 ⊢
    clear hok h4
    go_enter Try.func68, Try.ntmps68
    go_wp2_with fail
    refine C0.mono ?_
    rintro e w1 ⟨rfl, hb1⟩
    have S1 := S0.on hb1
    have k1 := (S1.nth 0 rfl).one.1
    clear S0 C0 hb1
    go_wp2_with fail
    refine (l2Closed_any a c vs _ HK.out HM.out ((hv.on S1.below).up S1.base)).mono ?_
    rintro e w2 ⟨rfl, hb2⟩
    have S2 := S1.on hb2
    clear S1 k1
    go_wp2
    go_ret
    exact ⟨rfl, S2.below⟩
theorem closedB_like {vs us : List V} (hl : us.length = vs.length) (h : Like us vs) : closedB us = closedB vs := by
  have e : tagsL us = tagsL vs := by
    apply List.ext_getElem?
    intro i
    unfold tagsL
    rw [List.getElem?_map, List.getElem?_map]
    by_cases hi : i < us.length
    · have hi' : i < vs.length := by omega
      rw [List.getElem?_eq_getElem hi, List.getElem?_eq_getElem hi']
      obtain ⟨e1, e2, e3, e4, e5, e6⟩ := h i _ _ (List.getElem?_eq_getElem hi) (List.getElem?_eq_getElem hi')
      simp only [Option.map_some, e2, e3]
    · rw [List.getElem?_eq_none (by omega), List.getElem?_eq_none (by omega)]
  have ha : (us.map fun v => (v.t, v.ts)) = vs.map fun v => (v.t, v.ts) := by
    apply List.ext_getElem?
    intro i
    rw [List.getElem?_map, List.getElem?_map]
    by_cases hi : i < us.length
    · have hi' : i < vs.length := by omega
      rw [List.getElem?_eq_getElem hi, List.getElem?_eq_getElem hi']
      obtain ⟨e1, e2, e3, e4, e5, e6⟩ := h i _ _ (List.getElem?_eq_getElem hi) (List.getElem?_eq_getElem hi')
      simp only [Option.map_some, e2, e4]
    · rw [List.getElem?_eq_none (by omega), List.getElem?_eq_none (by omega)]
  have hall : ∀ (xs : List V) (ts : List (Int × Int)), (xs.all fun v => decide (v.t ≤ 0) || withinB v.ts ts) = ((xs.map fun v => (v.t, v.ts)).all fun p => decide (p.1 ≤ 0) || withinB p.2 ts) := by
    intro xs ts
    rw [List.all_map]
    rfl
  unfold closedB
  rw [storeB_like hl h, hall, hall, ha, e]
end Go.Proofs.Ytnblnafajlnofaa
