/- Contracts of the program's and the model's functions that say whether a store is valid. Condition: at most 1048576 versions, and tags of each. -/
import Derived.Test.YtgofeljmpkhkbaaStoreOk0
namespace Go.Proofs.Ytgofeljmpkhkbaa
open Go.RowKit Go.Joins

/-- No version is too large to be read. -/
def Small (vs : List V) : Prop := ∀ v ∈ vs, v.ts.length ≤ 1048576 ∧ v.s.size ≤ 9223372036854775807
theorem slotB_none {k : Nat} {v : V} (h : noneC v.k v.t v.u v.ts.length v.s v.g = true) : slotB k v = true := by unfold slotB; rw [h]; rfl
theorem slotB_key {k : Nat} {v : V} (h : noneC v.k v.t v.u v.ts.length v.s v.g = false) (hk : ¬ v.k = k) : slotB k v = false := by unfold slotB; rw [h, decide_eq_false hk]; rfl
theorem slotB_ver {k : Nat} {v : V} (h : noneC v.k v.t v.u v.ts.length v.s v.g = false) (hk : v.k = k) : slotB k v = verB v.k v.t v.u v.ts v.s v.g := by unfold slotB; rw [h, decide_eq_true hk]; simp
theorem slotB_bad {k : Nat} {v : V} (h : noneC v.k v.t v.u v.ts.length v.s v.g = false) (hb : verB v.k v.t v.u v.ts v.s v.g = false) : slotB k v = false := by unfold slotB; rw [h, hb]; simp

set_option maxRecDepth 100000 in
set_option maxHeartbeats 2000000 in
theorem implStoreOk_any (a : Option Addr) (c : Nat) (vs : List V) (w : World) (hn : vs.length ≤ 1048576) (hm : Small vs) (hv : Vg w w.heap.size a vs) :
    Calls Try.prog 10 #[.agg #[.slice a vs.length c]] w fun e w' => e = .returned (.bool (storeB vs)) ∧ Below w.heap.size w w' := by
  have S0 := (Inv.start w).box 25 #[.slice a vs.length c]
  simp only [World.size_alloc] at S0
  have HM := hide hm
  clear hm
  by_cases h4 : vs.length = 4
  · have H4 := hide h4
    rw [h4] at S0 ⊢
    clear h4
    go_enter Try.func10, Try.ntmps10
    go_wp2
    go_loopw [12] (fun i wr => ∃ k : Nat, k ≤ 4 ∧ i = .int .i64 (k : Int) ∧ Hid (∀ (i : Nat) (v : V), i < k → vs[i]? = some v → slotB i v = true) ∧ Below w.heap.size w wr) (fun i _ => 4 - (intOf i).toNat)
    case atStart => exact ⟨0, by omega, rfl, fun i v hi => absurd hi (by omega), S0.below⟩
    case round =>
      obtain ⟨k, hk, rfl, hA, hL⟩ := hrel
      clear S0
      by_cases hlt : k < 4
      · rcases hv with e0 | ⟨b, off, rfl, hb, hx⟩
        · have := H4.out; subst e0; simp at this
        · have hkl : k < vs.length := by have := H4.out; omega
          obtain ⟨hS, hT⟩ := hx k _ (List.getElem?_eq_getElem hkl)
          have HX := hide (List.getElem?_eq_getElem hkl)
          have hS' := hS.keep hb fun _ hp => hL.cell hp
          have hT' := (hT.on hL).up hL.size
          generalize vs[k] = v at hS' hT' HX
          have HB := hide (HM.out v (List.mem_of_getElem? HX.out))
          have HS := hide (slot_step hA.out HX.out)
          have HF := hide (storeB_bad HX.out)
          have N1 := hide (slotB_none (k := k) (v := v))
          have N2 := hide (slotB_key (k := k) (v := v))
          have N3 := hide (slotB_ver (k := k) (v := v))
          obtain ⟨vk, vt, vu, va, vc, vts, vs', vg⟩ := v
          simp only at hS' hT' HB N1 N2 N3
          have HT := hide hT'
          clear hS hT hx hT'
          have i1 : (0 : Int) ≤ (k : Int) := by omega
          have i2 : (k : Int) < 4 := by omega
          have X0 := (Inv.start wr).box 32 (verC vk vt vu va vts.length vc vs' vg)
          simp only [World.size_alloc] at X0
          go_wp2_with fail
          refine (verNone_any _ _ _ _ _ _ _ _ _).mono ?_
          rintro e w1 ⟨rfl, hb1⟩
          have X1 := X0.on hb1
          have k1 := (X1.nth 0 rfl).six.1
          cases hno : noneC vk vt vu vts.length vs' vg
          · have N2' := hide (N2.out hno)
            have N3' := hide (N3.out hno)
            clear N1 N2 N3 X0
            by_cases hkk : vk = (k : Int)
            · have N4 := hide (N3'.out hkk)
              subst hkk
              go_wp2_with fail
              refine (implVerOk_any _ _ _ _ _ vts _ _ _ HB.out.1 HB.out.2 ((HT.out.on X1.below).up X1.base)).mono ?_
              rintro e w2 ⟨rfl, hb2⟩
              have X2 := X1.on hb2
              clear X1 k1
              cases hve : verB (k : Int) vt vu vts vs' vg
              · have hf := hide (HF.out (N4.out.trans hve))
                go_wp2
                go_ret
                exact ⟨ret_bool hf.out.symm, hL.trans (X2.below.mono hL.size)⟩
              · have HA := hide (HS.out (N4.out.trans hve))
                go_wp2
                exact ⟨⟨k + 1, by omega, by go_num, HA, hL.trans (X2.below.mono hL.size)⟩, by simp [intOf]; omega⟩
            · have hf := hide (HF.out (N2'.out hkk))
              have hkk' : (vk != (k : Int)) = true := by simpa using hkk
              clear hkk
              go_wp2
              go_ret
              exact ⟨ret_bool hf.out.symm, hL.trans (X1.below.mono hL.size)⟩
          · have HA := hide (HS.out (N1.out hno))
            clear N1 N2 N3
            go_wp2
            exact ⟨⟨k + 1, by omega, by go_num, HA, hL.trans (X1.below.mono hL.size)⟩, by simp [intOf]; omega⟩
      · have hk4 : k = 4 := by omega
        subst hk4
        clear hlt
        have hf := hide (storeB_ok H4.out (fun i v hi => hA.out i v (by have := (List.getElem?_eq_some_iff.1 hi).1; have := H4.out; omega) hi))
        go_wp2
        go_ret
        exact ⟨ret_bool hf.out.symm, hL⟩
  · have hf := hide (storeB_len h4)
    have h4' : ((vs.length : Int) != 4) = true := by simp; omega
    clear h4
    go_enter Try.func10, Try.ntmps10
    go_wp2
    go_ret
    exact ⟨ret_bool hf.out.symm, S0.below⟩

set_option maxRecDepth 100000 in
set_option maxHeartbeats 4000000 in
theorem l2StoreOk_any (a : Option Addr) (c : Nat) (vs : List V) (w : World) (hn : vs.length ≤ 1048576) (hm : Small vs) (hv : Vg w w.heap.size a vs) :
    Calls Try.prog 29 #[.agg #[.slice a vs.length c]] w fun e w' => e = .returned (.bool (storeB vs)) ∧ Below w.heap.size w w' := by
  have S0 := (Inv.start w).box 25 #[.slice a vs.length c]
  simp only [World.size_alloc] at S0
  have HM := hide hm
  clear hm
  generalize hnn : vs.length = n at *
  have HN := hide hnn
  clear hnn
  go_enter Try.func29, Try.ntmps29
  go_wp2
  go_loopw [3] (fun i wr => ∃ k : Nat, k ≤ n ∧ i = .int .i64 (k : Int) ∧ Hid (∀ (i : Nat) (v : V), i < k → vs[i]? = some v → slotB i v = true) ∧ Inv w (w.heap.size + 1) [(w.heap.size, 25, #[.slice a n c])] wr) (fun i _ => n - (intOf i).toNat)
  case atStart => exact ⟨0, by omega, rfl, fun i v hi => absurd hi (by omega), S0⟩
  case round =>
    obtain ⟨k, hk, rfl, hA, hI⟩ := hrel
    have k0 := (hI.nth 0 rfl).one.1
    clear S0
    by_cases hlt : k < n
    · rcases hv with e0 | ⟨b, off, rfl, hb, hx⟩
      · have := HN.out; subst e0; simp at this; omega
      · have hkl : k < vs.length := by have := HN.out; omega
        obtain ⟨hS, hT⟩ := hx k _ (List.getElem?_eq_getElem hkl)
        have HX := hide (List.getElem?_eq_getElem hkl)
        have HQ := hide hS
        have hS' := hS.keep hb fun _ hp => hI.below.cell hp
        have hT' := (hT.on hI.below).up hI.base
        generalize vs[k] = v at hS' hT' HX HQ
        have HB := hide (HM.out v (List.mem_of_getElem? HX.out))
        have HS := hide (slot_step hA.out HX.out)
        have HF := hide (storeB_bad HX.out)
        have N1 := hide (slotB_none (k := k) (v := v))
        have N2 := hide (slotB_key (k := k) (v := v))
        have N3 := hide (slotB_ver (k := k) (v := v))
        have N5 := hide (slotB_bad (k := k) (v := v))
        obtain ⟨vk, vt, vu, va, vc, vts, vs', vg⟩ := v
        simp only at hS' hT' HB N1 N2 N3 HQ N5
        have HT := hide hT'
        clear hS hT hx hT'
        have i1 : (0 : Int) ≤ (k : Int) := by omega
        have i2 : (k : Int) < (n : Int) := by omega
        by_cases htz : vt = 0 ∧ vu = 0
        · obtain ⟨rfl, rfl⟩ := htz
          have N6 : Hid (verB vk 0 0 vts vs' vg = false) := verB_f (.inr (.inr (.inr (.inl rfl))))
          by_cases h1 : vk = 0
          · subst h1
            cases h2 : vs'.toList.isEmpty
            · have hf := hide (HF.out (N5.out (noneC_f (.inr (.inr (.inr (.inl h2))))) N6.out))
              clear N1 N2 N3 N5 HQ
              go_wp2
              go_ret
              exact ⟨ret_bool hf.out.symm, hI.below⟩
            · cases vg
              · by_cases h3 : vts.length = 0
                · have h3' : ¬ ((vts.length : Int) > 0) := by omega
                  have HA := hide (HS.out (N1.out (by rw [h3]; exact noneC_t h2)))
                  clear N1 N2 N3 N5 HQ
                  go_wp2
                  exact ⟨⟨k + 1, by omega, by go_num, HA, hI⟩, by simp [intOf]; omega⟩
                · have h3' : ((vts.length : Int) > 0) := by omega
                  have hf := hide (HF.out (N5.out (noneC_f (.inr (.inr (.inl h3)))) N6.out))
                  clear N1 N2 N3 N5 HQ
                  go_wp2
                  go_ret
                  exact ⟨ret_bool hf.out.symm, hI.below⟩
              · have hf := hide (HF.out (N5.out (noneC_f (.inr (.inr (.inr (.inr rfl))))) N6.out))
                clear N1 N2 N3 N5 HQ
                go_wp2
                go_ret
                exact ⟨ret_bool hf.out.symm, hI.below⟩
          · have hf := hide (HF.out (N5.out (noneC_f (.inl h1)) N6.out))
            have h1' : (vk != 0) = true := by simpa using h1
            clear N1 N2 N3 N5 HQ h1
            go_wp2
            go_ret
            exact ⟨ret_bool hf.out.symm, hI.below⟩
        · have N0 : Hid (noneC vk vt vu vts.length vs' vg = false) := noneC_f (.inr (.inl htz))
          have he := tagNeq_ne htz
          have he2 := tagEql_ne htz
          clear htz N1
          go_wp2_with fail
          refine (l2Ok_any _ _ _ _ _ vts _ _ _ HB.out.1 HB.out.2 HT.out).mono ?_
          rintro e w2 ⟨rfl, hb2⟩
          have hI2 := hI.on hb2
          have hS2 := HQ.out.keep hb fun _ hp => hI2.below.cell hp
          clear k0
          have k0 := (hI2.nth 0 rfl).one.1
          clear hS' HQ hI
          cases hve : verB vk vt vu vts vs' vg
          · have hf := hide (HF.out (N5.out N0.out hve))
            clear N2 N3 N5
            go_wp2
            go_ret
            exact ⟨ret_bool hf.out.symm, hI2.below⟩
          · by_cases hkk : vk = (k : Int)
            · have HA := hide (HS.out ((N3.out N0.out hkk).trans hve))
              clear N2 N3 N5 hve
              subst hkk
              go_wp2
              exact ⟨⟨k + 1, by omega, by go_num, HA, hI2⟩, by simp [intOf]; omega⟩
            · have hf := hide (HF.out (N2.out N0.out hkk))
              have hkk' : (vk != (k : Int)) = true := by simpa using hkk
              clear hkk N2 N3 N5 hve
              go_wp2
              go_ret
              exact ⟨ret_bool hf.out.symm, hI2.below⟩
    · have hkn : k = n := by omega
      subst hkn
      clear hlt
      by_cases h4 : k = 4
      · have hf := hide (storeB_ok (HN.out.trans h4) (fun i v hi => hA.out i v (by have := (List.getElem?_eq_some_iff.1 hi).1; have := HN.out; omega) hi))
        subst h4
        go_wp2
        go_ret
        exact ⟨ret_bool hf.out.symm, hI.below⟩
      · have hf := hide (storeB_len (fun e => h4 (HN.out.symm.trans e)))
        have h4' : ((k : Int) == 4) = false := by simp; omega
        clear h4
        go_wp2
        go_ret
        exact ⟨ret_bool hf.out.symm, hI.below⟩

set_option maxHeartbeats 1000000 in
theorem specStoreOk_any (a : Option Addr) (c : Nat) (vs : List V) (w : World) (hn : vs.length ≤ 1048576) (hm : Small vs) (hv : Vg w w.heap.size a vs) :
    Calls Try.prog 11 #[.agg #[.slice a vs.length c]] w fun e w' => e = .returned (.bool (storeB vs)) ∧ Below w.heap.size w w' := by
  have L0 := below_alloc1 w (.cells #[.slice a vs.length c] 25)
  go_enter Try.func11, Try.ntmps11
  go_wp2_with fail
  refine (l2StoreOk_any a c vs _ hn hm ((hv.on L0).up L0.size)).mono ?_
  rintro e w1 ⟨rfl, hb1⟩
  go_wp2
  go_ret
  exact ⟨rfl, L0.trans (hb1.mono L0.size)⟩
end Go.Proofs.Ytgofeljmpkhkbaa
