/- Contracts of the program's and the model's functions that say whether a store is valid. Condition: at most 1048576 versions, and tags of each. -/
import Derived.Test.YtnaggcdhimcilaaGreatJStoreOk0
import Derived.Test.YtnaggcdhimcilaaGreatJPastOk
import Derived.Laws.IdiomStrings
import Derived.Laws.BitsAllLaws
namespace Go.Proofs.YtnaggcdhimcilaaGreat
open Go.RowKit Go.Joins

/-- No version is too large to be read. -/
def Small (vs : List V) : Prop := ∀ v ∈ vs, v.ts.length ≤ 1048576 ∧ v.s.size ≤ 9223372036854775807
theorem slotB_none {k : Nat} {v : V} (h : noneC v.k v.t v.u v.ts.length v.s v.g = true) : slotB k v = true := by unfold slotB; rw [h]; rfl
theorem slotB_key {k : Nat} {v : V} (h : noneC v.k v.t v.u v.ts.length v.s v.g = false) (hk : ¬ v.k = k) : slotB k v = false := by unfold slotB; rw [h, decide_eq_false hk]; rfl
theorem slotB_ver {k : Nat} {v : V} (h : noneC v.k v.t v.u v.ts.length v.s v.g = false) (hk : v.k = k) : slotB k v = verB v.k v.t v.u v.ts v.s v.g := by unfold slotB; rw [h, decide_eq_true hk]; simp
theorem slotB_bad {k : Nat} {v : V} (h : noneC v.k v.t v.u v.ts.length v.s v.g = false) (hb : verB v.k v.t v.u v.ts v.s v.g = false) : slotB k v = false := by unfold slotB; rw [h, hb]; simp

set_option maxRecDepth 100000 in
set_option maxHeartbeats 2000000 in
theorem implStoreOk_any (a : Option Addr) (c : Nat) (vs : List V) (w : World) (hn : vs.length ≤ 1048576) (hm : Small vs) (hv : Vg w w.heap.size a vs) :
    Calls Tryz.prog 130 #[.agg #[.slice a vs.length c]] w fun e w' => e = .returned (.bool (storeB vs)) ∧ Below w.heap.size w w' := by
  have S0 := (Inv.start w).box 88 #[.slice a vs.length c]
  simp only [World.size_alloc] at S0
  have HM := hide hm
  clear hm
  by_cases h4 : vs.length = 4
  · have H4 := hide h4
    rw [h4] at S0 ⊢
    clear h4
    go_enter Tryz.func130, Tryz.ntmps130
    go_wp2
    go_loopw [12] (fun i wr => ∃ k : Nat, k ≤ 4 ∧ i = .int .i64 (k : Int) ∧ Hid (∀ (i : Nat) (v : V), i < k → vs[i]? = some v → slotB i v = true) ∧ Below w.heap.size w wr) (fun i _ => 4 - (intOf i).toNat)
    case atStart => exact ⟨0, by omega, rfl, fun i v hi => absurd hi (by omega), S0.below⟩
    case round =>
      obtain ⟨k, hk, rfl, hA, hL⟩ := hrel
      clear S0
      by_cases hlt : k < 4
      · rcases hv with e0 | ⟨b, off, rfl, hb, hx⟩
        · have := H4.out; subst e0; simp at this
        · have hkl : k < vs.length := by have := H4.out; omega
          obtain ⟨hS, hT⟩ := hx k _ (List.getElem?_eq_getElem hkl)
          have HX := hide (List.getElem?_eq_getElem hkl)
          have hS' := hS.keep hb fun _ hp => hL.cell hp
          have hT' := (hT.on hL).up hL.size
          generalize vs[k] = v at hS' hT' HX
          have HB := hide (HM.out v (List.mem_of_getElem? HX.out))
          have HS := hide (slot_step hA.out HX.out)
          have HF := hide (storeB_bad HX.out)
          have N1 := hide (slotB_none (k := k) (v := v))
          have N2 := hide (slotB_key (k := k) (v := v))
          have N3 := hide (slotB_ver (k := k) (v := v))
          obtain ⟨vk, vt, vu, va, vc, vts, vs', vg⟩ := v
          simp only at hS' hT' HB N1 N2 N3
          have HT := hide hT'
          clear hS hT hx hT'
          have i1 : (0 : Int) ≤ (k : Int) := by omega
          have i2 : (k : Int) < 4 := by omega
          have X0 := (Inv.start wr).box 96 (verC vk vt vu va vts.length vc vs' vg)
          simp only [World.size_alloc] at X0
          go_wp2_with fail
          refine (verNone_any _ _ _ _ _ _ _ _ _).mono ?_
          rintro e w1 ⟨rfl, hb1⟩
          have X1 := X0.on hb1
          have k1 := (X1.nth 0 rfl).six.1
          cases hno : noneC vk vt vu vts.length vs' vg
          · have N2' := hide (N2.out hno)
            have N3' := hide (N3.out hno)
            clear N1 N2 N3 X0
            by_cases hkk : vk = (k : Int)
            · have N4 := hide (N3'.out hkk)
              subst hkk
              go_wp2_with fail
              refine (implVerOk_any _ _ _ _ _ vts _ _ _ HB.out.1 HB.out.2 ((HT.out.on X1.below).up X1.base)).mono ?_
              rintro e w2 ⟨rfl, hb2⟩
              have X2 := X1.on hb2
              clear X1 k1
              cases hve : verB (k : Int) vt vu vts vs' vg
              · have hf := hide (HF.out (N4.out.trans hve))
                go_wp2
                go_ret
                exact ⟨ret_bool hf.out.symm, hL.trans (X2.below.mono hL.size)⟩
              · have HA := hide (HS.out (N4.out.trans hve))
                go_wp2
                exact ⟨⟨k + 1, by omega, by go_num, HA, hL.trans (X2.below.mono hL.size)⟩, by simp [intOf]; omega⟩
            · have hf := hide (HF.out (N2'.out hkk))
              have hkk' : (vk != (k : Int)) = true := by simpa using hkk
              clear hkk
              go_wp2
              go_ret
              exact ⟨ret_bool hf.out.symm, hL.trans (X1.below.mono hL.size)⟩
          · have HA := hide (HS.out (N1.out hno))
            clear N1 N2 N3
            go_wp2
            exact ⟨⟨k + 1, by omega, by go_num, HA, hL.trans (X1.below.mono hL.size)⟩, by simp [intOf]; omega⟩
      · have hk4 : k = 4 := by omega
        subst hk4
        clear hlt
        have hf := hide (storeB_ok H4.out (fun i v hi => hA.out i v (by have := (List.getElem?_eq_some_iff.1 hi).1; have := H4.out; omega) hi))
        go_wp2
        go_ret
        exact ⟨ret_bool hf.out.symm, hL⟩
  · have hf := hide (storeB_len h4)
    have h4' : ((vs.length : Int) != 4) = true := by simp; omega
    clear h4
    go_enter Tryz.func130, Tryz.ntmps130
    go_wp2
    go_ret
    exact ⟨ret_bool hf.out.symm, S0.below⟩

set_option maxRecDepth 100000 in
set_option maxHeartbeats 4000000 in
theorem l2StoreOk_any (a : Option Addr) (c : Nat) (vs : List V) (w : World) (hn : vs.length ≤ 1048576) (hm : Small vs) (hv : Vg w w.heap.size a vs) :
    Calls Tryz.prog 92 #[.agg #[.slice a vs.length c]] w fun e w' => e = .returned (.bool (storeB vs)) ∧ Below w.heap.size w w' := by
  have S0 := (Inv.start w).box 88 #[.slice a vs.length c]
  simp only [World.size_alloc] at S0
  have HM := hide hm
  clear hm
  generalize hnn : vs.length = n at *
  have HN := hide hnn
  clear hnn
  go_enter Tryz.func92, Tryz.ntmps92
  go_wp2
  go_loopw [3] (fun i wr => ∃ k : Nat, k ≤ n ∧ i = .int .i64 (k : Int) ∧ Hid (∀ (i : Nat) (v : V), i < k → vs[i]? = some v → slotB i v = true) ∧ Inv w (w.heap.size + 1) [(w.heap.size, 88, #[.slice a n c])] wr) (fun i _ => n - (intOf i).toNat)
  case atStart => exact ⟨0, by omega, rfl, fun i v hi => absurd hi (by omega), S0⟩
  case round =>
    obtain ⟨k, hk, rfl, hA, hI⟩ := hrel
    have k0 := (hI.nth 0 rfl).one.1
    clear S0
    by_cases hlt : k < n
    · rcases hv with e0 | ⟨b, off, rfl, hb, hx⟩
      · have := HN.out; subst e0; simp at this; omega
      · have hkl : k < vs.length := by have := HN.out; omega
        obtain ⟨hS, hT⟩ := hx k _ (List.getElem?_eq_getElem hkl)
        have HX := hide (List.getElem?_eq_getElem hkl)
        have HQ := hide hS
        have hS' := hS.keep hb fun _ hp => hI.below.cell hp
        have hT' := (hT.on hI.below).up hI.base
        generalize vs[k] = v at hS' hT' HX HQ
        have HB := hide (HM.out v (List.mem_of_getElem? HX.out))
        have HS := hide (slot_step hA.out HX.out)
        have HF := hide (storeB_bad HX.out)
        have N1 := hide (slotB_none (k := k) (v := v))
        have N2 := hide (slotB_key (k := k) (v := v))
        have N3 := hide (slotB_ver (k := k) (v := v))
        have N5 := hide (slotB_bad (k := k) (v := v))
        obtain ⟨vk, vt, vu, va, vc, vts, vs', vg⟩ := v
        simp only at hS' hT' HB N1 N2 N3 HQ N5
        have HT := hide hT'
        clear hS hT hx hT'
        have i1 : (0 : Int) ≤ (k : Int) := by omega
        have i2 : (k : Int) < (n : Int) := by omega
        by_cases htz : vt = 0 ∧ vu = 0
        · obtain ⟨rfl, rfl⟩ := htz
          have N6 : Hid (verB vk 0 0 vts vs' vg = false) := verB_f (.inr (.inr (.inr (.inl rfl))))
          by_cases h1 : vk = 0
          · subst h1
            cases h2 : vs'.toList.isEmpty
            · have hf := hide (HF.out (N5.out (noneC_f (.inr (.inr (.inr (.inl h2))))) N6.out))
              clear N1 N2 N3 N5 HQ
              go_wp2
              go_ret
              exact ⟨ret_bool hf.out.symm, hI.below⟩
            · cases vg
              · by_cases h3 : vts.length = 0
                · have h3' : ¬ ((vts.length : Int) > 0) := by omega
                  have HA := hide (HS.out (N1.out (by rw [h3]; exact noneC_t h2)))
                  clear N1 N2 N3 N5 HQ
                  go_wp2
                  exact ⟨⟨k + 1, by omega, by go_num, HA, hI⟩, by simp [intOf]; omega⟩
                · have h3' : ((vts.length : Int) > 0) := by omega
                  have hf := hide (HF.out (N5.out (noneC_f (.inr (.inr (.inl h3)))) N6.out))
                  clear N1 N2 N3 N5 HQ
                  go_wp2
                  go_ret
                  exact ⟨ret_bool hf.out.symm, hI.below⟩
              · have hf := hide (HF.out (N5.out (noneC_f (.inr (.inr (.inr (.inr rfl))))) N6.out))
                clear N1 N2 N3 N5 HQ
                go_wp2
                go_ret
                exact ⟨ret_bool hf.out.symm, hI.below⟩
          · have hf := hide (HF.out (N5.out (noneC_f (.inl h1)) N6.out))
            have h1' : (vk != 0) = true := by simpa using h1
            clear N1 N2 N3 N5 HQ h1
            go_wp2
            go_ret
            exact ⟨ret_bool hf.out.symm, hI.below⟩
        · have N0 : Hid (noneC vk vt vu vts.length vs' vg = false) := noneC_f (.inr (.inl htz))
          have he := tagNeq_ne htz
          have he2 := tagEql_ne htz
          clear htz N1
          go_wp2_with fail
          refine (l2Ok_any _ _ _ _ _ vts _ _ _ HB.out.1 HB.out.2 HT.out).mono ?_
          rintro e w2 ⟨rfl, hb2⟩
          have hI2 := hI.on hb2
          have hS2 := HQ.out.keep hb fun _ hp => hI2.below.cell hp
          clear k0
          have k0 := (hI2.nth 0 rfl).one.1
          clear hS' HQ hI
          cases hve : verB vk vt vu vts vs' vg
          · have hf := hide (HF.out (N5.out N0.out hve))
            clear N2 N3 N5
            go_wp2
            go_ret
            exact ⟨ret_bool hf.out.symm, hI2.below⟩
          · by_cases hkk : vk = (k : Int)
            · have HA := hide (HS.out ((N3.out N0.out hkk).trans hve))
              clear N2 N3 N5 hve
              subst hkk
              go_wp2
              exact ⟨⟨k + 1, by omega, by go_num, HA, hI2⟩, by simp [intOf]; omega⟩
            · have hf := hide (HF.out (N2.out N0.out hkk))
              have hkk' : (vk != (k : Int)) = true := by simpa using hkk
              clear hkk N2 N3 N5 hve
              go_wp2
              go_ret
              exact ⟨ret_bool hf.out.symm, hI2.below⟩
    · have hkn : k = n := by omega
      subst hkn
      clear hlt
      by_cases h4 : k = 4
      · have hf := hide (storeB_ok (HN.out.trans h4) (fun i v hi => hA.out i v (by have := (List.getElem?_eq_some_iff.1 hi).1; have := HN.out; omega) hi))
        subst h4
        go_wp2
        go_ret
        exact ⟨ret_bool hf.out.symm, hI.below⟩
      · have hf := hide (storeB_len (fun e => h4 (HN.out.symm.trans e)))
        have h4' : ((k : Int) == 4) = false := by simp; omega
        clear h4
        go_wp2
        go_ret
        exact ⟨ret_bool hf.out.symm, hI.below⟩

end Go.Proofs.YtnaggcdhimcilaaGreat
/- Contract of the model's decimals. Condition: a number that is not negative. -/
namespace Go.Proofs.YtnaggcdhimcilaaGreat
open Go.RowKit Go.Joins
attribute [local go_sem ↓] Go.wp_at_zero Go.wp_at_succ

/-- A figure. -/
def figS (n : Nat) : ByteArray := ⟨#[UInt8.ofNat (48 + n)]⟩
/-- A number in decimals. -/
def decS (n : Nat) : ByteArray := if _h : n < 10 then figS n else decS (n / 10) ++ figS (n % 10)
termination_by n
theorem decS_low {n : Nat} (h : n < 10) : decS n = figS n := by rw [decS, dif_pos h]
theorem decS_high {n : Nat} (h : ¬ n < 10) : decS n = decS (n / 10) ++ figS (n % 10) := by rw [decS, dif_neg h]

theorem figS_size (n : Nat) : (figS n).size = 1 := rfl
theorem decS_size (n : Nat) : (decS n).size ≤ n + 1 := by
  induction n using Nat.strongRecOn with
  | ind n ih =>
    by_cases h : n < 10
    · rw [decS_low h, figS_size]
      omega
    · rw [decS_high h, ByteArray.size_append, figS_size]
      have := ih (n / 10) (by omega)
      omega
theorem conv_fig (n : Nat) (hn : n < 10) (g : Nat) (W : World) (h : W.cell? ⟨g, 0, none⟩ = some (.int .u8 (48 + (n : Int)))) : (convert 145 9 (.slice (some ⟨g, 0, none⟩) 1 1)).run Tryz.prog W = .ok (.string (figS n)) W := by
  have hb : (UInt8.ofNat (48 + n)).toNat = 48 + n := by
    rw [UInt8.toNat_ofNat']
    omega
  exact run_convert_bytes_back (P := Tryz.prog) W 145 9 5 ⟨g, 0, none⟩ 1 [UInt8.ofNat (48 + n)] Tryz.underlying145 Tryz.underlying5 Tryz.underlying9 (fun j hj => by
    have hj0 : j = 0 := by simp at hj; omega
    subst hj0
    have e0 : (⟨g, 0, none⟩ : Addr).add 0 = ⟨g, 0, none⟩ := by simp [Addr.add]
    rw [e0, h]
    simp only [List.getElem_cons_zero, hb]
    rfl)
set_option maxRecDepth 100000 in
set_option maxHeartbeats 2000000 in
theorem l1Dec_any : ∀ (n : Nat), n ≤ 1000000 → ∀ w : World, Calls Tryz.prog 177 #[.int .i64 (n : Int)] w fun e w' => e = .returned (.string (decS n)) ∧ Below w.heap.size w w' := by
  intro n
  induction n using Nat.strongRecOn with
  | ind n ih =>
    intro hn w
    have h0 : ¬ ((n : Int) < -9223372036854775807) := by omega
    have h1 : ¬ ((n : Int) < 0) := by omega
    by_cases hlt : n < 10
    · have h2 : (n : Int) < 10 := by omega
      have HS := hide (decS_low hlt)
      have hcv := conv_fig n hlt w.heap.size (w.alloc (.cells #[.int .u8 (48 + (n : Int))] 5)) ((Blk.made _ _ _).at 0)
      have L0 := below_alloc1 w (.cells #[.int .u8 (48 + (n : Int))] 5)
      clear ih
      go_enter Tryz.func177, Tryz.ntmps177
      go_wp2
      go_ret
      exact ⟨by rw [HS.out]; rfl, L0⟩
    · have h2 : ¬ ((n : Int) < 10) := by omega
      have HS := hide (decS_high hlt)
      have IH := hide (ih (n / 10) (by omega) (by omega))
      clear ih
      obtain ⟨q, hq⟩ : ∃ q, q = n / 10 := ⟨_, rfl⟩
      obtain ⟨r, hr⟩ : ∃ r, r = n % 10 := ⟨_, rfl⟩
      rw [← hq] at IH HS
      rw [← hr] at HS
      have e1 : (n : Int) / 10 = (q : Int) := by omega
      have e2 : (n : Int) % 10 = (r : Int) := by omega
      have hr10 : r < 10 := by omega
      have e3 : (n : Int).tmod 10 = (r : Int) := by rw [Int.tmod_eq_emod_of_nonneg (by omega)]; omega
      have b1 : (0 : Int) ≤ (r : Int) ∧ (r : Int) < 10 := by omega
      have v1 : IntKind.i64.wrap (q : Int) = (q : Int) := by rw [IntKind.wrap_i64]; omega
      have v2 : IntKind.i64.wrap (48 + (r : Int)) = 48 + (r : Int) := by rw [IntKind.wrap_i64]; omega
      have v3 : IntKind.u8.wrap (48 + (r : Int)) = 48 + (r : Int) := by rw [IntKind.wrap_u8']; omega
      have v4 : IntKind.i64.wrap (r : Int) = (r : Int) := by rw [IntKind.wrap_i64]; omega
      have hz : ¬ (9223372036854775807 < (decS q).size + (figS r).size) := by have := decS_size q; rw [figS_size]; omega
      have B0 := hide (Blk.made w 5 #[.int .u8 (48 + (r : Int))])
      clear hq hr
      go_enter Tryz.func177, Tryz.ntmps177
      go_wp2_with fail
      refine wp_region_noPanic ?_
      refine wp_region_held_drew (S := (fun w' => Below w.heap.size w w')) (by kernel_rfl) (by exact (Below.refl _ _).drew) (fun hHeld => ?_)
      refine mvR 0 (some 18) hHeld ?_
      refine mvR 1 (some 19) hHeld ?_
      refine mvR 3 (some 21) hHeld ?_
      refine mvR 4 (some 22) hHeld ?_
      refine mvR 5 (some 23) hHeld ?_
      refine mvR 6 (some 24) hHeld ?_
      refine wpAnyH_ready (rs := [2, 7]) (by kernel_rfl) (by simp) ?_
      refine AllReadyH.cons rfl (fun K hK => ?_) (AllReadyH.cons rfl (fun K hK => ?_) AllReadyH.nil)
      · skip
        go_simp
        ((with_reducible refine (IH.out _).mono ?_); rintro e w1 ⟨rfl, hb1⟩; (try have BG2 := hide (BG.out.on hb1)); (try have hcv2 := conv_fig r hr10 _ _ (BG2.out.at 0)))
        try go_wp2_with fail
        refine hK.out _ _ (by exact hHeld.trans (hb1.mono hHeld.size)) (fun hHeld => ?_)
        clear hK K
        refine take_one 7 (by kernel_rfl) rfl (fun K hK => ?_)
        go_simp
        ((first | have BG := hide (Blk.made w1 5 #[.int .u8 (48 + (r : Int))]) | have BG := hide B0.out.drew); have hcv := conv_fig r hr10 _ _ (BG.out.at 0))
        try go_wp2_with fail
        refine hK.out _ _ (by exact hHeld.trans ((below_alloc1 _ _).mono hHeld.size)) (fun hHeld => ?_)
        clear hK K
        refine take_one 8 (by kernel_rfl) rfl (fun K hK => ?_)
        go_simp
        refine hK.out _ _ (by exact hHeld) (fun hHeld => ?_)
        clear hK K
        refine mvR 9 (some 27) hHeld ?_
        refine mvR 10 (some 2) hHeld ?_
        refine wpAnyH_done (by kernel_rfl) ?_ _
        refine NoPanic.normal ?_
        have L9 := hHeld
        clear hHeld
        go_wp2
        go_ret
        exact ⟨by rw [HS.out]; rfl, L9⟩
      · skip
        go_simp
        ((first | have BG := hide (Blk.made w1 5 #[.int .u8 (48 + (r : Int))]) | have BG := hide B0.out.drew); have hcv := conv_fig r hr10 _ _ (BG.out.at 0))
        try go_wp2_with fail
        refine hK.out _ _ (by exact hHeld.trans ((below_alloc1 _ _).mono hHeld.size)) (fun hHeld => ?_)
        clear hK K
        refine wpAnyH_ready (rs := [2, 8]) (by kernel_rfl) (by simp) ?_
        refine AllReadyH.cons rfl (fun K hK => ?_) (AllReadyH.cons rfl (fun K hK => ?_) AllReadyH.nil)
        · skip
          go_simp
          ((with_reducible refine (IH.out _).mono ?_); rintro e w1 ⟨rfl, hb1⟩; (try have BG2 := hide (BG.out.on hb1)); (try have hcv2 := conv_fig r hr10 _ _ (BG2.out.at 0)))
          try go_wp2_with fail
          refine hK.out _ _ (by exact hHeld.trans (hb1.mono hHeld.size)) (fun hHeld => ?_)
          clear hK K
          refine take_one 8 (by kernel_rfl) rfl (fun K hK => ?_)
          go_simp
          refine hK.out _ _ (by exact hHeld) (fun hHeld => ?_)
          clear hK K
          refine mvR 9 (some 27) hHeld ?_
          refine mvR 10 (some 2) hHeld ?_
          refine wpAnyH_done (by kernel_rfl) ?_ _
          refine NoPanic.normal ?_
          have L9 := hHeld
          clear hHeld
          go_wp2
          go_ret
          exact ⟨by rw [HS.out]; rfl, L9⟩
        · skip
          go_simp
          refine hK.out _ _ (by exact hHeld) (fun hHeld => ?_)
          clear hK K
          refine take_one 2 (by kernel_rfl) rfl (fun K hK => ?_)
          go_simp
          ((with_reducible refine (IH.out _).mono ?_); rintro e w1 ⟨rfl, hb1⟩; (try have BG2 := hide (BG.out.on hb1)); (try have hcv2 := conv_fig r hr10 _ _ (BG2.out.at 0)))
          try go_wp2_with fail
          refine hK.out _ _ (by exact hHeld.trans (hb1.mono hHeld.size)) (fun hHeld => ?_)
          clear hK K
          refine mvR 9 (some 27) hHeld ?_
          refine mvR 10 (some 2) hHeld ?_
          refine wpAnyH_done (by kernel_rfl) ?_ _
          refine NoPanic.normal ?_
          have L9 := hHeld
          clear hHeld
          go_wp2
          go_ret
          exact ⟨by rw [HS.out]; rfl, L9⟩
end Go.Proofs.YtnaggcdhimcilaaGreat
/- Contracts of how the model writes tags, causes and versions. Condition: numbers that are not negative, or a version whatever it is. -/
namespace Go.Proofs.YtnaggcdhimcilaaGreat
open Go.RowKit Go.Joins
attribute [local go_sem ↓] Go.wp_at_zero Go.wp_at_succ

/-- A tag as it is written. -/
def tagS (t u : Nat) : ByteArray := decS t ++ ⟨#[46]⟩ ++ decS u
theorem tagS_size (t u : Nat) : (tagS t u).size ≤ t + u + 3 := by
  unfold tagS
  rw [ByteArray.size_append, ByteArray.size_append]
  have := decS_size t
  have := decS_size u
  have : (ByteArray.mk #[46]).size = 1 := rfl
  omega
set_option maxRecDepth 100000 in
set_option maxHeartbeats 2000000 in
theorem l1Put_any (t u : Nat) (ht : t ≤ 1000000) (hu : u ≤ 1000000) (w : World) : Calls Tryz.prog 178 #[.agg #[.int .i64 (t : Int), .int .i64 (u : Int)]] w fun e w' => e = .returned (.string (tagS t u)) ∧ Below w.heap.size w w' := by
  have L0 := below_alloc1 w (.cells #[.int .i64 (t : Int), .int .i64 (u : Int)] 91)
  have B0 := Blk.made w 91 #[.int .i64 (t : Int), .int .i64 (u : Int)]
  have z1 := decS_size t
  have z2 := decS_size u
  have hz1 : ¬ (9223372036854775807 < (decS t).size + 1) := by omega
  have hz2 : ¬ (9223372036854775807 < (decS t).size + 1 + (decS u).size) := by omega
  have HS : Hid (tagS t u = decS t ++ ⟨#[46]⟩ ++ decS u) := rfl
  clear z1 z2
  go_enter Tryz.func178, Tryz.ntmps178
  go_wp2_with fail
  generalize w.alloc (.cells #[.int .i64 (t : Int), .int .i64 (u : Int)] 91) = W at L0 B0 ⊢
  refine wp_region_noPanic ?_
  refine wp_region_held_drew (S := (fun w' => (w'.cell? ⟨w.heap.size, 0, none⟩ = some (.int .i64 (t : Int)) ∧ w'.cell? ⟨w.heap.size, 1, none⟩ = some (.int .i64 (u : Int))) ∧ Blk w' w.heap.size 91 #[.int .i64 (t : Int), .int .i64 (u : Int)] ∧ Below w.heap.size w w')) (by kernel_rfl) (by exact ⟨⟨B0.at 0, B0.at 1⟩, B0.drew, L0.drew⟩) (fun hHeld => ?_)
  refine mvR 0 (some 3) hHeld ?_
  refine mvR 1 (some 4) hHeld ?_
  refine mvR 4 (some 7) hHeld ?_
  refine mvR 5 (some 8) hHeld ?_
  refine take_one 2 (by kernel_rfl) rfl (fun K hK => ?_)
  go_simp
  ((with_reducible refine (l1Dec_any t ht _).mono ?_); rintro e w1 ⟨rfl, hb⟩)
  try go_wp2_with fail
  refine hK.out _ _ (by exact ⟨⟨(hHeld.2.1.on hb).at 0, (hHeld.2.1.on hb).at 1⟩, hHeld.2.1.on hb, hHeld.2.2.trans (hb.mono hHeld.2.2.size)⟩) (fun hHeld => ?_)
  clear hK K
  refine mvR 3 (some 6) hHeld ?_
  refine take_one 6 (by kernel_rfl) rfl (fun K hK => ?_)
  go_simp
  ((with_reducible refine (l1Dec_any u hu _).mono ?_); rintro e w2 ⟨rfl, hb⟩)
  try go_wp2_with fail
  refine hK.out _ _ (by exact ⟨⟨(hHeld.2.1.on hb).at 0, (hHeld.2.1.on hb).at 1⟩, hHeld.2.1.on hb, hHeld.2.2.trans (hb.mono hHeld.2.2.size)⟩) (fun hHeld => ?_)
  clear hK K
  refine mvR 7 (some 10) hHeld ?_
  refine mvR 8 (some 2) hHeld ?_
  refine wpAnyH_done (by kernel_rfl) ?_ _
  refine NoPanic.normal ?_
  have L9 := hHeld.2.2
  clear hHeld
  go_wp2
  go_ret
  exact ⟨by rw [HS.out]; rfl, L9⟩
/-- Causes as they are written. -/
def pastS (ts : List (Int × Int)) : ByteArray := ts.foldl (fun s x => s ++ ⟨#[32]⟩ ++ tagS x.1.toNat x.2.toNat) ⟨#[]⟩
theorem pastS_step {ts : List (Int × Int)} {k : Nat} {x : Int × Int} (h : ts[k]? = some x) : pastS (ts.take (k + 1)) = pastS (ts.take k) ++ ⟨#[32]⟩ ++ tagS x.1.toNat x.2.toNat := by
  unfold pastS
  rw [List.take_add_one, h, List.foldl_append]
  rfl
/-- Numbers that are written in few figures. -/
def LowT (ts : List (Int × Int)) : Prop := ts.length ≤ 4 ∧ ∀ x ∈ ts, (0 ≤ x.1 ∧ x.1 ≤ 1000) ∧ 0 ≤ x.2 ∧ x.2 ≤ 1000
theorem pastS_size {ts : List (Int × Int)} (h : LowT ts) : ∀ k, k ≤ ts.length → (pastS (ts.take k)).size ≤ 2004 * k
  | 0, _ => Nat.zero_le _
  | k + 1, hk => by
    have hx := List.getElem?_eq_getElem (l := ts) (i := k) (by omega)
    rw [pastS_step hx, ByteArray.size_append, ByteArray.size_append]
    have h1 := pastS_size h k (by omega)
    have h2 := tagS_size ts[k].1.toNat ts[k].2.toNat
    have h3 := h.2 _ (List.mem_of_getElem? hx)
    have : (ByteArray.mk #[32]).size = 1 := rfl
    omega
set_option maxRecDepth 100000 in
set_option maxHeartbeats 2000000 in
theorem l2Past_any (a : Option Addr) (c : Nat) (ts : List (Int × Int)) (w : World) (hT : LowT ts) (ht : Tg w w.heap.size a ts) : Calls Tryz.prog 179 #[.agg #[.slice a ts.length c]] w fun e w' => e = .returned (.string (pastS ts)) ∧ Below w.heap.size w w' := by
  have S0 := (Inv.start w).box 94 #[.slice a ts.length c]
  simp only [World.size_alloc] at S0
  have HT := hide hT
  have HA : Hid (pastS (ts.take ts.length) = pastS ts) := by unfold Hid; rw [List.take_length]
  have h4 := hT.1
  clear hT
  generalize hnn : ts.length = n at *
  have HN := hide hnn
  clear hnn
  go_enter Tryz.func179, Tryz.ntmps179
  go_wp2
  go_loopw [3, 4] (fun v i wr => ∃ (k : Nat) (s : ByteArray), k ≤ n ∧ i = .int .i64 (k : Int) ∧ v = .string s ∧ Hid (s = pastS (ts.take k)) ∧ Inv w (w.heap.size + 1) [(w.heap.size, 94, #[.slice a n c])] wr) (fun _ i _ => n - (intOf i).toNat)
  case atStart => exact ⟨0, _, Nat.zero_le _, rfl, rfl, rfl, S0⟩
  case round =>
    obtain ⟨k, s, hk, rfl, rfl, HS, hI⟩ := hrel
    clear S0
    have q0 := (hI.nth 0 rfl).one.1
    by_cases hlt : k < n
    · rcases ht with e0 | ⟨b, off, rfl, hb, hx⟩
      · have := HN.out; subst e0; simp at this; omega
      · obtain ⟨x, hxx⟩ : ∃ x, ts[k]? = some x := ⟨_, List.getElem?_eq_getElem (by have := HN.out; omega)⟩
        have hlow := HT.out.2 x (List.mem_of_getElem? hxx)
        have hst := pastS_step hxx
        have hsz := pastS_size HT.out k (by have := HN.out; omega)
        rw [← HS.out] at hst hsz
        have c0 := (hI.below.cell (p := ⟨b, off + k * 2, none⟩) hb).trans (hx k x hxx).1
        have c1 := (hI.below.cell (p := ⟨b, off + k * 2 + 1, none⟩) hb).trans (hx k x hxx).2
        obtain ⟨x1, x2⟩ := x
        simp only at c0 c1 hlow hst
        obtain ⟨t, rfl⟩ := Int.eq_ofNat_of_zero_le hlow.1.1
        obtain ⟨u, rfl⟩ := Int.eq_ofNat_of_zero_le hlow.2.1
        simp only [Int.toNat_natCast] at hst
        have HST := hide hst
        have z3 := tagS_size t u
        have hz1 : ¬ (9223372036854775807 < s.size + 1) := by omega
        have hz2 : ¬ (9223372036854775807 < s.size + 1 + (tagS t u).size) := by omega
        have i1 : (0 : Int) ≤ (k : Int) := by omega
        have i2 : (k : Int) < (n : Int) := by omega
        have t6 : t ≤ 1000000 := by omega
        have u6 : u ≤ 1000000 := by omega
        clear hx hxx hst z3 hsz hlow
        go_wp2_with fail
        refine (l1Put_any t u t6 u6 _).mono ?_
        rintro e w1 ⟨rfl, hb1⟩
        have I1 := hI.on hb1
        clear hI q0 c0 c1 hb1
        go_wp2
        exact ⟨⟨k + 1, _, by omega, by go_num, rfl, HST.out.symm, I1⟩, by simp [intOf]; omega⟩
    · have hkn : k = n := by omega
      subst hkn
      clear hlt
      go_wp2
      go_ret
      exact ⟨by rw [← HA.out, ← HS.out]; rfl, hI.below⟩
/-- The text of a version as it is written. -/
def textS (s : ByteArray) (g : Bool) : ByteArray := if g = true then ⟨#[45]⟩ else ⟨#[61]⟩ ++ s
/-- A version as it is written. -/
def verS (k t u : Nat) (ts : List (Int × Int)) (s : ByteArray) (g : Bool) : ByteArray := decS k ++ ⟨#[32]⟩ ++ tagS t u ++ pastS ts ++ ⟨#[32]⟩ ++ textS s g
set_option maxRecDepth 100000 in
set_option maxHeartbeats 2000000 in
theorem l2Put_any (k t u : Nat) (a : Option Addr) (c : Nat) (ts : List (Int × Int)) (s : ByteArray) (g : Bool) (w : World) (hk : k ≤ 1000) (ht : t ≤ 1000) (hu : u ≤ 1000) (hT : LowT ts) (hs : s.size ≤ 1000) (hg : Tg w w.heap.size a ts) :
    Calls Tryz.prog 170 #[.agg (verC (k : Int) (t : Int) (u : Int) a ts.length c s g)] w fun e w' => e = .returned (.string (verS k t u ts s g)) ∧ Below w.heap.size w w' := by
  have S0 := (Inv.start w).box 96 (verC (k : Int) (t : Int) (u : Int) a ts.length c s g)
  simp only [World.size_alloc] at S0
  have z1 := decS_size k
  have z2 := tagS_size t u
  have z3 := pastS_size hT ts.length (Nat.le_refl _)
  rw [List.take_length] at z3
  have z4 := hT.1
  have hz0 : ¬ (9223372036854775807 < 1 + s.size) := by omega
  have hz1 : ¬ (9223372036854775807 < (decS k).size + 1) := by omega
  have hz2 : ¬ (9223372036854775807 < (decS k).size + 1 + (tagS t u).size) := by omega
  have hz3 : ¬ (9223372036854775807 < (decS k).size + 1 + (tagS t u).size + (pastS ts).size) := by omega
  have hz4 : ¬ (9223372036854775807 < (decS k).size + 1 + (tagS t u).size + (pastS ts).size + 1) := by omega
  have hz5 : ¬ (9223372036854775807 < (decS k).size + 1 + (tagS t u).size + (pastS ts).size + 1 + 1) := by omega
  have hz6 : ¬ (9223372036854775807 < (decS k).size + 1 + (tagS t u).size + (pastS ts).size + 1 + (1 + s.size)) := by omega
  have HT := hide hT
  have HG := hide hg
  clear hT hg z1 z2 z3 z4
  have q0 := (S0.nth 0 rfl).six.1
  have B0 := S0.nth 0 rfl
  have L0 := S0.below
  clear S0
  cases g
  all_goals
    go_enter Tryz.func170, Tryz.ntmps170
    go_wp2_with fail
  · have HS : Hid (verS k t u ts s false = decS k ++ ⟨#[32]⟩ ++ tagS t u ++ pastS ts ++ ⟨#[32]⟩ ++ (⟨#[61]⟩ ++ s)) := rfl
    generalize w.alloc (.cells (verC (k : Int) (t : Int) (u : Int) a ts.length c s false) 96) = W at L0 B0 q0 ⊢
    refine wp_region_noPanic ?_
    refine wp_region_held_drew (S := (fun w' => (w'.cell? ⟨w.heap.size, 0, none⟩ = some (.int .i64 (k : Int)) ∧ w'.cell? ⟨w.heap.size, 1, none⟩ = some (.int .i64 (t : Int)) ∧ w'.cell? ⟨w.heap.size, 2, none⟩ = some (.int .i64 (u : Int)) ∧ w'.cell? ⟨w.heap.size, 3, none⟩ = some (.slice a ts.length c)) ∧ Blk w' w.heap.size 96 (verC (k : Int) (t : Int) (u : Int) a ts.length c s false) ∧ Below w.heap.size w w')) (by kernel_rfl) (by exact ⟨⟨B0.at 0, B0.at 1, B0.at 2, B0.at 3⟩, B0.drew, L0.drew⟩) (fun hHeld => ?_)
    refine mvR 0 (some 9) hHeld ?_
    refine mvR 1 (some 10) hHeld ?_
    refine mvR 4 (some 13) hHeld ?_
    refine mvR 5 (some 14) hHeld ?_
    refine mvR 8 (some 17) hHeld ?_
    refine mvR 9 (some 18) hHeld ?_
    refine mvR 13 (some 22) hHeld ?_
    refine take_one 2 (by kernel_rfl) rfl (fun K hK => ?_)
    go_simp
    ((with_reducible refine (l1Dec_any k (by omega) _).mono ?_); rintro e w1 ⟨rfl, hb⟩)
    try go_wp2_with fail
    refine hK.out _ _ (by exact ⟨⟨(hHeld.2.1.on hb).at 0, (hHeld.2.1.on hb).at 1, (hHeld.2.1.on hb).at 2, (hHeld.2.1.on hb).at 3⟩, hHeld.2.1.on hb, hHeld.2.2.trans (hb.mono hHeld.2.2.size)⟩) (fun hHeld => ?_)
    clear hK K
    refine mvR 3 (some 12) hHeld ?_
    refine take_one 6 (by kernel_rfl) rfl (fun K hK => ?_)
    go_simp
    ((with_reducible refine (l1Put_any t u (by omega) (by omega) _).mono ?_); rintro e w2 ⟨rfl, hb⟩)
    try go_wp2_with fail
    refine hK.out _ _ (by exact ⟨⟨(hHeld.2.1.on hb).at 0, (hHeld.2.1.on hb).at 1, (hHeld.2.1.on hb).at 2, (hHeld.2.1.on hb).at 3⟩, hHeld.2.1.on hb, hHeld.2.2.trans (hb.mono hHeld.2.2.size)⟩) (fun hHeld => ?_)
    clear hK K
    refine mvR 7 (some 16) hHeld ?_
    refine take_one 10 (by kernel_rfl) rfl (fun K hK => ?_)
    go_simp
    ((with_reducible refine (l2Past_any a c ts _ HT.out ((HG.out.on hHeld.2.2).up hHeld.2.2.size)).mono ?_); rintro e w3 ⟨rfl, hb⟩)
    try go_wp2_with fail
    refine hK.out _ _ (by exact ⟨⟨(hHeld.2.1.on hb).at 0, (hHeld.2.1.on hb).at 1, (hHeld.2.1.on hb).at 2, (hHeld.2.1.on hb).at 3⟩, hHeld.2.1.on hb, hHeld.2.2.trans (hb.mono hHeld.2.2.size)⟩) (fun hHeld => ?_)
    clear hK K
    refine mvR 11 (some 20) hHeld ?_
    refine mvR 12 (some 21) hHeld ?_
    refine mvR 14 (some 23) hHeld ?_
    refine mvR 15 (some 2) hHeld ?_
    refine wpAnyH_done (by kernel_rfl) ?_ _
    refine NoPanic.normal ?_
    have L9 := hHeld.2.2
    clear hHeld
    go_wp2
    go_ret
    exact ⟨by rw [HS.out]; rfl, L9⟩
  · have HS : Hid (verS k t u ts s true = decS k ++ ⟨#[32]⟩ ++ tagS t u ++ pastS ts ++ ⟨#[32]⟩ ++ ⟨#[45]⟩) := rfl
    generalize w.alloc (.cells (verC (k : Int) (t : Int) (u : Int) a ts.length c s true) 96) = W at L0 B0 q0 ⊢
    refine wp_region_noPanic ?_
    refine wp_region_held_drew (S := (fun w' => (w'.cell? ⟨w.heap.size, 0, none⟩ = some (.int .i64 (k : Int)) ∧ w'.cell? ⟨w.heap.size, 1, none⟩ = some (.int .i64 (t : Int)) ∧ w'.cell? ⟨w.heap.size, 2, none⟩ = some (.int .i64 (u : Int)) ∧ w'.cell? ⟨w.heap.size, 3, none⟩ = some (.slice a ts.length c)) ∧ Blk w' w.heap.size 96 (verC (k : Int) (t : Int) (u : Int) a ts.length c s true) ∧ Below w.heap.size w w')) (by kernel_rfl) (by exact ⟨⟨B0.at 0, B0.at 1, B0.at 2, B0.at 3⟩, B0.drew, L0.drew⟩) (fun hHeld => ?_)
    refine mvR 0 (some 9) hHeld ?_
    refine mvR 1 (some 10) hHeld ?_
    refine mvR 4 (some 13) hHeld ?_
    refine mvR 5 (some 14) hHeld ?_
    refine mvR 8 (some 17) hHeld ?_
    refine mvR 9 (some 18) hHeld ?_
    refine mvR 13 (some 22) hHeld ?_
    refine take_one 2 (by kernel_rfl) rfl (fun K hK => ?_)
    go_simp
    ((with_reducible refine (l1Dec_any k (by omega) _).mono ?_); rintro e w1 ⟨rfl, hb⟩)
    try go_wp2_with fail
    refine hK.out _ _ (by exact ⟨⟨(hHeld.2.1.on hb).at 0, (hHeld.2.1.on hb).at 1, (hHeld.2.1.on hb).at 2, (hHeld.2.1.on hb).at 3⟩, hHeld.2.1.on hb, hHeld.2.2.trans (hb.mono hHeld.2.2.size)⟩) (fun hHeld => ?_)
    clear hK K
    refine mvR 3 (some 12) hHeld ?_
    refine take_one 6 (by kernel_rfl) rfl (fun K hK => ?_)
    go_simp
    ((with_reducible refine (l1Put_any t u (by omega) (by omega) _).mono ?_); rintro e w2 ⟨rfl, hb⟩)
    try go_wp2_with fail
    refine hK.out _ _ (by exact ⟨⟨(hHeld.2.1.on hb).at 0, (hHeld.2.1.on hb).at 1, (hHeld.2.1.on hb).at 2, (hHeld.2.1.on hb).at 3⟩, hHeld.2.1.on hb, hHeld.2.2.trans (hb.mono hHeld.2.2.size)⟩) (fun hHeld => ?_)
    clear hK K
    refine mvR 7 (some 16) hHeld ?_
    refine take_one 10 (by kernel_rfl) rfl (fun K hK => ?_)
    go_simp
    ((with_reducible refine (l2Past_any a c ts _ HT.out ((HG.out.on hHeld.2.2).up hHeld.2.2.size)).mono ?_); rintro e w3 ⟨rfl, hb⟩)
    try go_wp2_with fail
    refine hK.out _ _ (by exact ⟨⟨(hHeld.2.1.on hb).at 0, (hHeld.2.1.on hb).at 1, (hHeld.2.1.on hb).at 2, (hHeld.2.1.on hb).at 3⟩, hHeld.2.1.on hb, hHeld.2.2.trans (hb.mono hHeld.2.2.size)⟩) (fun hHeld => ?_)
    clear hK K
    refine mvR 11 (some 20) hHeld ?_
    refine mvR 12 (some 21) hHeld ?_
    refine mvR 14 (some 23) hHeld ?_
    refine mvR 15 (some 2) hHeld ?_
    refine wpAnyH_done (by kernel_rfl) ?_ _
    refine NoPanic.normal ?_
    have L9 := hHeld.2.2
    clear hHeld
    go_wp2
    go_ret
    exact ⟨by rw [HS.out]; rfl, L9⟩
theorem verB_parts {k t u : Int} {ts : List (Int × Int)} {s : ByteArray} {g : Bool} (h : verB k t u ts s g = true) : (0 ≤ k ∧ k ≤ 3) ∧ textB s = true ∧ okB t u = true ∧ pastB ts = true := by
  unfold verB at h
  simp only [Bool.and_eq_true, decide_eq_true_eq] at h
  exact ⟨h.1.1.1.1.1.1, h.1.1.1.1.1.2, h.1.1.1.1.2, h.1.2⟩
theorem lowT_past {ts : List (Int × Int)} (h : pastB ts = true) : LowT ts := by
  unfold pastB at h
  rw [Bool.and_eq_true, List.all_eq_true, decide_eq_true_eq] at h
  refine ⟨by omega, fun x hx => ?_⟩
  have := okB_i (h.2 x hx)
  omega
/-- A version as VerPut writes it. -/
def verPutS (k t u : Int) (ts : List (Int × Int)) (s : ByteArray) (g : Bool) : ByteArray := if verB k t u ts s g = true then verS k.toNat t.toNat u.toNat ts s g else ⟨#[]⟩
end Go.Proofs.YtnaggcdhimcilaaGreat
/- Versions are told apart by how the model writes them. Condition: versions that are valid. -/
namespace Go.Proofs.YtnaggcdhimcilaaGreat

/-- The bytes of a text. -/
def bl (s : ByteArray) : List UInt8 := s.data.toList
theorem bl_app (s t : ByteArray) : bl (s ++ t) = bl s ++ bl t := by simp [bl, ByteArray.data_append]
theorem bl_inj {s t : ByteArray} (h : bl s = bl t) : s = t := by
  cases s with | mk a =>
  cases t with | mk b =>
  have : a = b := Array.toList_inj.1 h
  rw [this]
def Dig (b : UInt8) : Prop := 48 ≤ b.toNat ∧ b.toNat ≤ 57
theorem bl_fig (n : Nat) : bl (figS n) = [UInt8.ofNat (48 + n)] := rfl
theorem dig_fig {n : Nat} (h : n < 10) : Dig (UInt8.ofNat (48 + n)) := by
  unfold Dig
  rw [UInt8.toNat_ofNat']
  omega
theorem dec_dig (n : Nat) : ∀ b ∈ bl (decS n), Dig b := by
  induction n using Nat.strongRecOn with
  | ind n ih =>
    intro b hb
    by_cases h : n < 10
    · rw [decS_low h, bl_fig] at hb
      rw [List.mem_singleton.1 hb]
      exact dig_fig h
    · rw [decS_high h, bl_app, bl_fig, List.mem_append] at hb
      rcases hb with hb | hb
      · exact ih (n / 10) (by omega) b hb
      · rw [List.mem_singleton.1 hb]
        exact dig_fig (by omega)
def valL (l : List UInt8) : Nat := l.foldl (fun a b => a * 10 + (b.toNat - 48)) 0
theorem val_snoc (l : List UInt8) (b : UInt8) : valL (l ++ [b]) = valL l * 10 + (b.toNat - 48) := by simp [valL, List.foldl_append]
theorem val_dec (n : Nat) : valL (bl (decS n)) = n := by
  induction n using Nat.strongRecOn with
  | ind n ih =>
    by_cases h : n < 10
    · rw [decS_low h, bl_fig]
      have : (UInt8.ofNat (48 + n)).toNat = 48 + n := by rw [UInt8.toNat_ofNat']; omega
      show 0 * 10 + ((UInt8.ofNat (48 + n)).toNat - 48) = n
      omega
    · have : (UInt8.ofNat (48 + n % 10)).toNat = 48 + n % 10 := by rw [UInt8.toNat_ofNat']; omega
      rw [decS_high h, bl_app, bl_fig, val_snoc, ih (n / 10) (by omega), this]
      omega
theorem split_at : ∀ (a a' : List UInt8) (c c' : UInt8) (r r' : List UInt8), (∀ b ∈ a, Dig b) → (∀ b ∈ a', Dig b) → ¬ Dig c → ¬ Dig c' → a ++ c :: r = a' ++ c' :: r' → a = a' ∧ c = c' ∧ r = r'
  | [], [], c, c', r, r', _, _, _, _, h => by
    injection h with h1 h2
    exact ⟨rfl, h1, h2⟩
  | [], x :: a', c, c', r, r', _, h2, h3, _, h => by
    injection h with h _
    exact absurd (h2 x (List.mem_cons_self ..)) (h ▸ h3)
  | x :: a, [], c, c', r, r', h1, _, _, h4, h => by
    injection h with h _
    exact absurd (h1 x (List.mem_cons_self ..)) (h.symm ▸ h4)
  | x :: a, y :: a', c, c', r, r', h1, h2, h3, h4, h => by
    injection h with e h
    obtain ⟨q1, q2, q3⟩ := split_at a a' c c' r r' (fun b hb => h1 b (List.mem_cons_of_mem _ hb)) (fun b hb => h2 b (List.mem_cons_of_mem _ hb)) h3 h4 h
    exact ⟨by rw [e, q1], q2, q3⟩
theorem dec_split {n n' : Nat} {c c' : UInt8} {r r' : List UInt8} (hc : ¬ Dig c) (hc' : ¬ Dig c') (h : bl (decS n) ++ c :: r = bl (decS n') ++ c' :: r') : n = n' ∧ r = r' := by
  obtain ⟨h1, _, h3⟩ := split_at _ _ _ _ _ _ (dec_dig n) (dec_dig n') hc hc' h
  exact ⟨by rw [← val_dec n, h1, val_dec], h3⟩
theorem nodig32 : ¬ Dig 32 := by unfold Dig; decide
theorem nodig46 : ¬ Dig 46 := by unfold Dig; decide
/-- Causes and what follows them, as they are written. -/
def pastT (ts : List (Int × Int)) (R : List UInt8) : List UInt8 := ts.foldr (fun x r => 32 :: (bl (decS x.1.toNat) ++ 46 :: (bl (decS x.2.toNat) ++ r))) R
theorem pastS_from (ts : List (Int × Int)) (s : ByteArray) (R : List UInt8) : bl (ts.foldl (fun s x => s ++ ⟨#[32]⟩ ++ tagS x.1.toNat x.2.toNat) s) ++ R = bl s ++ pastT ts R := by
  induction ts generalizing s with
  | nil => rfl
  | cons x r ih =>
    rw [List.foldl_cons, ih]
    have e1 : bl (ByteArray.mk #[32]) = [32] := rfl
    have e2 : bl (ByteArray.mk #[46]) = [46] := rfl
    simp only [tagS, bl_app, e1, e2, pastT, List.foldr_cons, List.append_assoc, List.cons_append, List.nil_append]
theorem pastS_T (ts : List (Int × Int)) (R : List UInt8) : bl (pastS ts) ++ R = pastT ts R := pastS_from ts ⟨#[]⟩ R
theorem pastT_head (ts : List (Int × Int)) (r : List UInt8) : ∃ q, pastT ts (32 :: r) = 32 :: q := by
  cases ts with
  | nil => exact ⟨r, rfl⟩
  | cons x l => exact ⟨_, rfl⟩
theorem pastT_inj : ∀ (ts ts' : List (Int × Int)) (r r' : List UInt8), ts.length = ts'.length → (∀ x ∈ ts, 0 ≤ x.1 ∧ 0 ≤ x.2) → (∀ x ∈ ts', 0 ≤ x.1 ∧ 0 ≤ x.2) → pastT ts (32 :: r) = pastT ts' (32 :: r') → ts = ts' ∧ r = r'
  | [], [], r, r', _, _, _, h => ⟨rfl, by injection h⟩
  | [], _ :: _, _, _, h, _, _, _ => by simp at h
  | _ :: _, [], _, _, h, _, _, _ => by simp at h
  | x :: ts, y :: ts', r, r', hl, h1, h2, h => by
    simp only [pastT, List.foldr_cons] at h
    injection h with _ h
    obtain ⟨e1, h⟩ := dec_split nodig46 nodig46 h
    obtain ⟨q, hq⟩ := pastT_head ts r
    obtain ⟨q', hq'⟩ := pastT_head ts' r'
    have h' : bl (decS x.2.toNat) ++ pastT ts (32 :: r) = bl (decS y.2.toNat) ++ pastT ts' (32 :: r') := h
    rw [hq, hq'] at h'
    obtain ⟨e2, h'⟩ := dec_split nodig32 nodig32 h'
    have h'' : pastT ts (32 :: r) = pastT ts' (32 :: r') := by rw [hq, hq', h']
    simp only [List.length_cons] at hl
    obtain ⟨e3, e4⟩ := pastT_inj ts ts' r r' (by omega) (fun b hb => h1 b (List.mem_cons_of_mem _ hb)) (fun b hb => h2 b (List.mem_cons_of_mem _ hb)) h''
    have p1 := h1 x (List.mem_cons_self ..)
    have p2 := h2 y (List.mem_cons_self ..)
    refine ⟨?_, e4⟩
    rw [e3]
    congr 1
    exact Prod.ext (by omega) (by omega)
theorem text_inj {s s' : ByteArray} {g g' : Bool} (h : bl (textS s g) = bl (textS s' g')) : g = g' ∧ (g = false → s = s') := by
  have e1 : bl (ByteArray.mk #[45]) = [45] := rfl
  have e2 : bl (ByteArray.mk #[61]) = [61] := rfl
  cases g <;> cases g'
  · refine ⟨rfl, fun _ => bl_inj ?_⟩
    simp only [textS, Bool.false_eq_true, if_false, bl_app, e2, List.singleton_append] at h
    injection h
  · simp only [textS, Bool.false_eq_true, if_false, if_true, bl_app, e1, e2, List.singleton_append] at h
    injection h with h _
    exact absurd h (by decide)
  · simp only [textS, Bool.false_eq_true, if_false, if_true, bl_app, e1, e2, List.singleton_append] at h
    injection h with h _
    exact absurd h (by decide)
  · exact ⟨rfl, fun h => by cases h⟩
theorem verS_inj {k t u k' t' u' : Nat} {ts ts' : List (Int × Int)} {s s' : ByteArray} {g g' : Bool} (hl : ts.length = ts'.length) (h1 : ∀ x ∈ ts, 0 ≤ x.1 ∧ 0 ≤ x.2) (h2 : ∀ x ∈ ts', 0 ≤ x.1 ∧ 0 ≤ x.2) (h : verS k t u ts s g = verS k' t' u' ts' s' g') :
    k = k' ∧ t = t' ∧ u = u' ∧ ts = ts' ∧ g = g' ∧ (g = false → s = s') := by
  have h := congrArg bl h
  have e1 : bl (ByteArray.mk #[32]) = [32] := rfl
  have e2 : bl (ByteArray.mk #[46]) = [46] := rfl
  simp only [verS, tagS, bl_app, e1, e2, List.append_assoc, List.cons_append, List.nil_append] at h
  rw [pastS_T, pastS_T] at h
  obtain ⟨q1, h⟩ := dec_split nodig32 nodig32 h
  obtain ⟨q2, h⟩ := dec_split nodig46 nodig46 h
  obtain ⟨q, hq⟩ := pastT_head ts (bl (textS s g))
  obtain ⟨q', hq'⟩ := pastT_head ts' (bl (textS s' g'))
  rw [hq, hq'] at h
  obtain ⟨q3, h⟩ := dec_split nodig32 nodig32 h
  have h'' : pastT ts (32 :: bl (textS s g)) = pastT ts' (32 :: bl (textS s' g')) := by rw [hq, hq', h]
  obtain ⟨q4, h⟩ := pastT_inj ts ts' _ _ hl h1 h2 h''
  obtain ⟨q5, q6⟩ := text_inj h
  exact ⟨q1, q2, q3, q4, q5, q6⟩
end Go.Proofs.YtnaggcdhimcilaaGreat
/- Contracts of whether two versions, two slices of versions are the same, in the program and in the model. Condition: what is said of each. -/
namespace Go.Proofs.YtnaggcdhimcilaaGreat
open Go.RowKit Go.Joins
attribute [local go_sem ↓] Go.wp_at_zero Go.wp_at_succ

theorem tagEq_at (a b t u : Int) (W : World) : (binOp .eql 91 (.agg #[.int .i64 a, .int .i64 b]) (.agg #[.int .i64 t, .int .i64 u])).run Tryz.prog W = .ok (.bool (eqB a b t u)) W := by
  by_cases ht : a = t
  · subst ht
    by_cases hp : b = u
    · subst hp
      rw [eqB_same]
      go_simp
    · have h : eqB a b a u = false := by unfold eqB; simpa using hp
      rw [h]
      go_simp
  · have h : eqB a b t u = false := by unfold eqB; simp [ht]
    rw [h]
    go_simp
theorem tagNe_at (a b t u : Int) (W : World) : (binOp .neq 91 (.agg #[.int .i64 a, .int .i64 b]) (.agg #[.int .i64 t, .int .i64 u])).run Tryz.prog W = .ok (.bool (!eqB a b t u)) W := by
  by_cases ht : a = t
  · subst ht
    by_cases hp : b = u
    · subst hp
      rw [eqB_same]
      go_simp
    · have h : eqB a b a u = false := by unfold eqB; simpa using hp
      rw [h]
      go_simp
  · have h : eqB a b t u = false := by unfold eqB; simp [ht]
    rw [h]
    go_simp
theorem str_same (s s' : ByteArray) : (s.toList == s'.toList) = decide (s = s') := by
  rw [Bool.eq_iff_iff, beq_iff_eq, decide_eq_true_eq, ByteArray.toList_eq, ByteArray.toList_eq]
  exact ⟨bl_inj, fun h => by rw [h]⟩
set_option maxRecDepth 100000 in
set_option maxHeartbeats 2000000 in
theorem equalTags_any (a a' : Option Addr) (c c' : Nat) (ts us : List (Int × Int)) (w : World) (hn : ts.length ≤ 1048576) (_hn' : us.length ≤ 1048576) (ht : Tg w w.heap.size a ts) (hu : Tg w w.heap.size a' us) :
    Calls Tryz.prog 142 #[.slice a ts.length c, .slice a' us.length c'] w fun e w' => e = .returned (.bool (decide (ts = us))) ∧ Below w.heap.size w w' := by
  by_cases hlen : ts.length = us.length
  · have hd : Hid (ts.take ts.length = us.take us.length ↔ ts = us) := by unfold Hid; rw [List.take_length, List.take_length]
    generalize hnn : ts.length = n at *
    rw [← hlen] at hd ⊢
    have HN := hide hnn
    have HL := hide hlen
    clear hnn hlen
    go_enter Tryz.func142, Tryz.ntmps142
    go_wp2
    go_loopw [13] (fun i wr => ∃ k : Nat, k ≤ n ∧ i = .int .i64 (k : Int) ∧ Hid (ts.take k = us.take k) ∧ Below w.heap.size w wr) (fun i _ => n - (intOf i).toNat)
    case atStart => exact ⟨0, Nat.zero_le _, rfl, by simp [Hid], Below.refl _ _⟩
    case round =>
      obtain ⟨k, hk, rfl, heq, hL⟩ := hrel
      by_cases hlt : k < n
      · rcases ht with h0 | ⟨b, off, rfl, hb, hx⟩
        · have := HN.out; subst h0; simp at this; omega
        · rcases hu with h0 | ⟨b', off', rfl, hb', hx'⟩
          · have := HL.out; subst h0; simp at this; omega
          · have hkl : k < ts.length := by have := HN.out; omega
            have hkl' : k < us.length := by have := HL.out; omega
            obtain ⟨hc0, hc1⟩ := hx k _ (List.getElem?_eq_getElem hkl)
            obtain ⟨hd0, hd1⟩ := hx' k _ (List.getElem?_eq_getElem hkl')
            have c0 := (hL.cell (p := ⟨b, off + k * 2, none⟩) hb).trans hc0
            have c1 := (hL.cell (p := ⟨b, off + k * 2 + 1, none⟩) hb).trans hc1
            have d0 := (hL.cell (p := ⟨b', off' + k * 2, none⟩) hb').trans hd0
            have d1 := (hL.cell (p := ⟨b', off' + k * 2 + 1, none⟩) hb').trans hd1
            have HX := hide (List.getElem?_eq_getElem hkl)
            have HY := hide (List.getElem?_eq_getElem hkl')
            generalize ts[k] = x at c0 c1 HX
            generalize us[k] = y at d0 d1 HY
            obtain ⟨x1, x2⟩ := x
            obtain ⟨y1, y2⟩ := y
            simp only at c0 c1 d0 d1
            clear hc0 hc1 hd0 hd1 hx hx'
            have hne := tagNe_at x1 x2 y1 y2
            have i1 : (0 : Int) ≤ (k : Int) := by omega
            have i2 : (k : Int) < (n : Int) := by omega
            go_wp2_with fail
            refine wp_region_noPanic ?_
            refine wp_region_held_drew (S := (fun w' => w'.cell? ⟨b, off + k * 2, none⟩ = some (.int .i64 x1) ∧ w'.cell? ⟨b, off + k * 2 + 1, none⟩ = some (.int .i64 x2) ∧ w'.cell? ⟨b', off' + k * 2, none⟩ = some (.int .i64 y1) ∧ w'.cell? ⟨b', off' + k * 2 + 1, none⟩ = some (.int .i64 y2) ∧ Below w.heap.size w w')) (by kernel_rfl) (by exact ⟨c0, c1, d0, d1, hL.drew⟩) (fun hHeld => ?_)
            refine mvR 0 (some 16) hHeld ?_
            refine mvR 1 (some 17) hHeld ?_
            refine mvR 2 (some 18) hHeld ?_
            refine mvR 3 (some 19) hHeld ?_
            refine mvR 4 (some 20) hHeld ?_
            refine mvR 5 (some 21) hHeld ?_
            refine mvR 6 (some 22) hHeld ?_
            refine mvR 7 (some 23) hHeld ?_
            refine mvR 8 (some 24) hHeld ?_
            refine wpAnyH_done (by kernel_rfl) ?_ _
            refine NoPanic.normal ?_
            have hL2 := hHeld.2.2.2.2
            clear hHeld c0 c1 d0 d1 hL hne
            by_cases hxy : x1 = y1 ∧ x2 = y2
            · obtain ⟨rfl, rfl⟩ := hxy
              rw [eqB_same]
              have HS := hide (take_eq_step HX.out HY.out heq.out rfl)
              clear heq
              go_wp2
              exact ⟨⟨k + 1, by omega, by go_num, HS, hL2⟩, by simp [intOf]; omega⟩
            · have he : eqB x1 x2 y1 y2 = false := decide_eq_false hxy
              rw [he]
              have hf : Hid (decide (ts = us) = false) := decide_eq_false (fun e => hxy (by
                have h1 := HX.out
                have h2 := HY.out
                rw [e, h2] at h1
                injection h1 with h1
                injection h1 with h3 h4
                exact ⟨h3.symm, h4.symm⟩))
              clear hxy he
              go_wp2
              go_ret
              exact ⟨ret_bool hf.out.symm, hL2⟩
      · have hkn : k = n := by omega
        subst hkn
        clear hlt
        have hf : Hid (decide (ts = us) = true) := decide_eq_true (hd.out.1 heq.out)
        clear heq
        go_wp2
        go_ret
        exact ⟨ret_bool hf.out.symm, hL⟩
  · have hd : Hid (decide (ts = us) = false) := decide_eq_false (fun e => hlen (by rw [e]))
    have hne : ((ts.length : Int) != (us.length : Int)) = true := by simp; omega
    clear hlen
    go_enter Tryz.func142, Tryz.ntmps142
    go_wp2
    go_ret
    exact ⟨ret_bool hd.out.symm, Below.refl _ _⟩

/-- Whether two versions say the same. -/
def likeB (v v' : V) : Bool := decide (v.k = v'.k) && eqB v.t v.u v'.t v'.u && decide (v.ts = v'.ts) && decide (v.s = v'.s) && decide (v.g = v'.g)
theorem likeB_iff (v v' : V) : likeB v v' = true ↔ V.like v v' := by
  unfold likeB V.like eqB
  simp only [Bool.and_eq_true, decide_eq_true_eq]
  constructor
  · rintro ⟨⟨⟨⟨h1, h2, h3⟩, h4⟩, h5⟩, h6⟩
    exact ⟨h1, h2, h3, h4, h5, h6⟩
  · rintro ⟨h1, h2, h3, h4, h5, h6⟩
    exact ⟨⟨⟨⟨h1, h2, h3⟩, h4⟩, h5⟩, h6⟩
set_option maxRecDepth 100000 in
set_option maxHeartbeats 2000000 in
theorem verSame_any (k t u : Int) (a : Option Addr) (c : Nat) (ts : List (Int × Int)) (s : ByteArray) (g : Bool) (k' t' u' : Int) (a' : Option Addr) (c' : Nat) (ts' : List (Int × Int)) (s' : ByteArray) (g' : Bool) (w : World) (hn : ts.length ≤ 1048576) (hn' : ts'.length ≤ 1048576) (ht : Tg w w.heap.size a ts) (ht' : Tg w w.heap.size a' ts') :
    Calls Tryz.prog 111 #[.agg (verC k t u a ts.length c s g), .agg (verC k' t' u' a' ts'.length c' s' g')] w fun e w' => e = .returned (.bool (likeB ⟨k, t, u, a, c, ts, s, g⟩ ⟨k', t', u', a', c', ts', s', g'⟩)) ∧ Below w.heap.size w w' := by
  have S0 := ((Inv.start w).box 96 (verC k t u a ts.length c s g)).box 96 (verC k' t' u' a' ts'.length c' s' g')
  simp only [World.size_alloc] at S0
  have q0 := (S0.nth 0 rfl).six.1
  have q1 := (S0.nth 1 rfl).six.1
  by_cases hk : k = k'
  · subst hk
    have hte := tagEq_at t u t' u'
    cases hq : eqB t u t' u'
    · have HF : Hid (likeB ⟨k, t, u, a, c, ts, s, g⟩ ⟨k, t', u', a', c', ts', s', g'⟩ = false) := by unfold Hid likeB; simp [hq]
      rw [hq] at hte
      clear hq
      go_enter Tryz.func111, Tryz.ntmps111
      go_wp2
      go_ret
      exact ⟨ret_bool HF.out.symm, S0.below⟩
    · rw [hq] at hte
      have HQ := hide hq
      have CT := hide (equalTags_any a a' c c' ts ts' ((w.alloc (.cells (verC k t u a ts.length c s g) 96)).alloc (.cells (verC k t' u' a' ts'.length c' s' g') 96)) hn hn' ((ht.on S0.below).up S0.base) ((ht'.on S0.below).up S0.base))
      have hse := str_same s s'
      clear hq ht ht'
      go_enter Tryz.func111, Tryz.ntmps111
      go_wp2_with fail
      with_reducible refine CT.out.mono ?_
      rintro e w1 ⟨rfl, hb1⟩
      have S1 := S0.on hb1
      have p0 := (S1.nth 0 rfl).six.1
      have p1 := (S1.nth 1 rfl).six.1
      clear S0 q0 q1 CT hte hb1
      by_cases h3 : ts = ts'
      · rw [decide_eq_true h3]
        have H3 := hide h3
        clear h3
        by_cases h4 : s = s'
        · rw [decide_eq_true h4] at hse
          have HF : Hid (likeB ⟨k, t, u, a, c, ts, s, g⟩ ⟨k, t', u', a', c', ts', s', g'⟩ = decide (g = g')) := by unfold Hid likeB; simp [HQ.out, H3.out, h4]
          clear h4
          have HG : Hid (decide (g = g') = (g == g')) := by unfold Hid; cases g <;> cases g' <;> rfl
          go_wp2
          go_ret
          exact ⟨ret_bool (by rw [HF.out, HG.out]), S1.below⟩
        · rw [decide_eq_false h4] at hse
          have HF : Hid (likeB ⟨k, t, u, a, c, ts, s, g⟩ ⟨k, t', u', a', c', ts', s', g'⟩ = false) := by unfold Hid likeB; simp [h4]
          clear h4
          go_wp2
          go_ret
          exact ⟨ret_bool HF.out.symm, S1.below⟩
      · rw [decide_eq_false h3]
        have HF : Hid (likeB ⟨k, t, u, a, c, ts, s, g⟩ ⟨k, t', u', a', c', ts', s', g'⟩ = false) := by unfold Hid likeB; simp [h3]
        clear h3
        go_wp2
        go_ret
        exact ⟨ret_bool HF.out.symm, S1.below⟩
  · have HF : Hid (likeB ⟨k, t, u, a, c, ts, s, g⟩ ⟨k', t', u', a', c', ts', s', g'⟩ = false) := by unfold Hid likeB; simp [hk]
    have hk' : (k == k') = false := by simpa using hk
    clear hk
    go_enter Tryz.func111, Tryz.ntmps111
    go_wp2
    go_ret
    exact ⟨ret_bool HF.out.symm, S0.below⟩

/-- Whether two slices of versions say the same. -/
def likesB : List V → List V → Bool
  | [], [] => true
  | v :: vs, u :: us => likeB v u && likesB vs us
  | _, _ => false
theorem likesB_iff (vs us : List V) : likesB vs us = true ↔ vs.length = us.length ∧ Like vs us := by
  induction vs generalizing us with
  | nil =>
    cases us with
    | nil => simp [likesB, Like]
    | cons u us => simp [likesB]
  | cons v vs ih =>
    cases us with
    | nil => simp [likesB]
    | cons u us =>
      rw [likesB, Bool.and_eq_true, likeB_iff, ih]
      constructor
      · rintro ⟨h1, h2, h3⟩
        refine ⟨by simp [h2], fun i x y hx hy => ?_⟩
        cases i with
        | zero =>
          simp only [List.getElem?_cons_zero, Option.some.injEq] at hx hy
          rw [← hx, ← hy]
          exact h1
        | succ i => exact h3 i x y hx hy
      · rintro ⟨h2, h3⟩
        exact ⟨h3 0 v u rfl rfl, by simpa using h2, fun i x y hx hy => h3 (i + 1) x y hx hy⟩
theorem likesB_no {vs us : List V} {i : Nat} {v u : V} (h1 : vs[i]? = some v) (h2 : us[i]? = some u) (h : likeB v u = false) : likesB vs us = false := by
  cases hq : likesB vs us with
  | false => rfl
  | true =>
    have := (likesB_iff vs us).1 hq
    rw [(likeB_iff v u).2 (this.2 i v u h1 h2)] at h
    cases h
set_option maxRecDepth 100000 in
set_option maxHeartbeats 2000000 in
theorem equalFunc_any (a a' : Option Addr) (c c' : Nat) (vs us : List V) (w : World) (hn : vs.length ≤ 1048576) (hm : Small vs) (hm' : Small us) (hv : Vg w w.heap.size a vs) (hu : Vg w w.heap.size a' us) :
    Calls Tryz.prog 133 #[.slice a vs.length c, .slice a' us.length c', .func (.func 111) #[] #[]] w fun e w' => e = .returned (.bool (likesB vs us)) ∧ Below w.heap.size w w' := by
  have HM := hide hm
  have HM' := hide hm'
  clear hm hm'
  by_cases hlen : vs.length = us.length
  · generalize hnn : vs.length = n at *
    rw [← hlen]
    have HN := hide hnn
    have HL := hide hlen
    clear hnn hlen
    go_enter Tryz.func133, Tryz.ntmps133
    go_wp2
    go_loopw [17] (fun i wr => ∃ k : Nat, k ≤ n ∧ i = .int .i64 (k : Int) ∧ Hid (∀ (j : Nat) x y, j < k → vs[j]? = some x → us[j]? = some y → V.like x y) ∧ Below w.heap.size w wr) (fun i _ => n - (intOf i).toNat)
    case atStart => exact ⟨0, Nat.zero_le _, rfl, fun j x y hj => absurd hj (by omega), Below.refl _ _⟩
    case round =>
      obtain ⟨k, hk, rfl, heq, hL⟩ := hrel
      by_cases hlt : k < n
      · rcases hv with h0 | ⟨b, off, rfl, hb, hx⟩
        · have := HN.out; subst h0; simp at this; omega
        · rcases hu with h0 | ⟨b', off', rfl, hb', hx'⟩
          · have := HL.out; subst h0; simp at this; omega
          · have hkl : k < vs.length := by have := HN.out; omega
            have hkl' : k < us.length := by have := HL.out; omega
            obtain ⟨hS, hT⟩ := hx k _ (List.getElem?_eq_getElem hkl)
            obtain ⟨hS2, hT2⟩ := hx' k _ (List.getElem?_eq_getElem hkl')
            have HX := hide (List.getElem?_eq_getElem hkl)
            have HY := hide (List.getElem?_eq_getElem hkl')
            generalize vs[k] = v at hS hT HX
            generalize us[k] = v' at hS2 hT2 HY
            have HB := hide (HM.out v (List.mem_of_getElem? HX.out)).1
            have HB' := hide (HM'.out v' (List.mem_of_getElem? HY.out)).1
            obtain ⟨vk, vt, vu, va, vc, vts, vs', vg⟩ := v
            obtain ⟨uk, ut, uu, ua, uc, uts, us', ug⟩ := v'
            have Q1 := (hS.keep hb fun _ hp => hL.cell hp)
            have hLa := hL.trans ((below_alloc1 wr (.cells (verC vk vt vu va vts.length vc vs' vg) 96)).mono hL.size)
            have Q2 := (hS2.keep hb' fun _ hp => hLa.cell hp)
            simp only at Q1 Q2 hT hT2
            have T1 := hide hT
            have T2 := hide hT2
            clear hS hS2 hT hT2 hx hx'
            have i1 : (0 : Int) ≤ (k : Int) := by omega
            have i2 : (k : Int) < (n : Int) := by omega
            have S0 := (((Inv.start w).on hL).top.box 96 (verC vk vt vu va vts.length vc vs' vg)).box 96 (verC uk ut uu ua uts.length uc us' ug)
            simp only [World.size_alloc] at S0
            go_wp2_with fail
            generalize (wr.alloc (.cells (verC vk vt vu va vts.length vc vs' vg) 96)).alloc (.cells (verC uk ut uu ua uts.length uc us' ug) 96) = W at S0 ⊢
            refine (verSame_any vk vt vu va vc vts vs' vg uk ut uu ua uc uts us' ug W HB.out HB'.out ((T1.out.on S0.below).up S0.base) ((T2.out.on S0.below).up S0.base)).mono ?_
            rintro e w1 ⟨rfl, hb1⟩
            have S1 := S0.on hb1
            clear S0 Q1 Q2 hLa hL
            cases hq : likeB ⟨vk, vt, vu, va, vc, vts, vs', vg⟩ ⟨uk, ut, uu, ua, uc, uts, us', ug⟩
            · have HF := hide (likesB_no HX.out HY.out hq)
              clear hq
              go_wp2
              go_ret
              exact ⟨ret_bool HF.out.symm, S1.below⟩
            · have HS : Hid (∀ (j : Nat) x y, j < k + 1 → vs[j]? = some x → us[j]? = some y → V.like x y) := fun j x y hj hx hy => by
                by_cases e : j = k
                · subst e
                  have h1 := HX.out
                  have h2 := HY.out
                  rw [h1] at hx
                  rw [h2] at hy
                  injection hx with hx
                  injection hy with hy
                  rw [← hx, ← hy]
                  exact (likeB_iff _ _).1 hq
                · exact heq.out j x y (by omega) hx hy
              clear hq heq
              go_wp2
              exact ⟨⟨k + 1, by omega, by go_num, HS, S1.below⟩, by simp [intOf]; omega⟩
      · have hkn : k = n := by omega
        subst hkn
        clear hlt
        have hf : Hid (likesB vs us = true) := (likesB_iff vs us).2 ⟨by have := HN.out; have := HL.out; omega, fun i x y hx hy => heq.out i x y (by have := (List.getElem?_eq_some_iff.1 hx).1; have := HN.out; omega) hx hy⟩
        clear heq
        go_wp2
        go_ret
        exact ⟨ret_bool hf.out.symm, hL⟩
  · have hd : Hid (likesB vs us = false) := by
      cases hq : likesB vs us with
      | false => rfl
      | true => exact absurd ((likesB_iff vs us).1 hq).1 hlen
    have hne : ((vs.length : Int) != (us.length : Int)) = true := by simp; omega
    clear hlen
    go_enter Tryz.func133, Tryz.ntmps133
    go_wp2
    go_ret
    exact ⟨ret_bool hd.out.symm, Below.refl _ _⟩
end Go.Proofs.YtnaggcdhimcilaaGreat
