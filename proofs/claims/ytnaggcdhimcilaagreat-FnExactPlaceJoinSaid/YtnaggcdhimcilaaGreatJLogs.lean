/- Chains that came in: how they are read, and their size. Condition: what is said of each. -/
import Derived.Test.YtnaggcdhimcilaaGreatJChainOk
namespace Go.Proofs.YtnaggcdhimcilaaGreat
open Go.RowKit Go.Joins
attribute [local go_sem ↓] Go.wp_at_zero Go.wp_at_succ

/-- A slice that reads as these nodes, in old memory (below block B). -/
def Ng (w : World) (B : Nat) (a : Option Addr) (ns : List Nd) : Prop :=
  ns = [] ∨ ∃ b off : Nat, a = some ⟨b, off, none⟩ ∧ b < B ∧ ∀ (i : Nat) n, ns[i]? = some n → (w.cell? ⟨b, off + i * 2, none⟩ = some (.slice n.sa n.ss.length n.sc) ∧ w.cell? ⟨b, off + i * 2 + 1, none⟩ = some (.slice n.wa n.ws.length n.wc)) ∧ Vg w B n.sa n.ss ∧ Vg w B n.wa n.ws
theorem Ng.on {w w' : World} {B : Nat} {a : Option Addr} {ns : List Nd} (h : Ng w B a ns) (hb : Below B w w') : Ng w' B a ns := by
  rcases h with h | ⟨b, off, ha, hlt, hx⟩
  · exact .inl h
  · exact .inr ⟨b, off, ha, hlt, fun i n hi => ⟨⟨(hb.cell (p := ⟨b, off + i * 2, none⟩) hlt).trans (hx i n hi).1.1, (hb.cell (p := ⟨b, off + i * 2 + 1, none⟩) hlt).trans (hx i n hi).1.2⟩, (hx i n hi).2.1.on hb, (hx i n hi).2.2.on hb⟩⟩
theorem Ng.up {w : World} {B B' : Nat} {a : Option Addr} {ns : List Nd} (h : Ng w B a ns) (hB : B ≤ B') : Ng w B' a ns := by
  rcases h with h | ⟨b, off, ha, hlt, hx⟩
  · exact .inl h
  · exact .inr ⟨b, off, ha, by omega, fun i n hi => ⟨(hx i n hi).1, (hx i n hi).2.1.up hB, (hx i n hi).2.2.up hB⟩⟩
/-- How much these nodes weigh beside their number. -/
def totN (n : Nd) : Nat := (n.ss.length + tot n.ss) + (n.ws.length + tot n.ws)
def totNs (ns : List Nd) : Nat := (ns.map totN).sum
theorem totNs_step {ns : List Nd} {k : Nat} {n : Nd} (h : ns[k]? = some n) : totNs (ns.take (k + 1)) = totNs (ns.take k) + totN n := by
  unfold totNs
  rw [List.take_add_one, h]
  simp
theorem totNs_all (ns : List Nd) : totNs (ns.take ns.length) = totNs ns := by rw [List.take_length]
theorem totNs_le (ns : List Nd) (k : Nat) : totNs (ns.take k) ≤ totNs ns := by
  have h : ns = ns.take k ++ ns.drop k := (List.take_append_drop k ns).symm
  have e : totNs ns = totNs (ns.take k) + totNs (ns.drop k) := by
    unfold totNs
    rw [← List.sum_append, ← List.map_append, ← h]
  omega
theorem totNs_mem {ns : List Nd} {n : Nd} (h : n ∈ ns) : totN n ≤ totNs ns := by
  obtain ⟨k, hk⟩ := List.getElem?_of_mem h
  have h1 := totNs_step hk
  have h2 := totNs_le ns (k + 1)
  omega
/-- Sizes that a machine has. -/
def BigV (vs : List V) : Prop := vs.length ≤ 9223372036854775807 ∧ ∀ v ∈ vs, v.ts.length ≤ 9223372036854775807 ∧ v.s.size ≤ 9223372036854775807
def BigN (ns : List Nd) : Prop := ∀ n ∈ ns, BigV n.ss ∧ BigV n.ws
set_option maxHeartbeats 1000000 in
theorem szNode_fits (n : Nd) (left : Int) (w : World) (h0 : left ≤ 1048576) (hf : (totN n : Int) ≤ left) (hv : Vg w w.heap.size n.sa n.ss) (hw : Vg w w.heap.size n.wa n.ws) :
    Calls Tryz.prog 90 #[.agg #[.slice n.sa n.ss.length n.sc, .slice n.wa n.ws.length n.wc], .int .i64 left] w fun e w' => e = .returned (.int .i64 (left - totN n)) ∧ Below w.heap.size w w' := by
  have HE : Hid ((totN n : Int) = (n.ss.length + tot n.ss) + (n.ws.length + tot n.ws)) := by unfold Hid totN; omega
  obtain ⟨sa, sc, ss, wa, wc, ws⟩ := n
  simp only at HE hv hw ⊢
  have S0 := (Inv.start w).box 130 #[.slice sa ss.length sc, .slice wa ws.length wc]
  simp only [World.size_alloc] at S0
  have q0 := (S0.nth 0 rfl).two.1
  have h1 : ¬ (left - (ss.length : Int) - (tot ss : Int) < 0) := by have := HE.out; omega
  have h2 : ¬ (left - (ss.length : Int) - (tot ss : Int) - (ws.length : Int) - (tot ws : Int) < 0) := by have := HE.out; omega
  have HW := hide hw
  clear hw
  go_enter Tryz.func90, Tryz.ntmps90
  go_wp2_with fail
  refine (szStore_fits sa sc ss left _ h0 (by have := HE.out; omega) ((hv.on S0.below).up S0.base)).mono ?_
  rintro e w1 ⟨rfl, hb1⟩
  have S1 := S0.on hb1
  have q1 : w1.cell? ⟨w.heap.size, 1, none⟩ = some (.slice wa ws.length wc) := (S1.nth 0 rfl).at 1
  clear S0 q0
  go_wp2_with fail
  refine (szVerS_fits wa wc ws _ _ (by omega) (by have := HE.out; omega) ((HW.out.on S1.below).up S1.base)).mono ?_
  rintro e w2 ⟨rfl, hb2⟩
  have S2 := S1.on hb2
  clear S1 q1
  go_wp2
  go_ret
  exact ⟨ret_int (by have := HE.out; omega), S2.below⟩
set_option maxHeartbeats 1000000 in
theorem szNode_not (n : Nd) (left : Int) (w : World) (h0 : left ≤ 1048576) (h00 : 0 ≤ left) (hB : BigV n.ss ∧ BigV n.ws) (hf : left < (totN n : Int)) (hv : Vg w w.heap.size n.sa n.ss) (hw : Vg w w.heap.size n.wa n.ws) :
    Calls Tryz.prog 90 #[.agg #[.slice n.sa n.ss.length n.sc, .slice n.wa n.ws.length n.wc], .int .i64 left] w fun e w' => e = .returned (.int .i64 (-1)) ∧ Below w.heap.size w w' := by
  have HE : Hid ((totN n : Int) = (n.ss.length + tot n.ss) + (n.ws.length + tot n.ws)) := by unfold Hid totN; omega
  obtain ⟨sa, sc, ss, wa, wc, ws⟩ := n
  simp only at HE hv hw hB ⊢
  have S0 := (Inv.start w).box 130 #[.slice sa ss.length sc, .slice wa ws.length wc]
  simp only [World.size_alloc] at S0
  have q0 := (S0.nth 0 rfl).two.1
  have HW := hide hw
  have HB := hide hB
  clear hw hB
  by_cases hfit : (ss.length : Int) + tot ss ≤ left
  · have h1 : ¬ (left - (ss.length : Int) - (tot ss : Int) < 0) := by omega
    go_enter Tryz.func90, Tryz.ntmps90
    go_wp2_with fail
    refine (szStore_fits sa sc ss left _ h0 hfit ((hv.on S0.below).up S0.base)).mono ?_
    rintro e w1 ⟨rfl, hb1⟩
    have S1 := S0.on hb1
    have q1 : w1.cell? ⟨w.heap.size, 1, none⟩ = some (.slice wa ws.length wc) := (S1.nth 0 rfl).at 1
    clear S0 q0
    go_wp2_with fail
    refine (szVerS_not wa wc ws _ _ (by omega) (by omega) HB.out.2.1 HB.out.2.2 (by have := HE.out; omega) ((HW.out.on S1.below).up S1.base)).mono ?_
    rintro e w2 ⟨rfl, hb2⟩
    have S2 := S1.on hb2
    clear S1 q1
    go_wp2
    go_ret
    exact ⟨rfl, S2.below⟩
  · go_enter Tryz.func90, Tryz.ntmps90
    go_wp2_with fail
    refine (szStore_not sa sc ss left _ h0 h00 HB.out.1.1 HB.out.1.2 (by omega) ((hv.on S0.below).up S0.base)).mono ?_
    rintro e w1 ⟨rfl, hb1⟩
    have S1 := S0.on hb1
    clear S0 q0
    go_wp2
    go_ret
    exact ⟨rfl, S1.below⟩
set_option maxRecDepth 100000 in
set_option maxHeartbeats 2000000 in
theorem szNodeS_fits (a : Option Addr) (c : Nat) (ns : List Nd) (left : Int) (w : World) (h0 : left ≤ 1048576) (hf : (ns.length : Int) + totNs ns ≤ left) (hv : Ng w w.heap.size a ns) :
    Calls Tryz.prog 51 #[.slice a ns.length c, .int .i64 left] w fun e w' => e = .returned (.int .i64 (left - ns.length - totNs ns)) ∧ Below w.heap.size w w' := by
  have HF := hide hf
  have HT : Hid (totNs (ns.take ns.length) = totNs ns) := totNs_all ns
  generalize hnn : ns.length = n at *
  have HN := hide hnn
  have h1 : ¬ (left - (n : Int) < 0) := by omega
  have h2 : 0 ≤ left := by omega
  have h3 : (n : Int) ≤ left := by omega
  clear hnn hf
  go_enter Tryz.func51, Tryz.ntmps51
  go_wp2
  go_loopw [1, 5] (fun r i wr => ∃ (k : Nat) (m : Int), k ≤ n ∧ i = .int .i64 (k : Int) ∧ r = .int .i64 m ∧ Hid (m = left - n - totNs (ns.take k)) ∧ Below w.heap.size w wr) (fun _ i _ => n - (intOf i).toNat)
  case atStart => exact ⟨0, _, Nat.zero_le _, rfl, rfl, by unfold Hid totNs; simp, Below.refl _ _⟩
  case round =>
    obtain ⟨k, m, hk, rfl, rfl, hm, hL⟩ := hrel
    by_cases hlt : k < n
    · rcases hv with e0 | ⟨b, off, rfl, hb, hx⟩
      · have := HN.out; subst e0; simp at this; omega
      · have hkl : k < ns.length := by have := HN.out; omega
        obtain ⟨⟨n0, n1⟩, hV, hW⟩ := hx k _ (List.getElem?_eq_getElem hkl)
        have HX := hide (List.getElem?_eq_getElem hkl)
        generalize ns[k] = nd at n0 n1 hV hW HX
        have q0 := (hL.cell (p := ⟨b, off + k * 2, none⟩) hb).trans n0
        have q1 := (hL.cell (p := ⟨b, off + k * 2 + 1, none⟩) hb).trans n1
        have HV := hide ((hV.on hL).up hL.size)
        have HW := hide ((hW.on hL).up hL.size)
        have st := totNs_step HX.out
        have le := totNs_le ns (k + 1)
        have H1 : Hid ((totN nd : Int) ≤ m ∧ m ≤ 1048576) := by
          have := hm.out; have := HF.out; unfold Hid; omega
        have H2 : Hid (m - totN nd = left - n - totNs (ns.take (k + 1))) := by
          have := hm.out; unfold Hid; omega
        have h5 : ¬ (m - (totN nd : Int) < 0) := by have := H1.out; omega
        clear st le n0 n1 hV hW hx
        have i1 : (0 : Int) ≤ (k : Int) := by omega
        have i2 : (k : Int) < (n : Int) := by omega
        go_wp2_with fail
        refine (szNode_fits nd m _ H1.out.2 H1.out.1 HV.out HW.out).mono ?_
        rintro e w1 ⟨rfl, hb1⟩
        have hL1 := hL.trans (hb1.mono hL.size)
        generalize (totN nd : Int) = tn at H1 H2 h5 ⊢
        go_wp2
        exact ⟨⟨k + 1, _, by omega, by go_num, rfl, H2, hL1⟩, by simp [intOf]; omega⟩
    · have hkn : k = n := by omega
      subst hkn
      clear hlt
      go_wp2
      go_ret
      exact ⟨ret_int (by rw [hm.out, HT.out]), hL⟩
set_option maxRecDepth 100000 in
set_option maxHeartbeats 2000000 in
theorem szNodeS_not (a : Option Addr) (c : Nat) (ns : List Nd) (left : Int) (w : World) (h0 : left ≤ 1048576) (h00 : 0 ≤ left) (hl : ns.length ≤ 9223372036854775807) (hB : BigN ns) (hf : left < (ns.length : Int) + totNs ns) (hv : Ng w w.heap.size a ns) :
    Calls Tryz.prog 51 #[.slice a ns.length c, .int .i64 left] w fun e w' => e = .returned (.int .i64 (-1)) ∧ Below w.heap.size w w' := by
  have HF := hide hf
  have HM := hide hB
  clear hB
  have HT : Hid (totNs (ns.take ns.length) = totNs ns) := totNs_all ns
  generalize hnn : ns.length = n at *
  have HN := hide hnn
  clear hnn hf
  by_cases h1 : left - (n : Int) < 0
  · go_enter Tryz.func51, Tryz.ntmps51
    go_wp2
    go_ret
    exact ⟨rfl, Below.refl _ _⟩
  · have h3 : (n : Int) ≤ left := by omega
    go_enter Tryz.func51, Tryz.ntmps51
    go_wp2
    go_loopw [1, 5] (fun r i wr => ∃ (k : Nat) (m : Int), k ≤ n ∧ i = .int .i64 (k : Int) ∧ r = .int .i64 m ∧ Hid (m = left - n - totNs (ns.take k) ∧ 0 ≤ m) ∧ Below w.heap.size w wr) (fun _ i _ => n - (intOf i).toNat)
    case atStart => exact ⟨0, _, Nat.zero_le _, rfl, rfl, by unfold Hid totNs; simp; omega, Below.refl _ _⟩
    case round =>
      obtain ⟨k, m, hk, rfl, rfl, hm, hL⟩ := hrel
      by_cases hlt : k < n
      · rcases hv with e0 | ⟨b, off, rfl, hb, hx⟩
        · have := HN.out; subst e0; simp at this; omega
        · have hkl : k < ns.length := by have := HN.out; omega
          obtain ⟨⟨n0, n1⟩, hV, hW⟩ := hx k _ (List.getElem?_eq_getElem hkl)
          have HX := hide (List.getElem?_eq_getElem hkl)
          generalize ns[k] = nd at n0 n1 hV hW HX
          have q0 := (hL.cell (p := ⟨b, off + k * 2, none⟩) hb).trans n0
          have q1 := (hL.cell (p := ⟨b, off + k * 2 + 1, none⟩) hb).trans n1
          have HV := hide ((hV.on hL).up hL.size)
          have HW := hide ((hW.on hL).up hL.size)
          have HB := hide (HM.out nd (List.mem_of_getElem? HX.out))
          have st := totNs_step HX.out
          have H2 : Hid (m - totN nd = left - n - totNs (ns.take (k + 1))) := by
            have := hm.out; unfold Hid; omega
          clear st n0 n1 hV hW hx
          have i1 : (0 : Int) ≤ (k : Int) := by omega
          have i2 : (k : Int) < (n : Int) := by omega
          have H3 : Hid (m ≤ 1048576) := by have := hm.out; unfold Hid; omega
          by_cases hfit : (totN nd : Int) ≤ m
          · have h5 : ¬ (m - (totN nd : Int) < 0) := by omega
            have H4 := hide hfit
            clear hfit
            go_wp2_with fail
            refine (szNode_fits nd m _ H3.out H4.out HV.out HW.out).mono ?_
            rintro e w1 ⟨rfl, hb1⟩
            have hL1 := hL.trans (hb1.mono hL.size)
            generalize (totN nd : Int) = tn at H2 H4 h5 ⊢
            go_wp2
            exact ⟨⟨k + 1, _, by omega, by go_num, rfl, ⟨H2.out, by have := H4.out; omega⟩, hL1⟩, by simp [intOf]; omega⟩
          · have H4 := hide hfit
            clear hfit
            go_wp2_with fail
            refine (szNode_not nd m _ H3.out hm.out.2 HB.out (by have := H4.out; omega) HV.out HW.out).mono ?_
            rintro e w1 ⟨rfl, hb1⟩
            have hL1 := hL.trans (hb1.mono hL.size)
            go_wp2
            go_ret
            exact ⟨rfl, hL1⟩
      · have hkn : k = n := by omega
        exfalso
        have := hm.out
        have := HT.out
        have := HF.out
        subst hkn
        omega
set_option maxHeartbeats 1000000 in
theorem szChain_fits (a : Option Addr) (c : Nat) (ns : List Nd) (left : Int) (w : World) (h0 : left ≤ 1048576) (hf : (ns.length : Int) + totNs ns ≤ left) (hv : Ng w w.heap.size a ns) :
    Calls Tryz.prog 17 #[.agg #[.slice a ns.length c], .int .i64 left] w fun e w' => e = .returned (.int .i64 (left - ns.length - totNs ns)) ∧ Below w.heap.size w w' := by
  have h1 : ¬ (left - (ns.length : Int) - (totNs ns : Int) < 0) := by omega
  have S0 := (Inv.start w).box 24 #[.slice a ns.length c]
  go_enter Tryz.func17, Tryz.ntmps17
  go_wp2_with fail
  refine (szNodeS_fits a c ns left _ h0 hf ((hv.on S0.below).up S0.base)).mono ?_
  rintro e w1 ⟨rfl, hb1⟩
  have S1 := S0.on hb1
  clear S0
  go_wp2
  go_ret
  exact ⟨rfl, S1.below⟩
set_option maxHeartbeats 1000000 in
theorem szChain_not (a : Option Addr) (c : Nat) (ns : List Nd) (left : Int) (w : World) (h0 : left ≤ 1048576) (h00 : 0 ≤ left) (hl : ns.length ≤ 9223372036854775807) (hB : BigN ns) (hf : left < (ns.length : Int) + totNs ns) (hv : Ng w w.heap.size a ns) :
    Calls Tryz.prog 17 #[.agg #[.slice a ns.length c], .int .i64 left] w fun e w' => e = .returned (.int .i64 (-1)) ∧ Below w.heap.size w w' := by
  have S0 := (Inv.start w).box 24 #[.slice a ns.length c]
  have HM := hide hB
  clear hB
  go_enter Tryz.func17, Tryz.ntmps17
  go_wp2_with fail
  refine (szNodeS_not a c ns left _ h0 h00 hl HM.out hf ((hv.on S0.below).up S0.base)).mono ?_
  rintro e w1 ⟨rfl, hb1⟩
  have S1 := S0.on hb1
  clear S0
  go_wp2
  go_ret
  exact ⟨rfl, S1.below⟩
end Go.Proofs.YtnaggcdhimcilaaGreat
/- Copies of chains in memory of their own. Condition: as many versions and tags as a law lets by. -/
namespace Go.Proofs.YtnaggcdhimcilaaGreat
open Go.RowKit Go.Joins
attribute [local go_sem ↓] Go.wp_at_zero Go.wp_at_succ

theorem ResS.wide {w : World} {B U U' : Nat} {A : Option Addr} {us : List V} (h : ResS w B U A us) (hu : U ≤ U') : ResS w B U' A us := by
  rcases h with h | ⟨G, cur, h1, h2⟩
  · exact .inl h
  · exact .inr ⟨G, cur, h1, h2.wide hu⟩
theorem ResS.low {w : World} {B B' U : Nat} {A : Option Addr} {us : List V} (h : ResS w B U A us) (hb : B' ≤ B) : ResS w B' U A us := by
  rcases h with h | ⟨G, cur, h1, h2⟩
  · exact .inl h
  · exact .inr ⟨G, cur, h1, h2.low hb⟩
theorem ResS.foot {w : World} {B U : Nat} {A : Option Addr} {us : List V} (h : ResS w B U A us) {g : Nat} (hf : FootS A us g) : B ≤ g ∧ g < U := by
  obtain ⟨_, _, _, _, h1⟩ := h.typed hf
  exact h1
theorem snoc_get {α : Type} {us : List α} {n : α} {k : Nat} (hk : us.length = k) (i : Nat) (x : α) (hx : (us ++ [n])[i]? = some x) : (i = k ∧ x = n) ∨ (i < k ∧ us[i]? = some x) := by
  by_cases e : i < us.length
  · rw [List.getElem?_append_left e] at hx
    exact .inr ⟨by omega, hx⟩
  · rw [List.getElem?_append_right (by omega)] at hx
    have h0 : i - us.length = 0 := by
      have := (List.getElem?_eq_some_iff.1 hx).1
      simp at this
      omega
    rw [h0] at hx
    simp at hx
    exact .inl ⟨by omega, hx.symm⟩
abbrev put2 (cur : Array Value) (k : Nat) (n : Nd) : Array Value := (cur.setIfInBounds (k * 2) (.slice n.sa n.ss.length n.sc)).setIfInBounds (k * 2 + 1) (.slice n.wa n.ws.length n.wc)
theorem ndAt_put {cur : Array Value} {k : Nat} {n : Nd} (h : k * 2 + 1 < cur.size) : NdAt (put2 cur k n) k n := by
  refine ⟨?_, ?_⟩ <;> simp [put2, Array.getElem?_setIfInBounds] <;> omega
theorem ndAt_other {cur : Array Value} {j k : Nat} {n n' : Nd} (hj : j ≠ k) (h : NdAt cur j n) : NdAt (put2 cur k n') j n := by
  obtain ⟨h0, h1⟩ := h
  refine ⟨?_, ?_⟩
  all_goals
    unfold put2
    rw [Array.getElem?_setIfInBounds_ne (by omega), Array.getElem?_setIfInBounds_ne (by omega)]
    assumption
/-- A row of nodes grows by one, whose memory is new. -/
theorem nrow_step {w : World} {B U U' G k : Nat} {us : List Nd} {cur : Array Value} {n : Nd} (h : NRow w B U G us cur) (hU : U ≤ U') (hBU : B ≤ U) (hk : us.length = k) (hs : ResS w U U' n.sa n.ss) (hw : ResS w U U' n.wa n.ws) (h2 : ∀ g, FootS n.sa n.ss g → ¬ FootS n.wa n.ws g) (hsz : k * 2 + 1 < cur.size) :
    NRow ((w.setCell ⟨G, k * 2, none⟩ (.slice n.sa n.ss.length n.sc)).setCell ⟨G, k * 2 + 1, none⟩ (.slice n.wa n.ws.length n.wc)) B U' G (us ++ [n]) (put2 cur k n) := by
  have ht : Turn (fun g => g = G) w ((w.setCell ⟨G, k * 2, none⟩ (.slice n.sa n.ss.length n.sc)).setCell ⟨G, k * 2 + 1, none⟩ (.slice n.wa n.ws.length n.wc)) :=
    ((Turn.refl (fun g => g = G) w).set (p := ⟨G, k * 2, none⟩) rfl _).set (p := ⟨G, k * 2 + 1, none⟩) rfl _
  have hnew : ∀ g, FootN n g → U ≤ g ∧ g < U' := fun g hf => by
    rcases hf with hf | hf
    · exact hs.foot hf
    · exact hw.foot hf
  have hhi := h.hi
  refine ⟨(h.blk.put _ _).put _ _, h.lo, by omega, by simp only [List.length_append, List.length_singleton, Array.size_setIfInBounds]; omega, fun i x hx => ?_, fun i x hx => ?_, fun i x hx => ?_, fun i x hx => ?_, fun i j x y hne hx hy => ?_⟩
  · rcases snoc_get hk i x hx with ⟨rfl, rfl⟩ | ⟨e, hx⟩
    · exact ndAt_put hsz
    · exact ndAt_other (by omega) (h.at' i x hx)
  · rcases snoc_get hk i x hx with ⟨rfl, rfl⟩ | ⟨e, hx⟩
    · exact (hs.turnF ht (fun g hf e => by have := hnew g (.inl hf); omega)).low hBU
    · exact ((h.store i x hx).turnF ht (fun g hf e => h.notG hx (e ▸ .inl hf))).wide hU
  · rcases snoc_get hk i x hx with ⟨rfl, rfl⟩ | ⟨e, hx⟩
    · exact (hw.turnF ht (fun g hf e => by have := hnew g (.inr hf); omega)).low hBU
    · exact ((h.wait i x hx).turnF ht (fun g hf e => h.notG hx (e ▸ .inr hf))).wide hU
  · rcases snoc_get hk i x hx with ⟨rfl, rfl⟩ | ⟨e, hx⟩
    · exact h2
    · exact h.two i x hx
  · rcases snoc_get hk i x hx with ⟨e1, e2⟩ | ⟨e, hq⟩ <;> rcases snoc_get hk j y hy with ⟨e3, e4⟩ | ⟨e', hq'⟩
    · omega
    · rw [e2]; exact fun g hf hf' => by have := hnew g hf; have := h.range hq' hf'; omega
    · rw [e4]; exact fun g hf hf' => by have := hnew g hf'; have := h.range hq hf; omega
    · exact h.apart i j x y hne hq hq'
/-- What toNode leaves: a copy in memory of its own. -/
def CopiedN (w : World) (n : Nd) (e : Ending) (w' : World) : Prop :=
  ∃ (g h M : Nat) (us vs : List V) (cu cv : Array Value), e = .returned (.agg #[.slice (some ⟨g, 0, none⟩) n.ss.length n.ss.length, .slice (some ⟨h, 0, none⟩) n.ws.length n.ws.length]) ∧ LL us n.ss ∧ LL vs n.ws ∧ ORow w' w.heap.size M g us cu ∧ ORow w' M w'.heap.size h vs cv ∧ w.heap.size ≤ M ∧ M ≤ w'.heap.size ∧ Below w.heap.size w w'
set_option maxRecDepth 100000 in
set_option maxHeartbeats 2000000 in
theorem toNode_own (n : Nd) (w : World) (hn : n.ss.length ≤ 1048576 ∧ n.ws.length ≤ 1048576) (hm : Small n.ss) (hm' : Small n.ws) (hv : Vg w w.heap.size n.sa n.ss) (hw : Vg w w.heap.size n.wa n.ws) :
    Calls Tryz.prog 99 #[.agg #[.slice n.sa n.ss.length n.sc, .slice n.wa n.ws.length n.wc]] w (CopiedN w n) := by
  obtain ⟨sa, sc, ss, wa, wc, ws⟩ := n
  simp only at hn hm hm' hv hw ⊢
  have S0 := (((Inv.start w).box 130 #[.slice sa ss.length sc, .slice wa ws.length wc]).box 90 #[.slice none 0 0, .slice none 0 0]).box 90 #[.slice none 0 0, .slice none 0 0]
  simp only [World.size_alloc] at S0
  have q0 := (S0.nth 2 rfl).two.1
  have HM : Hid (∀ v ∈ ss, v.ts.length ≤ 1048576) := fun v hv => (hm v hv).1
  have HM' : Hid (∀ v ∈ ws, v.ts.length ≤ 1048576) := fun v hv => (hm' v hv).1
  have HW := hide hw
  have HV := hide hv
  clear hm hm' hv hw
  go_enter Tryz.func99, Tryz.ntmps99
  go_wp2_with fail
  generalize (((w.alloc (.cells #[.slice sa ss.length sc, .slice wa ws.length wc] 130)).alloc (.cells #[.slice none 0 0, .slice none 0 0] 90)).alloc (.cells #[.slice none 0 0, .slice none 0 0] 90)) = W at S0 ⊢
  with_reducible refine (toStore_own sa sc ss W hn.1 HM.out ((HV.out.on S0.below).up S0.base)).mono ?_
  rintro e w1 ⟨g, us, cu, rfl, hul, hli, hO, hb1⟩
  have S1 := S0.on hb1
  have zr := S0.room
  have zr1 := S1.room
  have zw1 := hb1.size
  have HLU : Hid (LL us ss) := ⟨hul, hli⟩
  have q2 := (S1.nth 0 rfl).two
  have q1 : w1.cell? ⟨w.heap.size, 1, none⟩ = some (.slice wa ws.length wc) := (S1.nth 2 rfl).at 1
  have I2 := S1.put0 (i := 0) (by intro x hx; simp only [List.mem_cons, List.not_mem_nil, or_false] at hx; rcases hx with rfl | rfl <;> simp only <;> omega) (.slice (some ⟨g, 0, none⟩) ss.length ss.length)
  simp only [List.setIfInBounds_toArray, List.set_cons_zero] at I2
  have HO := hide (hO.turned (P := fun g => g = w.heap.size + 1 + 1) ((Turn.refl (fun g => g = w.heap.size + 1 + 1) w1).set (p := ⟨w.heap.size + 1 + 1, 0, none⟩) rfl (.slice (some ⟨g, 0, none⟩) ss.length ss.length)) (fun g h1 h2 e => by omega))
  have q3 : (w1.setCell ⟨w.heap.size + 1 + 1, 0, none⟩ (.slice (some ⟨g, 0, none⟩) ss.length ss.length)).cell? ⟨w.heap.size, 1, none⟩ = some (.slice wa ws.length wc) := (I2.nth 2 rfl).at 1
  have hsz : (w1.setCell ⟨w.heap.size + 1 + 1, 0, none⟩ (.slice (some ⟨g, 0, none⟩) ss.length ss.length)).heap.size = w1.heap.size := by simp [World.setCell]
  have HSZ := hide hsz
  clear hul hli hO S1 S0 q0 hsz
  go_wp2_with fail
  generalize w1.setCell ⟨w.heap.size + 1 + 1, 0, none⟩ (.slice (some ⟨g, 0, none⟩) ss.length ss.length) = W1 at I2 HO q3 HSZ ⊢
  with_reducible refine (toVerS_own wa wc ws W1 hn.2 HM'.out ((HW.out.on I2.below).up I2.base)).mono ?_
  rintro e w2 ⟨h, vs, cv, rfl, hvl, hlv, hO2, hb2⟩
  have I3 := I2.on hb2
  have zw2 : w1.heap.size ≤ w2.heap.size := by have := hb2.size; have := HSZ.out; omega
  have HLV : Hid (LL vs ws) := ⟨hvl, hlv⟩
  have HO1 := hide (HO.out.on hb2)
  have HO2 := hide hO2
  have B3 := (I3.nth 0 rfl)
  have B2 := (I3.nth 1 rfl)
  have k3 := B3.two
  have k2 := B2.two
  have hz1 : W1.heap.size = w1.heap.size := HSZ.out
  have glo := HO.out.lo
  have hhl : w1.heap.size ≤ h := by have := hO2.lo; omega
  have HBL := hide I3.below
  clear q2 q3 hvl hlv hO2 I2 q1
  go_wp2
  refine bodyPost_ret (v := .agg #[.slice (some ⟨g, 0, none⟩) ss.length ss.length, .slice (some ⟨h, 0, none⟩) ws.length ws.length]) (by simp [results, Tryz.results99, go_sem, k2]) rfl ?_
  have T3 : Turn (fun g => g = w.heap.size + 1 + 1 ∨ g = w.heap.size + 1) w2 (((w2.setCell ⟨w.heap.size + 1 + 1, 1, none⟩ (.slice (some ⟨h, 0, none⟩) ws.length ws.length)).setCell ⟨w.heap.size + 1, 0, none⟩ (.slice (some ⟨g, 0, none⟩) ss.length ss.length)).setCell ⟨w.heap.size + 1, 1, none⟩ (.slice (some ⟨h, 0, none⟩) ws.length ws.length)) :=
    (((Turn.refl _ w2).set (p := ⟨w.heap.size + 1 + 1, 1, none⟩) (.inl rfl) _).set (p := ⟨w.heap.size + 1, 0, none⟩) (.inr rfl) _).set (p := ⟨w.heap.size + 1, 1, none⟩) (.inr rfl) _
  have Z3 : (((w2.setCell ⟨w.heap.size + 1 + 1, 1, none⟩ (.slice (some ⟨h, 0, none⟩) ws.length ws.length)).setCell ⟨w.heap.size + 1, 0, none⟩ (.slice (some ⟨g, 0, none⟩) ss.length ss.length)).setCell ⟨w.heap.size + 1, 1, none⟩ (.slice (some ⟨h, 0, none⟩) ws.length ws.length)).heap.size = w2.heap.size := by simp [World.setCell]
  refine ⟨g, h, w1.heap.size, us, vs, cu, cv, rfl, HLU.out, HLV.out, (HO1.out.turned T3 (fun g h1 h2 e => by omega)).low (by omega), ?_, by omega, by rw [Z3]; omega, ((HBL.out.setCell (by simp; omega) _).setCell (by simp) _).setCell (by simp) _⟩
  rw [Z3, ← hz1]
  exact HO2.out.turned T3 (fun g h1 h2 e => by omega)
/-- What toNodeS leaves: a copy in memory of its own. -/
def CopiedNO (w : World) (ns : List Nd) (e : Ending) (w' : World) : Prop :=
  ∃ (g : Nat) (us : List Nd) (cur : Array Value), e = .returned (.slice (some ⟨g, 0, none⟩) ns.length ns.length) ∧ NL us ns ∧ NRow w' w.heap.size w'.heap.size g us cur ∧ Below w.heap.size w w'
set_option maxRecDepth 100000 in
set_option maxHeartbeats 2000000 in
theorem toNodeS_own (a : Option Addr) (c : Nat) (ns : List Nd) (w : World) (hn : ns.length ≤ 1048576) (hm : SmN ns) (hv : Ng w w.heap.size a ns) :
    Calls Tryz.prog 62 #[.slice a ns.length c] w (CopiedNO w ns) := by
  obtain ⟨i0, hi0, hz0, hz1, hz2⟩ := info_parts node_info
  have hmk : ∀ W : World, (Instr.makeSlice 30 (.int .i64 (ns.length : Int)) (.int .i64 (ns.length : Int))).run Tryz.prog W = .ok (.slice (some ⟨W.heap.size, 0, none⟩) ns.length ns.length) (W.alloc (.cells (madeCells (Value.agg #[.slice none 0 0, .slice none 0 0]).cells (ns.length * 2)) 90)) := by
    intro W
    have hr := run_make (P := Tryz.prog) W 30 90 i0 _ Tryz.underlying30 hi0 hz0 .i64 .i64 (ns.length : Int) (ns.length : Int) (by omega) (by omega) (by rw [hz2]; omega) (by omega)
    rw [hz1] at hr
    simpa using hr
  have HM := hide hm
  clear hm
  generalize hn' : ns.length = n at *
  have HN := hide hn'
  clear hn'
  go_enter Tryz.func62, Tryz.ntmps62
  go_wp2
  clear hmk hi0 hz0 hz1 hz2
  have B0 := Blk.made w 90 (madeCells #[.slice none 0 0, .slice none 0 0] (n * 2))
  have L0 := below_alloc1 w (.cells (madeCells #[.slice none 0 0, .slice none 0 0] (n * 2)) 90)
  go_loopw [4] (fun i wr => ∃ (k : Nat) (cur : Array Value) (us : List Nd), k ≤ n ∧ i = .int .i64 (k : Int) ∧ Hid (us.length = k) ∧ NRow wr w.heap.size wr.heap.size w.heap.size us cur ∧ cur.size = n * 2 ∧ Hid (∀ (i : Nat) v v', us[i]? = some v → ns[i]? = some v' → Nd.like v v') ∧ Below w.heap.size w wr) (fun i _ => n - (intOf i).toNat)
  case atStart => exact ⟨0, _, [], Nat.zero_le _, rfl, rfl, ⟨B0, Nat.le_refl _, by simp, by simp, fun i v hi => by simp at hi, fun i v hi => by simp at hi, fun i v hi => by simp at hi, fun i v hi => by simp at hi, fun i j v v' _ hi => by simp at hi⟩, size_madeCells _ _, fun i v v' hi => by simp at hi, L0⟩
  case round =>
    obtain ⟨k, cur, us, hk, rfl, hus, hR, hsz, hli, hL⟩ := hrel
    by_cases hlt : k < n
    · rcases hv with h0 | ⟨b, off, rfl, hb, hx⟩
      · have := HN.out; subst h0; simp at this; omega
      · have hkl : k < ns.length := by have := HN.out; omega
        obtain ⟨⟨n0, n1⟩, hV, hW⟩ := hx k _ (List.getElem?_eq_getElem hkl)
        have HX := hide (List.getElem?_eq_getElem hkl)
        generalize ns[k] = nd at n0 n1 hV hW HX
        have HB := hide (HM.out k nd HX.out)
        have q0 := (hL.cell (p := ⟨b, off + k * 2, none⟩) hb).trans n0
        have q1 := (hL.cell (p := ⟨b, off + k * 2 + 1, none⟩) hb).trans n1
        have HV := hide ((hV.on hL).up hL.size)
        have HW := hide ((hW.on hL).up hL.size)
        clear n0 n1 hV hW hx
        have i1 : (0 : Int) ≤ (k : Int) := by omega
        have i2 : (k : Int) < (n : Int) := by omega
        go_wp2_with fail
        with_reducible refine (toNode_own nd wr HB.out.1 HB.out.2.1 HB.out.2.2 HV.out HW.out).mono ?_
        rintro e w1 ⟨g, h, M, u1, u2, cu, cv, rfl, hl1, hl2, hO1, hO2, hM1, hM2, hb1⟩
        have hG : w.heap.size < wr.heap.size := hR.blk.inside
        have zw1 := hb1.size
        have e1 : nd.ss.length = u1.length := hl1.1.symm
        have e2 : nd.ws.length = u2.length := hl2.1.symm
        rw [e1, e2]
        have r1 : ResS w1 wr.heap.size M (some ⟨g, 0, none⟩) u1 := .inr ⟨g, cu, rfl, hO1⟩
        have r2 : ResS w1 M w1.heap.size (some ⟨h, 0, none⟩) u2 := .inr ⟨h, cv, rfl, hO2⟩
        have HR := hide (nrow_step (n := ⟨some ⟨g, 0, none⟩, u1.length, u1, some ⟨h, 0, none⟩, u2.length, u2⟩) (hR.on hb1) zw1 (by omega) hus.out (r1.wide hM2) (r2.low hM1) (fun g h1 h2 => by
          have := r1.foot h1; have := r2.foot h2; omega) (show k * 2 + 1 < cur.size by omega))
        have HL : Hid (∀ (i : Nat) v v', (us ++ [(⟨some ⟨g, 0, none⟩, u1.length, u1, some ⟨h, 0, none⟩, u2.length, u2⟩ : Nd)])[i]? = some v → ns[i]? = some v' → Nd.like v v') := fun i v v' hi hi' => by
          rcases snoc_get hus.out i v hi with ⟨rfl, rfl⟩ | ⟨_, hq⟩
          · have := HX.out
            rw [this] at hi'
            injection hi' with hi'
            subst hi'
            exact ⟨hl1.1, hl1.2, hl2.1, hl2.2⟩
          · exact hli.out i v v' hq hi'
        have B1 := hR.blk.on hb1
        have hs0 : k * 2 < cur.size := by omega
        have hs1 : k * 2 + 1 < cur.size := by omega
        have d0 : w1.cell? ⟨w.heap.size, k * 2, none⟩ = some cur[k * 2] := by rw [B1.at]; exact Array.getElem?_eq_getElem hs0
        have d1 : w1.cell? ⟨w.heap.size, k * 2 + 1, none⟩ = some cur[k * 2 + 1] := by rw [B1.at]; exact Array.getElem?_eq_getElem hs1
        have f0 := B1.loose (k * 2)
        have f1 := B1.loose (k * 2 + 1)
        have hL1 := hL.trans (hb1.mono hL.size)
        have HU : Hid ((us ++ [(⟨some ⟨g, 0, none⟩, u1.length, u1, some ⟨h, 0, none⟩, u2.length, u2⟩ : Nd)]).length = k + 1) := by
          unfold Hid
          rw [List.length_append, hus.out]
          rfl
        clear q0 q1 hR hli hus hL B1 hO1 hO2 r1 r2 hl1 hl2 e1 e2
        go_wp2
        exact ⟨⟨k + 1, _, _, by omega, by go_num, HU, by simpa [World.setCell] using HR.out, by simp [hsz], HL, (hL1.setCell (Nat.le_refl _) _).setCell (Nat.le_refl _) _⟩, by simp [intOf]; omega⟩
    · have hkn : k = n := by omega
      subst hkn
      clear hlt
      go_wp2
      go_ret
      have e := HN.out
      exact ⟨_, us, cur, by rw [e]; rfl, ⟨hus.out.trans e.symm, hli.out⟩, hR, hL⟩
/-- What toChain leaves: a copy in memory of its own. -/
def CopiedC (w : World) (ns : List Nd) (e : Ending) (w' : World) : Prop :=
  ∃ (g : Nat) (us : List Nd) (cur : Array Value), e = .returned (.agg #[.slice (some ⟨g, 0, none⟩) ns.length ns.length]) ∧ NL us ns ∧ NRow w' w.heap.size w'.heap.size g us cur ∧ Below w.heap.size w w'
set_option maxRecDepth 100000 in
set_option maxHeartbeats 1000000 in
theorem toChain_own (a : Option Addr) (c : Nat) (ns : List Nd) (w : World) (hn : ns.length ≤ 1048576) (hm : SmN ns) (hv : Ng w w.heap.size a ns) :
    Calls Tryz.prog 25 #[.agg #[.slice a ns.length c]] w (CopiedC w ns) := by
  have S0 := (((Inv.start w).box 24 #[.slice a ns.length c]).box 32 #[.slice none 0 0]).box 32 #[.slice none 0 0]
  simp only [World.size_alloc] at S0
  have T0 := hv.on S0.below
  go_enter Tryz.func25, Tryz.ntmps25
  go_wp2_with fail
  generalize (((w.alloc (.cells #[.slice a ns.length c] 24)).alloc (.cells #[.slice none 0 0] 32)).alloc (.cells #[.slice none 0 0] 32)) = W at S0 T0 ⊢
  refine (toNodeS_own a c ns W hn hm (T0.up S0.base)).mono ?_
  rintro e w1 ⟨g, us, cur, rfl, hli, hR, hb1⟩
  have S1 := S0.on hb1
  have hr := S0.room
  have hl := S1.below
  obtain ⟨k0, f0⟩ := (S1.nth 0 rfl).one
  obtain ⟨k1, f1⟩ := (S1.nth 1 rfl).one
  have hW := S0.base
  have hbs := hb1.size
  have HR := hide hR
  have HL := hide hli
  clear hR hli S0 S1 T0 hv hm
  go_wp2
  refine bodyPost_ret (v := .agg #[.slice (some ⟨g, 0, none⟩) ns.length ns.length]) (by simp [results, Tryz.results25, go_sem, k1]) rfl ?_
  have T3 : Turn (fun g => g < W.heap.size) w1 ((w1.setCell ⟨w.heap.size + 1 + 1, 0, none⟩ (.slice (some ⟨g, 0, none⟩) ns.length ns.length)).setCell ⟨w.heap.size + 1, 0, none⟩ (.slice (some ⟨g, 0, none⟩) ns.length ns.length)) :=
    ((Turn.refl _ w1).set (p := ⟨w.heap.size + 1 + 1, 0, none⟩) (by show w.heap.size + 1 + 1 < W.heap.size; omega) _).set (p := ⟨w.heap.size + 1, 0, none⟩) (by show w.heap.size + 1 < W.heap.size; omega) _
  have R3 := HR.out.turned T3 (by have := HR.out.lo; omega) (fun i n hi g hf => by have := HR.out.range hi hf; omega)
  have Z3 : ((w1.setCell ⟨w.heap.size + 1 + 1, 0, none⟩ (.slice (some ⟨g, 0, none⟩) ns.length ns.length)).setCell ⟨w.heap.size + 1, 0, none⟩ (.slice (some ⟨g, 0, none⟩) ns.length ns.length)).heap.size = w1.heap.size := by simp [World.setCell]
  refine ⟨g, us, cur, rfl, HL.out, ?_, (hl.setCell (by simp; omega) _).setCell (by simp) _⟩
  rw [Z3]
  exact ⟨R3.blk, Nat.le_trans hW R3.lo, R3.hi, R3.size, R3.at', fun i n hi => (R3.store i n hi).low hW, fun i n hi => (R3.wait i n hi).low hW, R3.two, R3.apart⟩
theorem smN_fits {ns : List Nd} (hB : BigN ns) (h : ns.length + totNs ns ≤ 1048576) : SmN ns := fun i n hi => by
  have h1 := totNs_mem (List.mem_of_getElem? hi)
  obtain ⟨b1, b2⟩ := hB n (List.mem_of_getElem? hi)
  unfold totN at h1
  exact ⟨⟨by omega, by omega⟩, fun v hv => ⟨by have := tot_mem hv; omega, (b1.2 v hv).2⟩, fun v hv => ⟨by have := tot_mem hv; omega, (b2.2 v hv).2⟩⟩
theorem smN_small {ns : List Nd} (h : SmN ns) : SmallN ns := fun n hn => by
  obtain ⟨i, hi⟩ := List.getElem?_of_mem hn
  obtain ⟨⟨h1, h2⟩, h3, h4⟩ := h i n hi
  exact ⟨h1, h2, fun v hv => (h3 v hv).1, fun v hv => (h4 v hv).1⟩
end Go.Proofs.YtnaggcdhimcilaaGreat
/- Rows of logs: how they are read, their size; rows of logs in memory of their own: how they are compared, marked, and the marks found again. Condition: what is said of each. -/
namespace Go.Proofs.YtnaggcdhimcilaaGreat
open Go.RowKit Go.Joins
attribute [local go_sem ↓] Go.wp_at_zero Go.wp_at_succ

theorem small_tags {us : List V} (h : Small us) : ∀ v ∈ us, v.ts.length ≤ 1048576 := fun v hv => (h v hv).1
/-- A log as it lies in memory. -/
structure Lg where
  a : Option Addr
  c : Nat
  vs : List V
/-- A slice that reads as these logs, in old memory (below block B). -/
def Lgs (w : World) (B : Nat) (a : Option Addr) (ls : List Lg) : Prop :=
  ls = [] ∨ ∃ b off : Nat, a = some ⟨b, off, none⟩ ∧ b < B ∧ ∀ (i : Nat) l, ls[i]? = some l → w.cell? ⟨b, off + i, none⟩ = some (.slice l.a l.vs.length l.c) ∧ Vg w B l.a l.vs
theorem Lgs.on {w w' : World} {B : Nat} {a : Option Addr} {ls : List Lg} (h : Lgs w B a ls) (hb : Below B w w') : Lgs w' B a ls := by
  rcases h with h | ⟨b, off, ha, hlt, hx⟩
  · exact .inl h
  · exact .inr ⟨b, off, ha, hlt, fun i n hi => ⟨(hb.cell (p := ⟨b, off + i, none⟩) hlt).trans (hx i n hi).1, (hx i n hi).2.on hb⟩⟩
theorem Lgs.up {w : World} {B B' : Nat} {a : Option Addr} {ls : List Lg} (h : Lgs w B a ls) (hB : B ≤ B') : Lgs w B' a ls := by
  rcases h with h | ⟨b, off, ha, hlt, hx⟩
  · exact .inl h
  · exact .inr ⟨b, off, ha, by omega, fun i n hi => ⟨(hx i n hi).1, (hx i n hi).2.up hB⟩⟩
/-- How much these logs weigh beside their number. -/
def totG (l : Lg) : Nat := l.vs.length + tot l.vs
def totL (ls : List Lg) : Nat := (ls.map totG).sum
theorem totL_step {ls : List Lg} {k : Nat} {n : Lg} (h : ls[k]? = some n) : totL (ls.take (k + 1)) = totL (ls.take k) + totG n := by
  unfold totL
  rw [List.take_add_one, h]
  simp
theorem totL_all (ls : List Lg) : totL (ls.take ls.length) = totL ls := by rw [List.take_length]
theorem totL_le (ls : List Lg) (k : Nat) : totL (ls.take k) ≤ totL ls := by
  have h : ls = ls.take k ++ ls.drop k := (List.take_append_drop k ls).symm
  have e : totL ls = totL (ls.take k) + totL (ls.drop k) := by
    unfold totL
    rw [← List.sum_append, ← List.map_append, ← h]
  omega
theorem totL_mem {ls : List Lg} {n : Lg} (h : n ∈ ls) : totG n ≤ totL ls := by
  obtain ⟨k, hk⟩ := List.getElem?_of_mem h
  have h1 := totL_step hk
  have h2 := totL_le ls (k + 1)
  omega
def BigL (ls : List Lg) : Prop := ∀ l ∈ ls, BigV l.vs
set_option maxRecDepth 100000 in
set_option maxHeartbeats 2000000 in
theorem szVerSS_fits (a : Option Addr) (c : Nat) (ls : List Lg) (left : Int) (w : World) (h0 : left ≤ 1048576) (hf : (ls.length : Int) + totL ls ≤ left) (hv : Lgs w w.heap.size a ls) :
    Calls Tryz.prog 19 #[.slice a ls.length c, .int .i64 left] w fun e w' => e = .returned (.int .i64 (left - ls.length - totL ls)) ∧ Below w.heap.size w w' := by
  have HF := hide hf
  have HT : Hid (totL (ls.take ls.length) = totL ls) := totL_all ls
  generalize hnn : ls.length = n at *
  have HN := hide hnn
  have h1 : ¬ (left - (n : Int) < 0) := by omega
  have h2 : 0 ≤ left := by omega
  have h3 : (n : Int) ≤ left := by omega
  clear hnn hf
  go_enter Tryz.func19, Tryz.ntmps19
  go_wp2
  go_loopw [1, 5] (fun r i wr => ∃ (k : Nat) (m : Int), k ≤ n ∧ i = .int .i64 (k : Int) ∧ r = .int .i64 m ∧ Hid (m = left - n - totL (ls.take k)) ∧ Below w.heap.size w wr) (fun _ i _ => n - (intOf i).toNat)
  case atStart => exact ⟨0, _, Nat.zero_le _, rfl, rfl, by unfold Hid totL; simp, Below.refl _ _⟩
  case round =>
    obtain ⟨k, m, hk, rfl, rfl, hm, hL⟩ := hrel
    by_cases hlt : k < n
    · rcases hv with e0 | ⟨b, off, rfl, hb, hx⟩
      · have := HN.out; subst e0; simp at this; omega
      · have hkl : k < ls.length := by have := HN.out; omega
        obtain ⟨n0, hV⟩ := hx k _ (List.getElem?_eq_getElem hkl)
        have HX := hide (List.getElem?_eq_getElem hkl)
        generalize ls[k] = nd at n0 hV HX
        have q0 := (hL.cell (p := ⟨b, off + k, none⟩) hb).trans n0
        have HV := hide ((hV.on hL).up hL.size)
        have st := totL_step HX.out
        have le := totL_le ls (k + 1)
        have ED : Hid ((totG nd : Int) = (nd.vs.length : Int) + tot nd.vs) := by unfold Hid totG; omega
        have H1 : Hid ((totG nd : Int) ≤ m ∧ m ≤ 1048576) := by
          have := hm.out; have := HF.out; unfold Hid; omega
        have H2 : Hid (m - (nd.vs.length : Int) - (tot nd.vs : Int) = left - n - totL (ls.take (k + 1))) := by
          have := hm.out; have := ED.out; unfold Hid; omega
        have h5 : ¬ (m - (nd.vs.length : Int) - (tot nd.vs : Int) < 0) := by have := H1.out; have := ED.out; omega
        clear st le n0 hV hx
        have i1 : (0 : Int) ≤ (k : Int) := by omega
        have i2 : (k : Int) < (n : Int) := by omega
        go_wp2_with fail
        refine (szVerS_fits nd.a nd.c nd.vs m _ H1.out.2 (by have := H1.out; have := ED.out; omega) HV.out).mono ?_
        rintro e w1 ⟨rfl, hb1⟩
        have hL1 := hL.trans (hb1.mono hL.size)
        generalize m - (nd.vs.length : Int) - (tot nd.vs : Int) = tn at H2 h5 ⊢
        go_wp2
        exact ⟨⟨k + 1, _, by omega, by go_num, rfl, H2, hL1⟩, by simp [intOf]; omega⟩
    · have hkn : k = n := by omega
      subst hkn
      clear hlt
      go_wp2
      go_ret
      exact ⟨ret_int (by rw [hm.out, HT.out]), hL⟩
set_option maxRecDepth 100000 in
set_option maxHeartbeats 2000000 in
theorem szVerSS_not (a : Option Addr) (c : Nat) (ls : List Lg) (left : Int) (w : World) (h0 : left ≤ 1048576) (h00 : 0 ≤ left) (hl : ls.length ≤ 9223372036854775807) (hB : BigL ls) (hf : left < (ls.length : Int) + totL ls) (hv : Lgs w w.heap.size a ls) :
    Calls Tryz.prog 19 #[.slice a ls.length c, .int .i64 left] w fun e w' => e = .returned (.int .i64 (-1)) ∧ Below w.heap.size w w' := by
  have HF := hide hf
  have HM := hide hB
  clear hB
  have HT : Hid (totL (ls.take ls.length) = totL ls) := totL_all ls
  generalize hnn : ls.length = n at *
  have HN := hide hnn
  clear hnn hf
  by_cases h1 : left - (n : Int) < 0
  · go_enter Tryz.func19, Tryz.ntmps19
    go_wp2
    go_ret
    exact ⟨rfl, Below.refl _ _⟩
  · have h3 : (n : Int) ≤ left := by omega
    go_enter Tryz.func19, Tryz.ntmps19
    go_wp2
    go_loopw [1, 5] (fun r i wr => ∃ (k : Nat) (m : Int), k ≤ n ∧ i = .int .i64 (k : Int) ∧ r = .int .i64 m ∧ Hid (m = left - n - totL (ls.take k) ∧ 0 ≤ m) ∧ Below w.heap.size w wr) (fun _ i _ => n - (intOf i).toNat)
    case atStart => exact ⟨0, _, Nat.zero_le _, rfl, rfl, by unfold Hid totL; simp; omega, Below.refl _ _⟩
    case round =>
      obtain ⟨k, m, hk, rfl, rfl, hm, hL⟩ := hrel
      by_cases hlt : k < n
      · rcases hv with e0 | ⟨b, off, rfl, hb, hx⟩
        · have := HN.out; subst e0; simp at this; omega
        · have hkl : k < ls.length := by have := HN.out; omega
          obtain ⟨n0, hV⟩ := hx k _ (List.getElem?_eq_getElem hkl)
          have HX := hide (List.getElem?_eq_getElem hkl)
          generalize ls[k] = nd at n0 hV HX
          have q0 := (hL.cell (p := ⟨b, off + k, none⟩) hb).trans n0
          have HV := hide ((hV.on hL).up hL.size)
          have HB := hide (HM.out nd (List.mem_of_getElem? HX.out))
          have st := totL_step HX.out
          have ED : Hid ((totG nd : Int) = (nd.vs.length : Int) + tot nd.vs) := by unfold Hid totG; omega
          have H2 : Hid (m - (nd.vs.length : Int) - (tot nd.vs : Int) = left - n - totL (ls.take (k + 1))) := by
            have := hm.out; have := ED.out; unfold Hid; omega
          clear st n0 hV hx
          have i1 : (0 : Int) ≤ (k : Int) := by omega
          have i2 : (k : Int) < (n : Int) := by omega
          have H3 : Hid (m ≤ 1048576) := by have := hm.out; unfold Hid; omega
          by_cases hfit : (nd.vs.length : Int) + (tot nd.vs : Int) ≤ m
          · have h5 : ¬ (m - (nd.vs.length : Int) - (tot nd.vs : Int) < 0) := by omega
            have H4 := hide hfit
            clear hfit
            go_wp2_with fail
            refine (szVerS_fits nd.a nd.c nd.vs m _ H3.out H4.out HV.out).mono ?_
            rintro e w1 ⟨rfl, hb1⟩
            have hL1 := hL.trans (hb1.mono hL.size)
            have H5 := hide h5
            generalize m - (nd.vs.length : Int) - (tot nd.vs : Int) = tn at H2 H5 h5 ⊢
            go_wp2
            exact ⟨⟨k + 1, _, by omega, by go_num, rfl, ⟨H2.out, by have := H5.out; omega⟩, hL1⟩, by simp [intOf]; omega⟩
          · have H4 := hide hfit
            clear hfit
            go_wp2_with fail
            refine (szVerS_not nd.a nd.c nd.vs m _ H3.out hm.out.2 HB.out.1 HB.out.2 (by have := H4.out; omega) HV.out).mono ?_
            rintro e w1 ⟨rfl, hb1⟩
            have hL1 := hL.trans (hb1.mono hL.size)
            go_wp2
            go_ret
            exact ⟨rfl, hL1⟩
      · have hkn : k = n := by omega
        exfalso
        have := hm.out
        have := HT.out
        have := HF.out
        subst hkn
        omega

/-- A row of logs in a block of its own, the rows of each log in others. -/
structure LgRow (w : World) (B U G : Nat) (ls : List Lg) (cur : Array Value) : Prop where
  blk : Blk w G 33 cur
  lo : B ≤ G
  hi : G < U
  size : ls.length ≤ cur.size
  at' : ∀ (i : Nat) l, ls[i]? = some l → cur[i]? = some (.slice l.a l.vs.length l.c)
  row : ∀ (i : Nat) l, ls[i]? = some l → ResS w B U l.a l.vs
  apart : ∀ (i j : Nat) l l', i ≠ j → ls[i]? = some l → ls[j]? = some l' → ∀ g, FootS l.a l.vs g → ¬ FootS l'.a l'.vs g
theorem vers_ne_ver : (33 : TypeId) ≠ 96 := by decide
theorem vers_ne_tag : (33 : TypeId) ≠ 91 := by decide
theorem ResS.typedV {w : World} {B U : Nat} {A : Option Addr} {us : List V} (h : ResS w B U A us) {g : Nat} (hg : FootS A us g) : ∃ T cs, Blk w g T cs ∧ (T = 96 ∨ T = 91) := by
  obtain ⟨h0, G, rfl, hf⟩ := hg
  rcases h with h | ⟨G', cur, e, hO⟩
  · exact absurd h h0
  · injection e with e
    injection e with e
    subst e
    rcases hf with rfl | ⟨i, v, hi, hn, ha⟩
    · exact ⟨_, _, hO.blk, .inl rfl⟩
    · rcases hO.own i v hi with q | ⟨g', c', e1, q1, q2, q3, _⟩
      · exact absurd q hn
      · rw [e1] at ha
        injection ha with ha
        injection ha with ha
        subst ha
        exact ⟨_, _, q3, .inr rfl⟩
theorem ResS.notV {w : World} {B U G : Nat} {A : Option Addr} {us : List V} {cur : Array Value} (h : ResS w B U A us) (hb : Blk w G 33 cur) : ¬ FootS A us G := fun hf => by
  obtain ⟨T, cs, hb', hT⟩ := h.typedV hf
  have := blk_one hb hb'
  rcases hT with e | e
  · exact vers_ne_ver (this.trans e)
  · exact vers_ne_tag (this.trans e)
theorem LgRow.notG {w : World} {B U G : Nat} {ls : List Lg} {cur : Array Value} (h : LgRow w B U G ls cur) {i : Nat} {l : Lg} (hi : ls[i]? = some l) : ¬ FootS l.a l.vs G := (h.row i l hi).notV h.blk
theorem LgRow.turned {P : Nat → Prop} {w w' : World} {B U G : Nat} {ls : List Lg} {cur : Array Value} (h : LgRow w B U G ls cur) (ht : Turn P w w') (hg : ¬ P G) (hp : ∀ (i : Nat) l, ls[i]? = some l → ∀ g, FootS l.a l.vs g → ¬ P g) : LgRow w' B U G ls cur :=
  ⟨h.blk.turned ht hg, h.lo, h.hi, h.size, h.at', fun i l hi => (h.row i l hi).turnF ht (hp i l hi), h.apart⟩
theorem LgRow.on {w w' : World} {B U G : Nat} {ls : List Lg} {cur : Array Value} (h : LgRow w B U G ls cur) (hb : Below w.heap.size w w') : LgRow w' B U G ls cur := h.turned (P := fun _ => False) (.below hb) (fun h => h) (fun _ _ _ _ _ h => h)
theorem LgRow.wide {w : World} {B B' U U' G : Nat} {ls : List Lg} {cur : Array Value} (h : LgRow w B U G ls cur) (hB : B' ≤ B) (hU : U ≤ U') : LgRow w B' U' G ls cur :=
  ⟨h.blk, by have := h.lo; omega, by have := h.hi; omega, h.size, h.at', fun i l hi => ((h.row i l hi).wide hU).low hB, h.apart⟩
theorem LgRow.lgs {w : World} {B U G : Nat} {ls : List Lg} {cur : Array Value} (h : LgRow w B U G ls cur) : Lgs w w.heap.size (some ⟨G, 0, none⟩) ls :=
  .inr ⟨G, 0, rfl, h.blk.inside, fun i l hi => ⟨by rw [Nat.zero_add, h.blk.at]; exact h.at' i l hi, (h.row i l hi).vg⟩⟩
/-- A row of logs grows by one, whose memory is new. -/
theorem lgrow_step {w : World} {B U U' G k : Nat} {us : List Lg} {cur : Array Value} {n : Lg} (h : LgRow w B U G us cur) (hU : U ≤ U') (hBU : B ≤ U) (hk : us.length = k) (hs : ResS w U U' n.a n.vs) (hsz : k < cur.size) :
    LgRow (w.setCell ⟨G, k, none⟩ (.slice n.a n.vs.length n.c)) B U' G (us ++ [n]) (cur.setIfInBounds k (.slice n.a n.vs.length n.c)) := by
  have ht : Turn (fun g => g = G) w (w.setCell ⟨G, k, none⟩ (.slice n.a n.vs.length n.c)) := (Turn.refl (fun g => g = G) w).set (p := ⟨G, k, none⟩) rfl _
  have hhi := h.hi
  have hlo := h.lo
  refine ⟨h.blk.put _ _, h.lo, by omega, by simp only [List.length_append, List.length_singleton, Array.size_setIfInBounds]; omega, fun i x hx => ?_, fun i x hx => ?_, fun i j x y hne hx hy => ?_⟩
  · rcases snoc_get hk i x hx with ⟨rfl, rfl⟩ | ⟨e, hx⟩
    · simp [Array.getElem?_setIfInBounds]; omega
    · rw [Array.getElem?_setIfInBounds_ne (by omega)]
      exact h.at' i x hx
  · rcases snoc_get hk i x hx with ⟨rfl, rfl⟩ | ⟨e, hx⟩
    · exact (hs.turnF ht (fun g hf e => by have := hs.foot hf; omega)).low hBU
    · exact ((h.row i x hx).turnF ht (fun g hf e => h.notG hx (e ▸ hf))).wide hU
  · rcases snoc_get hk i x hx with ⟨e1, e2⟩ | ⟨e, hq⟩ <;> rcases snoc_get hk j y hy with ⟨e3, e4⟩ | ⟨e', hq'⟩
    · omega
    · rw [e2]; exact fun g hf hf' => by have := hs.foot hf; have := (h.row j y hq').foot hf'; omega
    · rw [e4]; exact fun g hf hf' => by have := hs.foot hf'; have := (h.row i x hq).foot hf; omega
    · exact h.apart i j x y hne hq hq'
/-- Logs that say the same. -/
def LLs (us ls : List Lg) : Prop := us.length = ls.length ∧ ∀ (i : Nat) u l, us[i]? = some u → ls[i]? = some l → LL u.vs l.vs
/-- Logs of few versions. -/
def SmL (ls : List Lg) : Prop := ∀ l ∈ ls, l.vs.length ≤ 1048576 ∧ Small l.vs
theorem vers_info : (Tryz.prog.info? 33).map (fun i => (i.zero, i.size, i.bytes)) = some (some (.slice none 0 0), 1, 24) := by kernel_rfl
/-- What toVerSS leaves: a copy in memory of its own. -/
def CopiedL (w : World) (ls : List Lg) (e : Ending) (w' : World) : Prop :=
  ∃ (g : Nat) (us : List Lg) (cur : Array Value), e = .returned (.slice (some ⟨g, 0, none⟩) ls.length ls.length) ∧ LLs us ls ∧ (∀ l ∈ us, l.c = l.vs.length) ∧ LgRow w' w.heap.size w'.heap.size g us cur ∧ Below w.heap.size w w'
set_option maxRecDepth 100000 in
set_option maxHeartbeats 2000000 in
theorem toVerSS_own (a : Option Addr) (c : Nat) (ls : List Lg) (w : World) (hn : ls.length ≤ 1048576) (hm : SmL ls) (hv : Lgs w w.heap.size a ls) :
    Calls Tryz.prog 27 #[.slice a ls.length c] w (CopiedL w ls) := by
  obtain ⟨i0, hi0, hz0, hz1, hz2⟩ := info_parts vers_info
  have hmk : ∀ W : World, (Instr.makeSlice 34 (.int .i64 (ls.length : Int)) (.int .i64 (ls.length : Int))).run Tryz.prog W = .ok (.slice (some ⟨W.heap.size, 0, none⟩) ls.length ls.length) (W.alloc (.cells (madeCells (Value.slice none 0 0).cells (ls.length * 1)) 33)) := by
    intro W
    have hr := run_make (P := Tryz.prog) W 34 33 i0 _ Tryz.underlying34 hi0 hz0 .i64 .i64 (ls.length : Int) (ls.length : Int) (by omega) (by omega) (by rw [hz2]; omega) (by omega)
    rw [hz1] at hr
    simpa using hr
  have HM := hide hm
  clear hm
  generalize hn' : ls.length = n at *
  have HN := hide hn'
  clear hn'
  go_enter Tryz.func27, Tryz.ntmps27
  go_wp2
  clear hmk hi0 hz0 hz1 hz2
  have B0 := Blk.made w 33 (madeCells #[.slice none 0 0] n)
  have L0 := below_alloc1 w (.cells (madeCells #[.slice none 0 0] n) 33)
  go_loopw [4] (fun i wr => ∃ (k : Nat) (cur : Array Value) (us : List Lg), k ≤ n ∧ i = .int .i64 (k : Int) ∧ Hid (us.length = k) ∧ Hid (∀ l ∈ us, l.c = l.vs.length) ∧ LgRow wr w.heap.size wr.heap.size w.heap.size us cur ∧ cur.size = n ∧ Hid (∀ (i : Nat) v v', us[i]? = some v → ls[i]? = some v' → LL v.vs v'.vs) ∧ Below w.heap.size w wr) (fun i _ => n - (intOf i).toNat)
  case atStart => exact ⟨0, _, [], Nat.zero_le _, rfl, rfl, fun l hl => by simp at hl, ⟨B0, Nat.le_refl _, by simp, by simp, fun i v hi => by simp at hi, fun i v hi => by simp at hi, fun i j v v' _ hi => by simp at hi⟩, by rw [size_madeCells], fun i v v' hi => by simp at hi, L0⟩
  case round =>
    obtain ⟨k, cur, us, hk, rfl, hus, hcp, hR, hsz, hli, hL⟩ := hrel
    by_cases hlt : k < n
    · rcases hv with h0 | ⟨b, off, rfl, hb, hx⟩
      · have := HN.out; subst h0; simp at this; omega
      · have hkl : k < ls.length := by have := HN.out; omega
        obtain ⟨n0, hV⟩ := hx k _ (List.getElem?_eq_getElem hkl)
        have HX := hide (List.getElem?_eq_getElem hkl)
        generalize ls[k] = nd at n0 hV HX
        have HB := hide (HM.out nd (List.mem_of_getElem? HX.out))
        have q0 := (hL.cell (p := ⟨b, off + k, none⟩) hb).trans n0
        have HV := hide ((hV.on hL).up hL.size)
        clear n0 hV hx
        have i1 : (0 : Int) ≤ (k : Int) := by omega
        have i2 : (k : Int) < (n : Int) := by omega
        go_wp2_with fail
        with_reducible refine (toVerS_own nd.a nd.c nd.vs wr HB.out.1 (small_tags HB.out.2) HV.out).mono ?_
        rintro e w1 ⟨g, u1, cu, rfl, hl1, hk1, hO1, hb1⟩
        have hG : w.heap.size < wr.heap.size := hR.blk.inside
        have zw1 := hb1.size
        have e1 : nd.vs.length = u1.length := hl1.symm
        rw [e1]
        have r1 : ResS w1 wr.heap.size w1.heap.size (some ⟨g, 0, none⟩) u1 := .inr ⟨g, cu, rfl, hO1⟩
        have HR := hide (lgrow_step (n := ⟨some ⟨g, 0, none⟩, u1.length, u1⟩) (hR.on hb1) zw1 (by omega) hus.out r1 (show k < cur.size by omega))
        have HL : Hid (∀ (i : Nat) v v', (us ++ [(⟨some ⟨g, 0, none⟩, u1.length, u1⟩ : Lg)])[i]? = some v → ls[i]? = some v' → LL v.vs v'.vs) := fun i v v' hi hi' => by
          rcases snoc_get hus.out i v hi with ⟨rfl, rfl⟩ | ⟨_, hq⟩
          · have := HX.out
            rw [this] at hi'
            injection hi' with hi'
            subst hi'
            exact ⟨hl1, hk1⟩
          · exact hli.out i v v' hq hi'
        have HC : Hid (∀ l ∈ us ++ [(⟨some ⟨g, 0, none⟩, u1.length, u1⟩ : Lg)], l.c = l.vs.length) := fun l hl => by
          rcases List.mem_append.1 hl with h | h
          · exact hcp.out l h
          · rw [List.mem_singleton.1 h]
        have B1 := hR.blk.on hb1
        have hs0 : k < cur.size := by omega
        have d0 : w1.cell? ⟨w.heap.size, k, none⟩ = some cur[k] := by rw [B1.at]; exact Array.getElem?_eq_getElem hs0
        have f0 := B1.loose k
        have hL1 := hL.trans (hb1.mono hL.size)
        have HU : Hid ((us ++ [(⟨some ⟨g, 0, none⟩, u1.length, u1⟩ : Lg)]).length = k + 1) := by
          unfold Hid
          rw [List.length_append, hus.out]
          rfl
        clear q0 hR hli hus hL B1 hO1 r1 hl1 hk1 e1 hcp
        go_wp2
        exact ⟨⟨k + 1, _, _, by omega, by go_num, HU, HC, by simpa [World.setCell] using HR.out, by simp [hsz], HL, hL1.setCell (Nat.le_refl _) _⟩, by simp [intOf]; omega⟩
    · have hkn : k = n := by omega
      subst hkn
      clear hlt
      go_wp2
      go_ret
      have e := HN.out
      exact ⟨_, us, cur, by rw [e]; rfl, ⟨hus.out.trans e.symm, hli.out⟩, hcp.out, hR, hL⟩
end Go.Proofs.YtnaggcdhimcilaaGreat
