/- Chains that came in: how they are read, and their size. Condition: what is said of each. -/
import Derived.Test.YtpelibkdphgpjaaJChainOk
import Derived.Test.YtpelibkdphgpjaaJChainSpec3
import Derived.Test.YtpelibkdphgpjaaJStoreRes
namespace Go.Proofs.Ytpelibkdphgpjaa
open Go.RowKit Go.Joins
attribute [local go_sem ↓] Go.wp_at_zero Go.wp_at_succ

/-- A slice that reads as these nodes, in old memory (below block B). -/
def Ng (w : World) (B : Nat) (a : Option Addr) (ns : List Nd) : Prop :=
  ns = [] ∨ ∃ b off : Nat, a = some ⟨b, off, none⟩ ∧ b < B ∧ ∀ (i : Nat) n, ns[i]? = some n → (w.cell? ⟨b, off + i * 2, none⟩ = some (.slice n.sa n.ss.length n.sc) ∧ w.cell? ⟨b, off + i * 2 + 1, none⟩ = some (.slice n.wa n.ws.length n.wc)) ∧ Vg w B n.sa n.ss ∧ Vg w B n.wa n.ws
theorem Ng.on {w w' : World} {B : Nat} {a : Option Addr} {ns : List Nd} (h : Ng w B a ns) (hb : Below B w w') : Ng w' B a ns := by
  rcases h with h | ⟨b, off, ha, hlt, hx⟩
  · exact .inl h
  · exact .inr ⟨b, off, ha, hlt, fun i n hi => ⟨⟨(hb.cell (p := ⟨b, off + i * 2, none⟩) hlt).trans (hx i n hi).1.1, (hb.cell (p := ⟨b, off + i * 2 + 1, none⟩) hlt).trans (hx i n hi).1.2⟩, (hx i n hi).2.1.on hb, (hx i n hi).2.2.on hb⟩⟩
theorem Ng.up {w : World} {B B' : Nat} {a : Option Addr} {ns : List Nd} (h : Ng w B a ns) (hB : B ≤ B') : Ng w B' a ns := by
  rcases h with h | ⟨b, off, ha, hlt, hx⟩
  · exact .inl h
  · exact .inr ⟨b, off, ha, by omega, fun i n hi => ⟨(hx i n hi).1, (hx i n hi).2.1.up hB, (hx i n hi).2.2.up hB⟩⟩
/-- How much these nodes weigh beside their number. -/
def totN (n : Nd) : Nat := (n.ss.length + tot n.ss) + (n.ws.length + tot n.ws)
def totNs (ns : List Nd) : Nat := (ns.map totN).sum
theorem totNs_step {ns : List Nd} {k : Nat} {n : Nd} (h : ns[k]? = some n) : totNs (ns.take (k + 1)) = totNs (ns.take k) + totN n := by
  unfold totNs
  rw [List.take_add_one, h]
  simp
theorem totNs_all (ns : List Nd) : totNs (ns.take ns.length) = totNs ns := by rw [List.take_length]
theorem totNs_le (ns : List Nd) (k : Nat) : totNs (ns.take k) ≤ totNs ns := by
  have h : ns = ns.take k ++ ns.drop k := (List.take_append_drop k ns).symm
  have e : totNs ns = totNs (ns.take k) + totNs (ns.drop k) := by
    unfold totNs
    rw [← List.sum_append, ← List.map_append, ← h]
  omega
theorem totNs_mem {ns : List Nd} {n : Nd} (h : n ∈ ns) : totN n ≤ totNs ns := by
  obtain ⟨k, hk⟩ := List.getElem?_of_mem h
  have h1 := totNs_step hk
  have h2 := totNs_le ns (k + 1)
  omega
/-- Sizes that a machine has. -/
def BigV (vs : List V) : Prop := vs.length ≤ 9223372036854775807 ∧ ∀ v ∈ vs, v.ts.length ≤ 9223372036854775807 ∧ v.s.size ≤ 9223372036854775807
def BigN (ns : List Nd) : Prop := ∀ n ∈ ns, BigV n.ss ∧ BigV n.ws
set_option maxHeartbeats 1000000 in
theorem szNode_fits (n : Nd) (left : Int) (w : World) (h0 : left ≤ 1048576) (hf : (totN n : Int) ≤ left) (hv : Vg w w.heap.size n.sa n.ss) (hw : Vg w w.heap.size n.wa n.ws) :
    Calls Try.prog 93 #[.agg #[.slice n.sa n.ss.length n.sc, .slice n.wa n.ws.length n.wc], .int .i64 left] w fun e w' => e = .returned (.int .i64 (left - totN n)) ∧ Below w.heap.size w w' := by
  have HE : Hid ((totN n : Int) = (n.ss.length + tot n.ss) + (n.ws.length + tot n.ws)) := by unfold Hid totN; omega
  obtain ⟨sa, sc, ss, wa, wc, ws⟩ := n
  simp only at HE hv hw ⊢
  have S0 := (Inv.start w).box 125 #[.slice sa ss.length sc, .slice wa ws.length wc]
  simp only [World.size_alloc] at S0
  have q0 := (S0.nth 0 rfl).two.1
  have h1 : ¬ (left - (ss.length : Int) - (tot ss : Int) < 0) := by have := HE.out; omega
  have h2 : ¬ (left - (ss.length : Int) - (tot ss : Int) - (ws.length : Int) - (tot ws : Int) < 0) := by have := HE.out; omega
  have HW := hide hw
  clear hw
  go_enter Try.func93, Try.ntmps93
  go_wp2_with fail
  refine (szStore_fits sa sc ss left _ h0 (by have := HE.out; omega) ((hv.on S0.below).up S0.base)).mono ?_
  rintro e w1 ⟨rfl, hb1⟩
  have S1 := S0.on hb1
  have q1 : w1.cell? ⟨w.heap.size, 1, none⟩ = some (.slice wa ws.length wc) := (S1.nth 0 rfl).at 1
  clear S0 q0
  go_wp2_with fail
  refine (szVerS_fits wa wc ws _ _ (by omega) (by have := HE.out; omega) ((HW.out.on S1.below).up S1.base)).mono ?_
  rintro e w2 ⟨rfl, hb2⟩
  have S2 := S1.on hb2
  clear S1 q1
  go_wp2
  go_ret
  exact ⟨ret_int (by have := HE.out; omega), S2.below⟩
set_option maxHeartbeats 1000000 in
theorem szNode_not (n : Nd) (left : Int) (w : World) (h0 : left ≤ 1048576) (h00 : 0 ≤ left) (hB : BigV n.ss ∧ BigV n.ws) (hf : left < (totN n : Int)) (hv : Vg w w.heap.size n.sa n.ss) (hw : Vg w w.heap.size n.wa n.ws) :
    Calls Try.prog 93 #[.agg #[.slice n.sa n.ss.length n.sc, .slice n.wa n.ws.length n.wc], .int .i64 left] w fun e w' => e = .returned (.int .i64 (-1)) ∧ Below w.heap.size w w' := by
  have HE : Hid ((totN n : Int) = (n.ss.length + tot n.ss) + (n.ws.length + tot n.ws)) := by unfold Hid totN; omega
  obtain ⟨sa, sc, ss, wa, wc, ws⟩ := n
  simp only at HE hv hw hB ⊢
  have S0 := (Inv.start w).box 125 #[.slice sa ss.length sc, .slice wa ws.length wc]
  simp only [World.size_alloc] at S0
  have q0 := (S0.nth 0 rfl).two.1
  have HW := hide hw
  have HB := hide hB
  clear hw hB
  by_cases hfit : (ss.length : Int) + tot ss ≤ left
  · have h1 : ¬ (left - (ss.length : Int) - (tot ss : Int) < 0) := by omega
    go_enter Try.func93, Try.ntmps93
    go_wp2_with fail
    refine (szStore_fits sa sc ss left _ h0 hfit ((hv.on S0.below).up S0.base)).mono ?_
    rintro e w1 ⟨rfl, hb1⟩
    have S1 := S0.on hb1
    have q1 : w1.cell? ⟨w.heap.size, 1, none⟩ = some (.slice wa ws.length wc) := (S1.nth 0 rfl).at 1
    clear S0 q0
    go_wp2_with fail
    refine (szVerS_not wa wc ws _ _ (by omega) (by omega) HB.out.2.1 HB.out.2.2 (by have := HE.out; omega) ((HW.out.on S1.below).up S1.base)).mono ?_
    rintro e w2 ⟨rfl, hb2⟩
    have S2 := S1.on hb2
    clear S1 q1
    go_wp2
    go_ret
    exact ⟨rfl, S2.below⟩
  · go_enter Try.func93, Try.ntmps93
    go_wp2_with fail
    refine (szStore_not sa sc ss left _ h0 h00 HB.out.1.1 HB.out.1.2 (by omega) ((hv.on S0.below).up S0.base)).mono ?_
    rintro e w1 ⟨rfl, hb1⟩
    have S1 := S0.on hb1
    clear S0 q0
    go_wp2
    go_ret
    exact ⟨rfl, S1.below⟩
set_option maxRecDepth 100000 in
set_option maxHeartbeats 2000000 in
theorem szNodeS_fits (a : Option Addr) (c : Nat) (ns : List Nd) (left : Int) (w : World) (h0 : left ≤ 1048576) (hf : (ns.length : Int) + totNs ns ≤ left) (hv : Ng w w.heap.size a ns) :
    Calls Try.prog 54 #[.slice a ns.length c, .int .i64 left] w fun e w' => e = .returned (.int .i64 (left - ns.length - totNs ns)) ∧ Below w.heap.size w w' := by
  have HF := hide hf
  have HT : Hid (totNs (ns.take ns.length) = totNs ns) := totNs_all ns
  generalize hnn : ns.length = n at *
  have HN := hide hnn
  have h1 : ¬ (left - (n : Int) < 0) := by omega
  have h2 : 0 ≤ left := by omega
  have h3 : (n : Int) ≤ left := by omega
  clear hnn hf
  go_enter Try.func54, Try.ntmps54
  go_wp2
  go_loopw [1, 5] (fun r i wr => ∃ (k : Nat) (m : Int), k ≤ n ∧ i = .int .i64 (k : Int) ∧ r = .int .i64 m ∧ Hid (m = left - n - totNs (ns.take k)) ∧ Below w.heap.size w wr) (fun _ i _ => n - (intOf i).toNat)
  case atStart => exact ⟨0, _, Nat.zero_le _, rfl, rfl, by unfold Hid totNs; simp, Below.refl _ _⟩
  case round =>
    obtain ⟨k, m, hk, rfl, rfl, hm, hL⟩ := hrel
    by_cases hlt : k < n
    · rcases hv with e0 | ⟨b, off, rfl, hb, hx⟩
      · have := HN.out; subst e0; simp at this; omega
      · have hkl : k < ns.length := by have := HN.out; omega
        obtain ⟨⟨n0, n1⟩, hV, hW⟩ := hx k _ (List.getElem?_eq_getElem hkl)
        have HX := hide (List.getElem?_eq_getElem hkl)
        generalize ns[k] = nd at n0 n1 hV hW HX
        have q0 := (hL.cell (p := ⟨b, off + k * 2, none⟩) hb).trans n0
        have q1 := (hL.cell (p := ⟨b, off + k * 2 + 1, none⟩) hb).trans n1
        have HV := hide ((hV.on hL).up hL.size)
        have HW := hide ((hW.on hL).up hL.size)
        have st := totNs_step HX.out
        have le := totNs_le ns (k + 1)
        have H1 : Hid ((totN nd : Int) ≤ m ∧ m ≤ 1048576) := by
          have := hm.out; have := HF.out; unfold Hid; omega
        have H2 : Hid (m - totN nd = left - n - totNs (ns.take (k + 1))) := by
          have := hm.out; unfold Hid; omega
        have h5 : ¬ (m - (totN nd : Int) < 0) := by have := H1.out; omega
        clear st le n0 n1 hV hW hx
        have i1 : (0 : Int) ≤ (k : Int) := by omega
        have i2 : (k : Int) < (n : Int) := by omega
        go_wp2_with fail
        refine (szNode_fits nd m _ H1.out.2 H1.out.1 HV.out HW.out).mono ?_
        rintro e w1 ⟨rfl, hb1⟩
        have hL1 := hL.trans (hb1.mono hL.size)
        generalize (totN nd : Int) = tn at H1 H2 h5 ⊢
        go_wp2
        exact ⟨⟨k + 1, _, by omega, by go_num, rfl, H2, hL1⟩, by simp [intOf]; omega⟩
    · have hkn : k = n := by omega
      subst hkn
      clear hlt
      go_wp2
      go_ret
      exact ⟨ret_int (by rw [hm.out, HT.out]), hL⟩
set_option maxRecDepth 100000 in
set_option maxHeartbeats 2000000 in
theorem szNodeS_not (a : Option Addr) (c : Nat) (ns : List Nd) (left : Int) (w : World) (h0 : left ≤ 1048576) (h00 : 0 ≤ left) (hl : ns.length ≤ 9223372036854775807) (hB : BigN ns) (hf : left < (ns.length : Int) + totNs ns) (hv : Ng w w.heap.size a ns) :
    Calls Try.prog 54 #[.slice a ns.length c, .int .i64 left] w fun e w' => e = .returned (.int .i64 (-1)) ∧ Below w.heap.size w w' := by
  have HF := hide hf
  have HM := hide hB
  clear hB
  have HT : Hid (totNs (ns.take ns.length) = totNs ns) := totNs_all ns
  generalize hnn : ns.length = n at *
  have HN := hide hnn
  clear hnn hf
  by_cases h1 : left - (n : Int) < 0
  · go_enter Try.func54, Try.ntmps54
    go_wp2
    go_ret
    exact ⟨rfl, Below.refl _ _⟩
  · have h3 : (n : Int) ≤ left := by omega
    go_enter Try.func54, Try.ntmps54
    go_wp2
    go_loopw [1, 5] (fun r i wr => ∃ (k : Nat) (m : Int), k ≤ n ∧ i = .int .i64 (k : Int) ∧ r = .int .i64 m ∧ Hid (m = left - n - totNs (ns.take k) ∧ 0 ≤ m) ∧ Below w.heap.size w wr) (fun _ i _ => n - (intOf i).toNat)
    case atStart => exact ⟨0, _, Nat.zero_le _, rfl, rfl, by unfold Hid totNs; simp; omega, Below.refl _ _⟩
    case round =>
      obtain ⟨k, m, hk, rfl, rfl, hm, hL⟩ := hrel
      by_cases hlt : k < n
      · rcases hv with e0 | ⟨b, off, rfl, hb, hx⟩
        · have := HN.out; subst e0; simp at this; omega
        · have hkl : k < ns.length := by have := HN.out; omega
          obtain ⟨⟨n0, n1⟩, hV, hW⟩ := hx k _ (List.getElem?_eq_getElem hkl)
          have HX := hide (List.getElem?_eq_getElem hkl)
          generalize ns[k] = nd at n0 n1 hV hW HX
          have q0 := (hL.cell (p := ⟨b, off + k * 2, none⟩) hb).trans n0
          have q1 := (hL.cell (p := ⟨b, off + k * 2 + 1, none⟩) hb).trans n1
          have HV := hide ((hV.on hL).up hL.size)
          have HW := hide ((hW.on hL).up hL.size)
          have HB := hide (HM.out nd (List.mem_of_getElem? HX.out))
          have st := totNs_step HX.out
          have H2 : Hid (m - totN nd = left - n - totNs (ns.take (k + 1))) := by
            have := hm.out; unfold Hid; omega
          clear st n0 n1 hV hW hx
          have i1 : (0 : Int) ≤ (k : Int) := by omega
          have i2 : (k : Int) < (n : Int) := by omega
          have H3 : Hid (m ≤ 1048576) := by have := hm.out; unfold Hid; omega
          by_cases hfit : (totN nd : Int) ≤ m
          · have h5 : ¬ (m - (totN nd : Int) < 0) := by omega
            have H4 := hide hfit
            clear hfit
            go_wp2_with fail
            refine (szNode_fits nd m _ H3.out H4.out HV.out HW.out).mono ?_
            rintro e w1 ⟨rfl, hb1⟩
            have hL1 := hL.trans (hb1.mono hL.size)
            generalize (totN nd : Int) = tn at H2 H4 h5 ⊢
            go_wp2
            exact ⟨⟨k + 1, _, by omega, by go_num, rfl, ⟨H2.out, by have := H4.out; omega⟩, hL1⟩, by simp [intOf]; omega⟩
          · have H4 := hide hfit
            clear hfit
            go_wp2_with fail
            refine (szNode_not nd m _ H3.out hm.out.2 HB.out (by have := H4.out; omega) HV.out HW.out).mono ?_
            rintro e w1 ⟨rfl, hb1⟩
            have hL1 := hL.trans (hb1.mono hL.size)
            go_wp2
            go_ret
            exact ⟨rfl, hL1⟩
      · have hkn : k = n := by omega
        exfalso
        have := hm.out
        have := HT.out
        have := HF.out
        subst hkn
        omega
set_option maxHeartbeats 1000000 in
theorem szChain_fits (a : Option Addr) (c : Nat) (ns : List Nd) (left : Int) (w : World) (h0 : left ≤ 1048576) (hf : (ns.length : Int) + totNs ns ≤ left) (hv : Ng w w.heap.size a ns) :
    Calls Try.prog 18 #[.agg #[.slice a ns.length c], .int .i64 left] w fun e w' => e = .returned (.int .i64 (left - ns.length - totNs ns)) ∧ Below w.heap.size w w' := by
  have h1 : ¬ (left - (ns.length : Int) - (totNs ns : Int) < 0) := by omega
  have S0 := (Inv.start w).box 39 #[.slice a ns.length c]
  go_enter Try.func18, Try.ntmps18
  go_wp2_with fail
  refine (szNodeS_fits a c ns left _ h0 hf ((hv.on S0.below).up S0.base)).mono ?_
  rintro e w1 ⟨rfl, hb1⟩
  have S1 := S0.on hb1
  clear S0
  go_wp2
  go_ret
  exact ⟨rfl, S1.below⟩
set_option maxHeartbeats 1000000 in
theorem szChain_not (a : Option Addr) (c : Nat) (ns : List Nd) (left : Int) (w : World) (h0 : left ≤ 1048576) (h00 : 0 ≤ left) (hl : ns.length ≤ 9223372036854775807) (hB : BigN ns) (hf : left < (ns.length : Int) + totNs ns) (hv : Ng w w.heap.size a ns) :
    Calls Try.prog 18 #[.agg #[.slice a ns.length c], .int .i64 left] w fun e w' => e = .returned (.int .i64 (-1)) ∧ Below w.heap.size w w' := by
  have S0 := (Inv.start w).box 39 #[.slice a ns.length c]
  have HM := hide hB
  clear hB
  go_enter Try.func18, Try.ntmps18
  go_wp2_with fail
  refine (szNodeS_not a c ns left _ h0 h00 hl HM.out hf ((hv.on S0.below).up S0.base)).mono ?_
  rintro e w1 ⟨rfl, hb1⟩
  have S1 := S0.on hb1
  clear S0
  go_wp2
  go_ret
  exact ⟨rfl, S1.below⟩
end Go.Proofs.Ytpelibkdphgpjaa
/- Copies of chains in memory of their own. Condition: as many versions and tags as a law lets by. -/
namespace Go.Proofs.Ytpelibkdphgpjaa
open Go.RowKit Go.Joins
attribute [local go_sem ↓] Go.wp_at_zero Go.wp_at_succ

theorem ResS.wide {w : World} {B U U' : Nat} {A : Option Addr} {us : List V} (h : ResS w B U A us) (hu : U ≤ U') : ResS w B U' A us := by
  rcases h with h | ⟨G, cur, h1, h2⟩
  · exact .inl h
  · exact .inr ⟨G, cur, h1, h2.wide hu⟩
theorem ResS.low {w : World} {B B' U : Nat} {A : Option Addr} {us : List V} (h : ResS w B U A us) (hb : B' ≤ B) : ResS w B' U A us := by
  rcases h with h | ⟨G, cur, h1, h2⟩
  · exact .inl h
  · exact .inr ⟨G, cur, h1, h2.low hb⟩
theorem ResS.foot {w : World} {B U : Nat} {A : Option Addr} {us : List V} (h : ResS w B U A us) {g : Nat} (hf : FootS A us g) : B ≤ g ∧ g < U := by
  obtain ⟨_, _, _, _, h1⟩ := h.typed hf
  exact h1
theorem snoc_get {α : Type} {us : List α} {n : α} {k : Nat} (hk : us.length = k) (i : Nat) (x : α) (hx : (us ++ [n])[i]? = some x) : (i = k ∧ x = n) ∨ (i < k ∧ us[i]? = some x) := by
  by_cases e : i < us.length
  · rw [List.getElem?_append_left e] at hx
    exact .inr ⟨by omega, hx⟩
  · rw [List.getElem?_append_right (by omega)] at hx
    have h0 : i - us.length = 0 := by
      have := (List.getElem?_eq_some_iff.1 hx).1
      simp at this
      omega
    rw [h0] at hx
    simp at hx
    exact .inl ⟨by omega, hx.symm⟩
abbrev put2 (cur : Array Value) (k : Nat) (n : Nd) : Array Value := (cur.setIfInBounds (k * 2) (.slice n.sa n.ss.length n.sc)).setIfInBounds (k * 2 + 1) (.slice n.wa n.ws.length n.wc)
theorem ndAt_put {cur : Array Value} {k : Nat} {n : Nd} (h : k * 2 + 1 < cur.size) : NdAt (put2 cur k n) k n := by
  refine ⟨?_, ?_⟩ <;> simp [put2, Array.getElem?_setIfInBounds] <;> omega
theorem ndAt_other {cur : Array Value} {j k : Nat} {n n' : Nd} (hj : j ≠ k) (h : NdAt cur j n) : NdAt (put2 cur k n') j n := by
  obtain ⟨h0, h1⟩ := h
  refine ⟨?_, ?_⟩
  all_goals
    unfold put2
    rw [Array.getElem?_setIfInBounds_ne (by omega), Array.getElem?_setIfInBounds_ne (by omega)]
    assumption
/-- A row of nodes grows by one, whose memory is new. -/
theorem nrow_step {w : World} {B U U' G k : Nat} {us : List Nd} {cur : Array Value} {n : Nd} (h : NRow w B U G us cur) (hU : U ≤ U') (hBU : B ≤ U) (hk : us.length = k) (hs : ResS w U U' n.sa n.ss) (hw : ResS w U U' n.wa n.ws) (h2 : ∀ g, FootS n.sa n.ss g → ¬ FootS n.wa n.ws g) (hsz : k * 2 + 1 < cur.size) :
    NRow ((w.setCell ⟨G, k * 2, none⟩ (.slice n.sa n.ss.length n.sc)).setCell ⟨G, k * 2 + 1, none⟩ (.slice n.wa n.ws.length n.wc)) B U' G (us ++ [n]) (put2 cur k n) := by
  have ht : Turn (fun g => g = G) w ((w.setCell ⟨G, k * 2, none⟩ (.slice n.sa n.ss.length n.sc)).setCell ⟨G, k * 2 + 1, none⟩ (.slice n.wa n.ws.length n.wc)) :=
    ((Turn.refl (fun g => g = G) w).set (p := ⟨G, k * 2, none⟩) rfl _).set (p := ⟨G, k * 2 + 1, none⟩) rfl _
  have hnew : ∀ g, FootN n g → U ≤ g ∧ g < U' := fun g hf => by
    rcases hf with hf | hf
    · exact hs.foot hf
    · exact hw.foot hf
  have hhi := h.hi
  refine ⟨(h.blk.put _ _).put _ _, h.lo, by omega, by simp only [List.length_append, List.length_singleton, Array.size_setIfInBounds]; omega, fun i x hx => ?_, fun i x hx => ?_, fun i x hx => ?_, fun i x hx => ?_, fun i j x y hne hx hy => ?_⟩
  · rcases snoc_get hk i x hx with ⟨rfl, rfl⟩ | ⟨e, hx⟩
    · exact ndAt_put hsz
    · exact ndAt_other (by omega) (h.at' i x hx)
  · rcases snoc_get hk i x hx with ⟨rfl, rfl⟩ | ⟨e, hx⟩
    · exact (hs.turnF ht (fun g hf e => by have := hnew g (.inl hf); omega)).low hBU
    · exact ((h.store i x hx).turnF ht (fun g hf e => h.notG hx (e ▸ .inl hf))).wide hU
  · rcases snoc_get hk i x hx with ⟨rfl, rfl⟩ | ⟨e, hx⟩
    · exact (hw.turnF ht (fun g hf e => by have := hnew g (.inr hf); omega)).low hBU
    · exact ((h.wait i x hx).turnF ht (fun g hf e => h.notG hx (e ▸ .inr hf))).wide hU
  · rcases snoc_get hk i x hx with ⟨rfl, rfl⟩ | ⟨e, hx⟩
    · exact h2
    · exact h.two i x hx
  · rcases snoc_get hk i x hx with ⟨e1, e2⟩ | ⟨e, hq⟩ <;> rcases snoc_get hk j y hy with ⟨e3, e4⟩ | ⟨e', hq'⟩
    · omega
    · rw [e2]; exact fun g hf hf' => by have := hnew g hf; have := h.range hq' hf'; omega
    · rw [e4]; exact fun g hf hf' => by have := hnew g hf'; have := h.range hq hf; omega
    · exact h.apart i j x y hne hq hq'
/-- What toNode leaves: a copy in memory of its own. -/
def CopiedN (w : World) (n : Nd) (e : Ending) (w' : World) : Prop :=
  ∃ (g h M : Nat) (us vs : List V) (cu cv : Array Value), e = .returned (.agg #[.slice (some ⟨g, 0, none⟩) n.ss.length n.ss.length, .slice (some ⟨h, 0, none⟩) n.ws.length n.ws.length]) ∧ LL us n.ss ∧ LL vs n.ws ∧ ORow w' w.heap.size M g us cu ∧ ORow w' M w'.heap.size h vs cv ∧ w.heap.size ≤ M ∧ M ≤ w'.heap.size ∧ Below w.heap.size w w'
set_option maxRecDepth 100000 in
set_option maxHeartbeats 2000000 in
theorem toNode_own (n : Nd) (w : World) (hn : n.ss.length ≤ 1048576 ∧ n.ws.length ≤ 1048576) (hm : Small n.ss) (hm' : Small n.ws) (hv : Vg w w.heap.size n.sa n.ss) (hw : Vg w w.heap.size n.wa n.ws) :
    Calls Try.prog 96 #[.agg #[.slice n.sa n.ss.length n.sc, .slice n.wa n.ws.length n.wc]] w (CopiedN w n) := by
  obtain ⟨sa, sc, ss, wa, wc, ws⟩ := n
  simp only at hn hm hm' hv hw ⊢
  have S0 := (((Inv.start w).box 125 #[.slice sa ss.length sc, .slice wa ws.length wc]).box 77 #[.slice none 0 0, .slice none 0 0]).box 77 #[.slice none 0 0, .slice none 0 0]
  simp only [World.size_alloc] at S0
  have q0 := (S0.nth 2 rfl).two.1
  have HM : Hid (∀ v ∈ ss, v.ts.length ≤ 1048576) := fun v hv => (hm v hv).1
  have HM' : Hid (∀ v ∈ ws, v.ts.length ≤ 1048576) := fun v hv => (hm' v hv).1
  have HW := hide hw
  have HV := hide hv
  clear hm hm' hv hw
  go_enter Try.func96, Try.ntmps96
  go_wp2_with fail
  generalize (((w.alloc (.cells #[.slice sa ss.length sc, .slice wa ws.length wc] 125)).alloc (.cells #[.slice none 0 0, .slice none 0 0] 77)).alloc (.cells #[.slice none 0 0, .slice none 0 0] 77)) = W at S0 ⊢
  with_reducible refine (toStore_own sa sc ss W hn.1 HM.out ((HV.out.on S0.below).up S0.base)).mono ?_
  rintro e w1 ⟨g, us, cu, rfl, hul, hli, hO, hb1⟩
  have S1 := S0.on hb1
  have zr := S0.room
  have zr1 := S1.room
  have zw1 := hb1.size
  have HLU : Hid (LL us ss) := ⟨hul, hli⟩
  have q2 := (S1.nth 0 rfl).two
  have q1 : w1.cell? ⟨w.heap.size, 1, none⟩ = some (.slice wa ws.length wc) := (S1.nth 2 rfl).at 1
  have I2 := S1.put0 (i := 0) (by intro x hx; simp only [List.mem_cons, List.not_mem_nil, or_false] at hx; rcases hx with rfl | rfl <;> simp only <;> omega) (.slice (some ⟨g, 0, none⟩) ss.length ss.length)
  simp only [List.setIfInBounds_toArray, List.set_cons_zero] at I2
  have HO := hide (hO.turned (P := fun g => g = w.heap.size + 1 + 1) ((Turn.refl (fun g => g = w.heap.size + 1 + 1) w1).set (p := ⟨w.heap.size + 1 + 1, 0, none⟩) rfl (.slice (some ⟨g, 0, none⟩) ss.length ss.length)) (fun g h1 h2 e => by omega))
  have q3 : (w1.setCell ⟨w.heap.size + 1 + 1, 0, none⟩ (.slice (some ⟨g, 0, none⟩) ss.length ss.length)).cell? ⟨w.heap.size, 1, none⟩ = some (.slice wa ws.length wc) := (I2.nth 2 rfl).at 1
  have hsz : (w1.setCell ⟨w.heap.size + 1 + 1, 0, none⟩ (.slice (some ⟨g, 0, none⟩) ss.length ss.length)).heap.size = w1.heap.size := by simp [World.setCell]
  have HSZ := hide hsz
  clear hul hli hO S1 S0 q0 hsz
  go_wp2_with fail
  generalize w1.setCell ⟨w.heap.size + 1 + 1, 0, none⟩ (.slice (some ⟨g, 0, none⟩) ss.length ss.length) = W1 at I2 HO q3 HSZ ⊢
  with_reducible refine (toVerS_own wa wc ws W1 hn.2 HM'.out ((HW.out.on I2.below).up I2.base)).mono ?_
  rintro e w2 ⟨h, vs, cv, rfl, hvl, hlv, hO2, hb2⟩
  have I3 := I2.on hb2
  have zw2 : w1.heap.size ≤ w2.heap.size := by have := hb2.size; have := HSZ.out; omega
  have HLV : Hid (LL vs ws) := ⟨hvl, hlv⟩
  have HO1 := hide (HO.out.on hb2)
  have HO2 := hide hO2
  have B3 := (I3.nth 0 rfl)
  have B2 := (I3.nth 1 rfl)
  have k3 := B3.two
  have k2 := B2.two
  have hz1 : W1.heap.size = w1.heap.size := HSZ.out
  have glo := HO.out.lo
  have hhl : w1.heap.size ≤ h := by have := hO2.lo; omega
  have HBL := hide I3.below
  clear q2 q3 hvl hlv hO2 I2 q1
  go_wp2
  refine bodyPost_ret (v := .agg #[.slice (some ⟨g, 0, none⟩) ss.length ss.length, .slice (some ⟨h, 0, none⟩) ws.length ws.length]) (by simp [results, Try.results96, go_sem, k2]) rfl ?_
  have T3 : Turn (fun g => g = w.heap.size + 1 + 1 ∨ g = w.heap.size + 1) w2 (((w2.setCell ⟨w.heap.size + 1 + 1, 1, none⟩ (.slice (some ⟨h, 0, none⟩) ws.length ws.length)).setCell ⟨w.heap.size + 1, 0, none⟩ (.slice (some ⟨g, 0, none⟩) ss.length ss.length)).setCell ⟨w.heap.size + 1, 1, none⟩ (.slice (some ⟨h, 0, none⟩) ws.length ws.length)) :=
    (((Turn.refl _ w2).set (p := ⟨w.heap.size + 1 + 1, 1, none⟩) (.inl rfl) _).set (p := ⟨w.heap.size + 1, 0, none⟩) (.inr rfl) _).set (p := ⟨w.heap.size + 1, 1, none⟩) (.inr rfl) _
  have Z3 : (((w2.setCell ⟨w.heap.size + 1 + 1, 1, none⟩ (.slice (some ⟨h, 0, none⟩) ws.length ws.length)).setCell ⟨w.heap.size + 1, 0, none⟩ (.slice (some ⟨g, 0, none⟩) ss.length ss.length)).setCell ⟨w.heap.size + 1, 1, none⟩ (.slice (some ⟨h, 0, none⟩) ws.length ws.length)).heap.size = w2.heap.size := by simp [World.setCell]
  refine ⟨g, h, w1.heap.size, us, vs, cu, cv, rfl, HLU.out, HLV.out, (HO1.out.turned T3 (fun g h1 h2 e => by omega)).low (by omega), ?_, by omega, by rw [Z3]; omega, ((HBL.out.setCell (by simp; omega) _).setCell (by simp) _).setCell (by simp) _⟩
  rw [Z3, ← hz1]
  exact HO2.out.turned T3 (fun g h1 h2 e => by omega)
/-- What toNodeS leaves: a copy in memory of its own. -/
def CopiedNO (w : World) (ns : List Nd) (e : Ending) (w' : World) : Prop :=
  ∃ (g : Nat) (us : List Nd) (cur : Array Value), e = .returned (.slice (some ⟨g, 0, none⟩) ns.length ns.length) ∧ NL us ns ∧ NRow w' w.heap.size w'.heap.size g us cur ∧ Below w.heap.size w w'
set_option maxRecDepth 100000 in
set_option maxHeartbeats 2000000 in
theorem toNodeS_own (a : Option Addr) (c : Nat) (ns : List Nd) (w : World) (hn : ns.length ≤ 1048576) (hm : SmN ns) (hv : Ng w w.heap.size a ns) :
    Calls Try.prog 56 #[.slice a ns.length c] w (CopiedNO w ns) := by
  obtain ⟨i0, hi0, hz0, hz1, hz2⟩ := info_parts node_info
  have hmk : ∀ W : World, (Instr.makeSlice 24 (.int .i64 (ns.length : Int)) (.int .i64 (ns.length : Int))).run Try.prog W = .ok (.slice (some ⟨W.heap.size, 0, none⟩) ns.length ns.length) (W.alloc (.cells (madeCells (Value.agg #[.slice none 0 0, .slice none 0 0]).cells (ns.length * 2)) 77)) := by
    intro W
    have hr := run_make (P := Try.prog) W 24 77 i0 _ Try.underlying24 hi0 hz0 .i64 .i64 (ns.length : Int) (ns.length : Int) (by omega) (by omega) (by rw [hz2]; omega) (by omega)
    rw [hz1] at hr
    simpa using hr
  have HM := hide hm
  clear hm
  generalize hn' : ns.length = n at *
  have HN := hide hn'
  clear hn'
  go_enter Try.func56, Try.ntmps56
  go_wp2
  clear hmk hi0 hz0 hz1 hz2
  have B0 := Blk.made w 77 (madeCells #[.slice none 0 0, .slice none 0 0] (n * 2))
  have L0 := below_alloc1 w (.cells (madeCells #[.slice none 0 0, .slice none 0 0] (n * 2)) 77)
  go_loopw [4] (fun i wr => ∃ (k : Nat) (cur : Array Value) (us : List Nd), k ≤ n ∧ i = .int .i64 (k : Int) ∧ Hid (us.length = k) ∧ NRow wr w.heap.size wr.heap.size w.heap.size us cur ∧ cur.size = n * 2 ∧ Hid (∀ (i : Nat) v v', us[i]? = some v → ns[i]? = some v' → Nd.like v v') ∧ Below w.heap.size w wr) (fun i _ => n - (intOf i).toNat)
  case atStart => exact ⟨0, _, [], Nat.zero_le _, rfl, rfl, ⟨B0, Nat.le_refl _, by simp, by simp, fun i v hi => by simp at hi, fun i v hi => by simp at hi, fun i v hi => by simp at hi, fun i v hi => by simp at hi, fun i j v v' _ hi => by simp at hi⟩, size_madeCells _ _, fun i v v' hi => by simp at hi, L0⟩
  case round =>
    obtain ⟨k, cur, us, hk, rfl, hus, hR, hsz, hli, hL⟩ := hrel
    by_cases hlt : k < n
    · rcases hv with h0 | ⟨b, off, rfl, hb, hx⟩
      · have := HN.out; subst h0; simp at this; omega
      · have hkl : k < ns.length := by have := HN.out; omega
        obtain ⟨⟨n0, n1⟩, hV, hW⟩ := hx k _ (List.getElem?_eq_getElem hkl)
        have HX := hide (List.getElem?_eq_getElem hkl)
        generalize ns[k] = nd at n0 n1 hV hW HX
        have HB := hide (HM.out k nd HX.out)
        have q0 := (hL.cell (p := ⟨b, off + k * 2, none⟩) hb).trans n0
        have q1 := (hL.cell (p := ⟨b, off + k * 2 + 1, none⟩) hb).trans n1
        have HV := hide ((hV.on hL).up hL.size)
        have HW := hide ((hW.on hL).up hL.size)
        clear n0 n1 hV hW hx
        have i1 : (0 : Int) ≤ (k : Int) := by omega
        have i2 : (k : Int) < (n : Int) := by omega
        go_wp2_with fail
        with_reducible refine (toNode_own nd wr HB.out.1 HB.out.2.1 HB.out.2.2 HV.out HW.out).mono ?_
        rintro e w1 ⟨g, h, M, u1, u2, cu, cv, rfl, hl1, hl2, hO1, hO2, hM1, hM2, hb1⟩
        have hG : w.heap.size < wr.heap.size := hR.blk.inside
        have zw1 := hb1.size
        have e1 : nd.ss.length = u1.length := hl1.1.symm
        have e2 : nd.ws.length = u2.length := hl2.1.symm
        rw [e1, e2]
        have r1 : ResS w1 wr.heap.size M (some ⟨g, 0, none⟩) u1 := .inr ⟨g, cu, rfl, hO1⟩
        have r2 : ResS w1 M w1.heap.size (some ⟨h, 0, none⟩) u2 := .inr ⟨h, cv, rfl, hO2⟩
        have HR := hide (nrow_step (n := ⟨some ⟨g, 0, none⟩, u1.length, u1, some ⟨h, 0, none⟩, u2.length, u2⟩) (hR.on hb1) zw1 (by omega) hus.out (r1.wide hM2) (r2.low hM1) (fun g h1 h2 => by
          have := r1.foot h1; have := r2.foot h2; omega) (show k * 2 + 1 < cur.size by omega))
        have HL : Hid (∀ (i : Nat) v v', (us ++ [(⟨some ⟨g, 0, none⟩, u1.length, u1, some ⟨h, 0, none⟩, u2.length, u2⟩ : Nd)])[i]? = some v → ns[i]? = some v' → Nd.like v v') := fun i v v' hi hi' => by
          rcases snoc_get hus.out i v hi with ⟨rfl, rfl⟩ | ⟨_, hq⟩
          · have := HX.out
            rw [this] at hi'
            injection hi' with hi'
            subst hi'
            exact ⟨hl1.1, hl1.2, hl2.1, hl2.2⟩
          · exact hli.out i v v' hq hi'
        have B1 := hR.blk.on hb1
        have hs0 : k * 2 < cur.size := by omega
        have hs1 : k * 2 + 1 < cur.size := by omega
        have d0 : w1.cell? ⟨w.heap.size, k * 2, none⟩ = some cur[k * 2] := by rw [B1.at]; exact Array.getElem?_eq_getElem hs0
        have d1 : w1.cell? ⟨w.heap.size, k * 2 + 1, none⟩ = some cur[k * 2 + 1] := by rw [B1.at]; exact Array.getElem?_eq_getElem hs1
        have f0 := B1.loose (k * 2)
        have f1 := B1.loose (k * 2 + 1)
        have hL1 := hL.trans (hb1.mono hL.size)
        have HU : Hid ((us ++ [(⟨some ⟨g, 0, none⟩, u1.length, u1, some ⟨h, 0, none⟩, u2.length, u2⟩ : Nd)]).length = k + 1) := by
          unfold Hid
          rw [List.length_append, hus.out]
          rfl
        clear q0 q1 hR hli hus hL B1 hO1 hO2 r1 r2 hl1 hl2 e1 e2
        go_wp2
        exact ⟨⟨k + 1, _, _, by omega, by go_num, HU, by simpa [World.setCell] using HR.out, by simp [hsz], HL, (hL1.setCell (Nat.le_refl _) _).setCell (Nat.le_refl _) _⟩, by simp [intOf]; omega⟩
    · have hkn : k = n := by omega
      subst hkn
      clear hlt
      go_wp2
      go_ret
      have e := HN.out
      exact ⟨_, us, cur, by rw [e]; rfl, ⟨hus.out.trans e.symm, hli.out⟩, hR, hL⟩
/-- What toChain leaves: a copy in memory of its own. -/
def CopiedC (w : World) (ns : List Nd) (e : Ending) (w' : World) : Prop :=
  ∃ (g : Nat) (us : List Nd) (cur : Array Value), e = .returned (.agg #[.slice (some ⟨g, 0, none⟩) ns.length ns.length]) ∧ NL us ns ∧ NRow w' w.heap.size w'.heap.size g us cur ∧ Below w.heap.size w w'
set_option maxRecDepth 100000 in
set_option maxHeartbeats 1000000 in
theorem toChain_own (a : Option Addr) (c : Nat) (ns : List Nd) (w : World) (hn : ns.length ≤ 1048576) (hm : SmN ns) (hv : Ng w w.heap.size a ns) :
    Calls Try.prog 20 #[.agg #[.slice a ns.length c]] w (CopiedC w ns) := by
  have S0 := (((Inv.start w).box 39 #[.slice a ns.length c]).box 26 #[.slice none 0 0]).box 26 #[.slice none 0 0]
  simp only [World.size_alloc] at S0
  have T0 := hv.on S0.below
  go_enter Try.func20, Try.ntmps20
  go_wp2_with fail
  generalize (((w.alloc (.cells #[.slice a ns.length c] 39)).alloc (.cells #[.slice none 0 0] 26)).alloc (.cells #[.slice none 0 0] 26)) = W at S0 T0 ⊢
  refine (toNodeS_own a c ns W hn hm (T0.up S0.base)).mono ?_
  rintro e w1 ⟨g, us, cur, rfl, hli, hR, hb1⟩
  have S1 := S0.on hb1
  have hr := S0.room
  have hl := S1.below
  obtain ⟨k0, f0⟩ := (S1.nth 0 rfl).one
  obtain ⟨k1, f1⟩ := (S1.nth 1 rfl).one
  have hW := S0.base
  have hbs := hb1.size
  have HR := hide hR
  have HL := hide hli
  clear hR hli S0 S1 T0 hv hm
  go_wp2
  refine bodyPost_ret (v := .agg #[.slice (some ⟨g, 0, none⟩) ns.length ns.length]) (by simp [results, Try.results20, go_sem, k1]) rfl ?_
  have T3 : Turn (fun g => g < W.heap.size) w1 ((w1.setCell ⟨w.heap.size + 1 + 1, 0, none⟩ (.slice (some ⟨g, 0, none⟩) ns.length ns.length)).setCell ⟨w.heap.size + 1, 0, none⟩ (.slice (some ⟨g, 0, none⟩) ns.length ns.length)) :=
    ((Turn.refl _ w1).set (p := ⟨w.heap.size + 1 + 1, 0, none⟩) (by show w.heap.size + 1 + 1 < W.heap.size; omega) _).set (p := ⟨w.heap.size + 1, 0, none⟩) (by show w.heap.size + 1 < W.heap.size; omega) _
  have R3 := HR.out.turned T3 (by have := HR.out.lo; omega) (fun i n hi g hf => by have := HR.out.range hi hf; omega)
  have Z3 : ((w1.setCell ⟨w.heap.size + 1 + 1, 0, none⟩ (.slice (some ⟨g, 0, none⟩) ns.length ns.length)).setCell ⟨w.heap.size + 1, 0, none⟩ (.slice (some ⟨g, 0, none⟩) ns.length ns.length)).heap.size = w1.heap.size := by simp [World.setCell]
  refine ⟨g, us, cur, rfl, HL.out, ?_, (hl.setCell (by simp; omega) _).setCell (by simp) _⟩
  rw [Z3]
  exact ⟨R3.blk, Nat.le_trans hW R3.lo, R3.hi, R3.size, R3.at', fun i n hi => (R3.store i n hi).low hW, fun i n hi => (R3.wait i n hi).low hW, R3.two, R3.apart⟩
theorem smN_fits {ns : List Nd} (hB : BigN ns) (h : ns.length + totNs ns ≤ 1048576) : SmN ns := fun i n hi => by
  have h1 := totNs_mem (List.mem_of_getElem? hi)
  obtain ⟨b1, b2⟩ := hB n (List.mem_of_getElem? hi)
  unfold totN at h1
  exact ⟨⟨by omega, by omega⟩, fun v hv => ⟨by have := tot_mem hv; omega, (b1.2 v hv).2⟩, fun v hv => ⟨by have := tot_mem hv; omega, (b2.2 v hv).2⟩⟩
theorem smN_small {ns : List Nd} (h : SmN ns) : SmallN ns := fun n hn => by
  obtain ⟨i, hi⟩ := List.getElem?_of_mem hn
  obtain ⟨⟨h1, h2⟩, h3, h4⟩ := h i n hi
  exact ⟨h1, h2, fun v hv => (h3 v hv).1, fun v hv => (h4 v hv).1⟩
/-- Two copies of a chain are the same. -/
theorem eqChain_copies (B U B' U' g g' c c' : Nat) (ns us us' : List Nd) (cur cur' : Array Value) (w : World) (hn : ns.length ≤ 1048576) (hm : SmN ns) (h : NL us ns) (h' : NL us' ns) (hR : NRow w B U g us cur) (hR' : NRow w B' U' g' us' cur') :
    Calls Try.prog 21 #[.agg #[.slice (some ⟨g, 0, none⟩) ns.length c], .agg #[.slice (some ⟨g', 0, none⟩) ns.length c']] w fun e w' => e = .returned (.bool true) ∧ Below w.heap.size w w' :=
  eqChain_same B U B' U' _ _ c c' ns.length us us' w hn h.1 h'.1 (nl_trans h (nl_symm h')).2 (smN_small (smN_like h hm)) (.inr ⟨g, cur, rfl, hR⟩) (.inr ⟨g', cur', rfl, hR'⟩)
end Go.Proofs.Ytpelibkdphgpjaa
/- Contracts of ChainStable, of program and model. Condition: sizes that memory holds. -/
namespace Go.Proofs.Ytpelibkdphgpjaa
open Go.RowKit Go.Joins
attribute [local go_sem ↓] Go.wp_at_zero Go.wp_at_succ

theorem tot_ll {us vs : List V} (h : LL us vs) : tot us = tot vs := by
  unfold tot
  congr 1
  apply List.ext_getElem?
  intro i
  rw [List.getElem?_map, List.getElem?_map]
  cases hx : us[i]? with
  | none => rw [ll_none h hx]
  | some v =>
    obtain ⟨v', hv', hl⟩ := ll_at h hx
    rw [hv']
    simp [hl.2.2.2.1, hl.2.2.2.2.1]
theorem totN_like {n m : Nd} (h : Nd.like n m) : totN n = totN m := by
  unfold totN
  rw [tot_ll (us := n.ss) (vs := m.ss) ⟨h.1, h.2.1⟩, tot_ll (us := n.ws) (vs := m.ws) ⟨h.2.2.1, h.2.2.2⟩, h.1, h.2.2.1]
theorem totNs_nl {us ns : List Nd} (h : NL us ns) : totNs us = totNs ns := by
  unfold totNs
  congr 1
  apply List.ext_getElem?
  intro i
  rw [List.getElem?_map, List.getElem?_map]
  cases hx : us[i]? with
  | none => rw [nl_none h hx]
  | some v =>
    obtain ⟨v', hv', hl⟩ := nl_at h hx
    rw [hv']
    simp [totN_like hl]
theorem wtNs_tot (ns : List Nd) : wtNs ns ≤ 5 * (totNs ns : Int) := by
  induction ns with
  | nil => simp [wtNs, totNs]
  | cons n r ih =>
    have h1 := wts_tot n.ss
    have h2 := wts_tot n.ws
    unfold wtNs totNs at *
    simp only [List.map_cons, List.sum_cons, wtN, totN] at *
    omega
/-- Marks of a copy are few. -/
theorem wtNs_few {us ns : List Nd} (h : NL us ns) (hs : ns.length + totNs ns ≤ 1048576) : (1 : Int) + wtNs us ≤ 8388000 ∧ 0 ≤ wtNs us := by
  have h1 := wtNs_tot us
  rw [totNs_nl h] at h1
  exact ⟨by omega, wtNs_pos us⟩
/-- A copy of a chain is marked. -/
theorem markChain_copy (B U g c : Nat) (us ns : List Nd) (cur : Array Value) (w : World) (hR : NRow w B U g us cur) (h : NL us ns) (hm : SmN ns) (hs : ns.length + totNs ns ≤ 1048576) :
    Calls Try.prog 27 #[.agg #[.slice (some ⟨g, 0, none⟩) ns.length c], .int .i64 1] w fun e w' => e = .returned (.int .i64 (1 + wtNs us)) ∧ Turn (fun g => B ≤ g ∧ g < U) w w' :=
  (markChain_any B U _ c ns.length us 1 w (.inr ⟨g, cur, rfl, hR⟩) h.1 (smN_small (smN_like h hm)) (by omega) (by omega) (wtNs_few h hs).1).mono fun e w' ⟨h1, _, h3⟩ => ⟨h1, h3⟩
/-- What ChainStable answers. -/
def stableR (ns : List Nd) : List (Int × Int) := if chainB ns = true then (match ns[ns.length - 1]? with | some n => tagsR n.ss | none => []) else []
theorem stableR_no {ns : List Nd} (h : chainB ns = false) : stableR ns = [] := by unfold stableR; rw [h]; rfl
theorem stableR_yes {ns : List Nd} {p : Nat} {n : Nd} (h : chainB ns = true) (hp : ns.length = p + 1) (hn : ns[p]? = some n) : stableR ns = tagsR n.ss := by
  unfold stableR
  rw [h, if_pos rfl, hp, Nat.add_sub_cancel, hn]
theorem stableR_len (ns : List Nd) : (stableR ns).length ≤ 4 := by
  unfold stableR
  split
  · split
    · exact tagsR_len _
    · simp
  · simp
theorem stableR_like {ns us : List Nd} (h : NL ns us) : stableR ns = stableR us := by
  unfold stableR
  rw [chainB_like h, h.1]
  split
  · cases hx : ns[us.length - 1]? with
    | none => rw [nl_none h hx]
    | some n =>
      obtain ⟨n', hx', hl⟩ := nl_at h hx
      rw [hx']
      exact tagsR_like hl.1 hl.2.1
  · rfl
set_option maxHeartbeats 1000000 in
theorem tail_any (G c p : Nat) (ns : List Nd) (cur : Array Value) (nd : Nd) (w : World) (hp : p + 1 ≤ 1048576) (hC : Cg w G ns cur) (hx : ns[p]? = some nd) :
    Calls Try.prog 52 #[.agg #[.slice (some ⟨G, 0, none⟩) (p + 1) c]] w fun e w' => e = .returned (.agg #[.slice nd.sa nd.ss.length nd.sc, .slice nd.wa nd.ws.length nd.wc]) ∧ Below w.heap.size w w' := by
  have S0 := ((Inv.start w).box 26 #[.slice (some ⟨G, 0, none⟩) (p + 1) c]).box 77 #[.slice none 0 0, .slice none 0 0]
  simp only [World.size_alloc] at S0
  have HC := hC.on S0.below
  have n0 := (HC.blk.at (p * 2)).trans (HC.at' p nd hx).1
  have n1 := (HC.blk.at (p * 2 + 1)).trans (HC.at' p nd hx).2
  have e1 : ((p + 1 : Nat) : Int) - 1 = (p : Int) := by omega
  have i1 : (0 : Int) ≤ (p : Int) := by omega
  have i2 : (p : Int) < ((p + 1 : Nat) : Int) := by omega
  obtain ⟨sa, sc, ss, wa, wc, ws⟩ := nd
  simp only at n0 n1 ⊢
  have c0 := (S0.nth 1 rfl).one.1
  have HS := hide (((Inv.start w).box 26 #[.slice (some ⟨G, 0, none⟩) (p + 1) c]).box 77 #[.slice sa ss.length sc, .slice wa ws.length wc]).below
  clear hC HC hx S0
  go_enter Try.func52, Try.ntmps52
  go_wp2
  refine bodyPost_ret (v := .agg #[.slice sa ss.length sc, .slice wa ws.length wc]) (by simp [results, Try.results52, go_sem]) rfl ?_
  exact ⟨rfl, HS.out⟩
theorem field_store (a b : Value) (W : World) : (Instr.field 77 (.agg #[a, b]) 0).run Try.prog W = .ok (.agg #[a]) W := by kernel_rfl
set_option maxRecDepth 100000 in
set_option maxHeartbeats 2000000 in
theorem implChainStable_any (A : Option Addr) (c : Nat) (ns : List Nd) (w : World) (hn : ns.length ≤ 1048576) (hm : SmN ns) (hC : CgA w A ns) :
    Calls Try.prog 16 #[.agg #[.slice A ns.length c]] w (Answer w (stableR ns)) := by
  have S0 := ((Inv.start w).box 26 #[.slice A ns.length c]).box 33 #[.slice none 0 0]
  simp only [World.size_alloc] at S0
  have C0 := hide (implChainOk_any A c ns ((w.alloc (.cells #[.slice A ns.length c] 26)).alloc (.cells #[.slice none 0 0] 33)) hn hm (hC.on S0.below))
  have k0 := (S0.nth 1 rfl).one.1
  have HM := hide hm
  have HC := hide hC
  clear hm hC
  cases ho : chainB ns
  · have HE := hide (stableR_no ho)
    rw [ho] at C0
    clear ho
    go_enter Try.func16, Try.ntmps16
    go_wp2_with fail
    with_reducible refine C0.out.mono ?_
    rintro e w1 ⟨rfl, hb1⟩
    have S1 := S0.on hb1
    have q1 := (S1.nth 0 rfl).one
    clear S0 C0 k0
    go_wp2
    refine bodyPost_ret (v := .agg #[.slice none 0 0]) (by simp [results, Try.results16, go_sem, q1]) rfl ?_
    exact answer_empty HE.out (S1.below.setCell (by simp) _)
  · obtain ⟨⟨h1, h4⟩, hB, _⟩ := chainB_parts ho
    obtain ⟨p, hp⟩ : ∃ p, ns.length = p + 1 := ⟨ns.length - 1, by omega⟩
    obtain ⟨nd, hnd⟩ : ∃ nd, ns[p]? = some nd := ⟨_, List.getElem?_eq_getElem (by omega)⟩
    have HE := hide (stableR_yes ho hp hnd)
    have HND := hide hnd
    rcases HC.out with h0 | ⟨G, cur, rfl, hG⟩
    · rw [h0] at h1; simp at h1
    have HG := hide hG
    have hp4 : p + 1 ≤ 4 := by omega
    rw [ho] at C0
    rw [hp] at C0 S0 k0 ⊢
    have HMN := hide (HM.out p nd hnd)
    clear ho h1 h4 hB hp hnd hG hn HM HC
    go_enter Try.func16, Try.ntmps16
    go_wp2_with fail
    with_reducible refine C0.out.mono ?_
    rintro e w1 ⟨rfl, hb1⟩
    have S1 := S0.on hb1
    have k1 := (S1.nth 1 rfl).one.1
    clear S0 C0 k0
    go_wp2_with fail
    refine (tail_any G c p ns cur nd w1 (by omega) (HG.out.on S1.below) HND.out).mono ?_
    rintro e w2 ⟨rfl, hb2⟩
    have S2 := S1.on hb2
    have HV2 := hide (HG.out.on S2.below |>.store p nd HND.out)
    have zr := S2.room
    clear S1 k1
    obtain ⟨sa, sc, ss, wa, wc, ws⟩ := nd
    simp only at HV2 HE HMN
    have hfd := field_store (.slice sa ss.length sc) (.slice wa ws.length wc)
    go_wp2_with fail
    refine (implStoreTags_any sa sc ss w2 HMN.out.1.1 HMN.out.2.1 HV2.out).mono ?_
    rintro e w3 ⟨A3, cap3, rfl, R3, hb3⟩
    have S3 := S2.on hb3
    have q3 := (S3.nth 0 rfl).one
    have HR3 := hide R3
    clear S2 R3
    generalize tagsR ss = rs at HR3 HE ⊢
    go_wp2
    refine bodyPost_ret (v := .agg #[.slice A3 rs.length cap3]) (by simp [results, Try.results16, go_sem, q3]) rfl ?_
    rw [HE.out]
    refine ⟨A3, cap3, rfl, ?_, S3.below.setCell (by simp) _⟩
    have Z : (w3.setCell ⟨w.heap.size + 1, 0, none⟩ (.slice A3 rs.length cap3)).heap.size = w3.heap.size := by simp [World.setCell]
    rw [Z]
    rcases HR3.out with h | ⟨g, T, cu, rfl, hB, hU, hb, hs, hc⟩
    · exact .inl h
    · exact .inr ⟨g, T, cu, rfl, by omega, hU, hb.aside (by simp; omega) _, hs, hc⟩
set_option maxRecDepth 100000 in
set_option maxHeartbeats 2000000 in
theorem l3Stable_any (G c p : Nat) (ns : List Nd) (cur : Array Value) (nd : Nd) (w : World) (hp : p + 1 ≤ 1048576) (hC : Cg w G ns cur) (hx : ns[p]? = some nd) (hs : storeB nd.ss = true) :
    Calls Try.prog 75 #[.agg #[.slice (some ⟨G, 0, none⟩) (p + 1) c]] w (Answer w (tagsR nd.ss)) := by
  have S0 := ((Inv.start w).box 26 #[.slice (some ⟨G, 0, none⟩) (p + 1) c]).box 33 #[.slice none 0 0]
  simp only [World.size_alloc] at S0
  have HC := hC.on S0.below
  have n0 := (HC.blk.at (p * 2)).trans (HC.at' p nd hx).1
  have e1 : ((p + 1 : Nat) : Int) - 1 = (p : Int) := by omega
  have i1 : (0 : Int) ≤ (p : Int) := by omega
  have i2 : (p : Int) < ((p + 1 : Nat) : Int) := by omega
  have HE : Hid (tagsR nd.ss = tagsL nd.ss) := by unfold Hid tagsR; rw [hs]; rfl
  have H4 := hide (storeB_four hs)
  have CT := hide (l2Tags_any nd.sa nd.sc nd.ss _ H4.out (HC.store p nd hx))
  obtain ⟨sa, sc, ss, wa, wc, ws⟩ := nd
  simp only at n0 HE H4 CT ⊢
  rw [H4.out] at n0
  have c0 := (S0.nth 1 rfl).one.1
  clear hC HC hx hs
  go_enter Try.func75, Try.ntmps75
  go_wp2_with fail
  with_reducible refine CT.out.mono ?_
  rintro e w2 ⟨g, cap, T, cu, rfl, hg, hB, hsz, hcur, hb2⟩
  have S2 := S0.on hb2
  have q2 := (S2.nth 0 rfl).one
  have hr := S0.room
  have HCU := hide hcur
  clear S0 c0 n0 CT hcur
  go_wp2
  refine bodyPost_ret (v := .agg #[.slice (some ⟨g, 0, none⟩) 4 cap]) (by simp [results, Try.results75, go_sem, q2]) rfl ?_
  rw [HE.out]
  have hg' : w.heap.size + 1 + 1 ≤ g := by have h := hg; simp at h; omega
  exact answer_joined (by rw [tagsL_len]; exact H4.out) ⟨g, cap, T, cu, rfl, by omega, hB.aside (by simp; omega) _, hsz, HCU.out, S2.below.setCell (by simp) _⟩
set_option maxRecDepth 100000 in
set_option maxHeartbeats 2000000 in
theorem specChainStable_any (A : Option Addr) (c : Nat) (ns : List Nd) (w : World) (hn : ns.length ≤ 1048576) (hm : SmN ns) (hC : CgA w A ns) :
    Calls Try.prog 32 #[.agg #[.slice A ns.length c]] w (Answer w (stableR ns)) := by
  have S0 := ((Inv.start w).box 26 #[.slice A ns.length c]).box 33 #[.slice none 0 0]
  simp only [World.size_alloc] at S0
  have C0 := hide (l3Ok_any A c ns ((w.alloc (.cells #[.slice A ns.length c] 26)).alloc (.cells #[.slice none 0 0] 33)) hn hm (hC.on S0.below))
  have k0 := (S0.nth 1 rfl).one.1
  have HC := hide hC
  clear hm hC
  cases ho : chainB ns
  · have HE := hide (stableR_no ho)
    rw [ho] at C0
    clear ho
    go_enter Try.func32, Try.ntmps32
    go_wp2_with fail
    with_reducible refine C0.out.mono ?_
    rintro e w1 ⟨rfl, hb1⟩
    have S1 := S0.on hb1
    have q1 := (S1.nth 0 rfl).one
    clear S0 C0 k0
    go_wp2
    refine bodyPost_ret (v := .agg #[.slice none 0 0]) (by simp [results, Try.results32, go_sem, q1]) rfl ?_
    exact answer_empty HE.out (S1.below.setCell (by simp) _)
  · obtain ⟨⟨h1, h4⟩, hB, _⟩ := chainB_parts ho
    obtain ⟨p, hp⟩ : ∃ p, ns.length = p + 1 := ⟨ns.length - 1, by omega⟩
    obtain ⟨nd, hnd⟩ : ∃ nd, ns[p]? = some nd := ⟨_, List.getElem?_eq_getElem (by omega)⟩
    have HE := hide (stableR_yes ho hp hnd)
    have HND := hide hnd
    have HSB := hide (nodeB_parts (hB p nd hnd)).1
    rcases HC.out with h0 | ⟨G, cur, rfl, hG⟩
    · rw [h0] at h1; simp at h1
    have HG := hide hG
    have hp4 : p + 1 ≤ 4 := by omega
    rw [ho] at C0
    rw [hp] at C0 S0 k0 ⊢
    clear ho h1 h4 hB hp hnd hG hn HC
    go_enter Try.func32, Try.ntmps32
    go_wp2_with fail
    with_reducible refine C0.out.mono ?_
    rintro e w1 ⟨rfl, hb1⟩
    have S1 := S0.on hb1
    have k1 := (S1.nth 1 rfl).one.1
    have zr := S1.room
    clear S0 C0 k0
    go_wp2_with fail
    refine (l3Stable_any G c p ns cur nd w1 (by omega) (HG.out.on S1.below) HND.out HSB.out).mono ?_
    rintro e w3 ⟨A3, cap3, rfl, R3, hb3⟩
    have S3 := S1.on hb3
    have q3 := (S3.nth 0 rfl).one
    have HR3 := hide R3
    clear S1 k1 R3
    generalize tagsR nd.ss = rs at HR3 HE ⊢
    go_wp2
    refine bodyPost_ret (v := .agg #[.slice A3 rs.length cap3]) (by simp [results, Try.results32, go_sem, q3]) rfl ?_
    rw [HE.out]
    refine ⟨A3, cap3, rfl, ?_, S3.below.setCell (by simp) _⟩
    have Z : (w3.setCell ⟨w.heap.size + 1, 0, none⟩ (.slice A3 rs.length cap3)).heap.size = w3.heap.size := by simp [World.setCell]
    rw [Z]
    rcases HR3.out with h | ⟨g, T, cu, rfl, hB, hU, hb, hs, hc⟩
    · exact .inl h
    · exact .inr ⟨g, T, cu, rfl, by omega, hU, hb.aside (by simp; omega) _, hs, hc⟩
end Go.Proofs.Ytpelibkdphgpjaa
