/- Copies of chains in memory of their own. Condition: as many versions and tags as a law lets by. -/
import Derived.Test.YtnaggcdhimcilaaGreatJChainSz
namespace Go.Proofs.YtnaggcdhimcilaaGreat
open Go.RowKit Go.Joins
attribute [local go_sem ↓] Go.wp_at_zero Go.wp_at_succ

theorem ResS.wide {w : World} {B U U' : Nat} {A : Option Addr} {us : List V} (h : ResS w B U A us) (hu : U ≤ U') : ResS w B U' A us := by
  rcases h with h | ⟨G, cur, h1, h2⟩
  · exact .inl h
  · exact .inr ⟨G, cur, h1, h2.wide hu⟩
theorem ResS.low {w : World} {B B' U : Nat} {A : Option Addr} {us : List V} (h : ResS w B U A us) (hb : B' ≤ B) : ResS w B' U A us := by
  rcases h with h | ⟨G, cur, h1, h2⟩
  · exact .inl h
  · exact .inr ⟨G, cur, h1, h2.low hb⟩
theorem ResS.foot {w : World} {B U : Nat} {A : Option Addr} {us : List V} (h : ResS w B U A us) {g : Nat} (hf : FootS A us g) : B ≤ g ∧ g < U := by
  obtain ⟨_, _, _, _, h1⟩ := h.typed hf
  exact h1
theorem snoc_get {α : Type} {us : List α} {n : α} {k : Nat} (hk : us.length = k) (i : Nat) (x : α) (hx : (us ++ [n])[i]? = some x) : (i = k ∧ x = n) ∨ (i < k ∧ us[i]? = some x) := by
  by_cases e : i < us.length
  · rw [List.getElem?_append_left e] at hx
    exact .inr ⟨by omega, hx⟩
  · rw [List.getElem?_append_right (by omega)] at hx
    have h0 : i - us.length = 0 := by
      have := (List.getElem?_eq_some_iff.1 hx).1
      simp at this
      omega
    rw [h0] at hx
    simp at hx
    exact .inl ⟨by omega, hx.symm⟩
abbrev put2 (cur : Array Value) (k : Nat) (n : Nd) : Array Value := (cur.setIfInBounds (k * 2) (.slice n.sa n.ss.length n.sc)).setIfInBounds (k * 2 + 1) (.slice n.wa n.ws.length n.wc)
theorem ndAt_put {cur : Array Value} {k : Nat} {n : Nd} (h : k * 2 + 1 < cur.size) : NdAt (put2 cur k n) k n := by
  refine ⟨?_, ?_⟩ <;> simp [put2, Array.getElem?_setIfInBounds] <;> omega
theorem ndAt_other {cur : Array Value} {j k : Nat} {n n' : Nd} (hj : j ≠ k) (h : NdAt cur j n) : NdAt (put2 cur k n') j n := by
  obtain ⟨h0, h1⟩ := h
  refine ⟨?_, ?_⟩
  all_goals
    unfold put2
    rw [Array.getElem?_setIfInBounds_ne (by omega), Array.getElem?_setIfInBounds_ne (by omega)]
    assumption
/-- A row of nodes grows by one, whose memory is new. -/
theorem nrow_step {w : World} {B U U' G k : Nat} {us : List Nd} {cur : Array Value} {n : Nd} (h : NRow w B U G us cur) (hU : U ≤ U') (hBU : B ≤ U) (hk : us.length = k) (hs : ResS w U U' n.sa n.ss) (hw : ResS w U U' n.wa n.ws) (h2 : ∀ g, FootS n.sa n.ss g → ¬ FootS n.wa n.ws g) (hsz : k * 2 + 1 < cur.size) :
    NRow ((w.setCell ⟨G, k * 2, none⟩ (.slice n.sa n.ss.length n.sc)).setCell ⟨G, k * 2 + 1, none⟩ (.slice n.wa n.ws.length n.wc)) B U' G (us ++ [n]) (put2 cur k n) := by
  have ht : Turn (fun g => g = G) w ((w.setCell ⟨G, k * 2, none⟩ (.slice n.sa n.ss.length n.sc)).setCell ⟨G, k * 2 + 1, none⟩ (.slice n.wa n.ws.length n.wc)) :=
    ((Turn.refl (fun g => g = G) w).set (p := ⟨G, k * 2, none⟩) rfl _).set (p := ⟨G, k * 2 + 1, none⟩) rfl _
  have hnew : ∀ g, FootN n g → U ≤ g ∧ g < U' := fun g hf => by
    rcases hf with hf | hf
    · exact hs.foot hf
    · exact hw.foot hf
  have hhi := h.hi
  refine ⟨(h.blk.put _ _).put _ _, h.lo, by omega, by simp only [List.length_append, List.length_singleton, Array.size_setIfInBounds]; omega, fun i x hx => ?_, fun i x hx => ?_, fun i x hx => ?_, fun i x hx => ?_, fun i j x y hne hx hy => ?_⟩
  · rcases snoc_get hk i x hx with ⟨rfl, rfl⟩ | ⟨e, hx⟩
    · exact ndAt_put hsz
    · exact ndAt_other (by omega) (h.at' i x hx)
  · rcases snoc_get hk i x hx with ⟨rfl, rfl⟩ | ⟨e, hx⟩
    · exact (hs.turnF ht (fun g hf e => by have := hnew g (.inl hf); omega)).low hBU
    · exact ((h.store i x hx).turnF ht (fun g hf e => h.notG hx (e ▸ .inl hf))).wide hU
  · rcases snoc_get hk i x hx with ⟨rfl, rfl⟩ | ⟨e, hx⟩
    · exact (hw.turnF ht (fun g hf e => by have := hnew g (.inr hf); omega)).low hBU
    · exact ((h.wait i x hx).turnF ht (fun g hf e => h.notG hx (e ▸ .inr hf))).wide hU
  · rcases snoc_get hk i x hx with ⟨rfl, rfl⟩ | ⟨e, hx⟩
    · exact h2
    · exact h.two i x hx
  · rcases snoc_get hk i x hx with ⟨e1, e2⟩ | ⟨e, hq⟩ <;> rcases snoc_get hk j y hy with ⟨e3, e4⟩ | ⟨e', hq'⟩
    · omega
    · rw [e2]; exact fun g hf hf' => by have := hnew g hf; have := h.range hq' hf'; omega
    · rw [e4]; exact fun g hf hf' => by have := hnew g hf'; have := h.range hq hf; omega
    · exact h.apart i j x y hne hq hq'
/-- What toNode leaves: a copy in memory of its own. -/
def CopiedN (w : World) (n : Nd) (e : Ending) (w' : World) : Prop :=
  ∃ (g h M : Nat) (us vs : List V) (cu cv : Array Value), e = .returned (.agg #[.slice (some ⟨g, 0, none⟩) n.ss.length n.ss.length, .slice (some ⟨h, 0, none⟩) n.ws.length n.ws.length]) ∧ LL us n.ss ∧ LL vs n.ws ∧ ORow w' w.heap.size M g us cu ∧ ORow w' M w'.heap.size h vs cv ∧ w.heap.size ≤ M ∧ M ≤ w'.heap.size ∧ Below w.heap.size w w'
set_option maxRecDepth 100000 in
set_option maxHeartbeats 2000000 in
theorem toNode_own (n : Nd) (w : World) (hn : n.ss.length ≤ 1048576 ∧ n.ws.length ≤ 1048576) (hm : Small n.ss) (hm' : Small n.ws) (hv : Vg w w.heap.size n.sa n.ss) (hw : Vg w w.heap.size n.wa n.ws) :
    Calls Tryz.prog 99 #[.agg #[.slice n.sa n.ss.length n.sc, .slice n.wa n.ws.length n.wc]] w (CopiedN w n) := by
  obtain ⟨sa, sc, ss, wa, wc, ws⟩ := n
  simp only at hn hm hm' hv hw ⊢
  have S0 := (((Inv.start w).box 130 #[.slice sa ss.length sc, .slice wa ws.length wc]).box 90 #[.slice none 0 0, .slice none 0 0]).box 90 #[.slice none 0 0, .slice none 0 0]
  simp only [World.size_alloc] at S0
  have q0 := (S0.nth 2 rfl).two.1
  have HM : Hid (∀ v ∈ ss, v.ts.length ≤ 1048576) := fun v hv => (hm v hv).1
  have HM' : Hid (∀ v ∈ ws, v.ts.length ≤ 1048576) := fun v hv => (hm' v hv).1
  have HW := hide hw
  have HV := hide hv
  clear hm hm' hv hw
  go_enter Tryz.func99, Tryz.ntmps99
  go_wp2_with fail
  generalize (((w.alloc (.cells #[.slice sa ss.length sc, .slice wa ws.length wc] 130)).alloc (.cells #[.slice none 0 0, .slice none 0 0] 90)).alloc (.cells #[.slice none 0 0, .slice none 0 0] 90)) = W at S0 ⊢
  with_reducible refine (toStore_own sa sc ss W hn.1 HM.out ((HV.out.on S0.below).up S0.base)).mono ?_
  rintro e w1 ⟨g, us, cu, rfl, hul, hli, hO, hb1⟩
  have S1 := S0.on hb1
  have zr := S0.room
  have zr1 := S1.room
  have zw1 := hb1.size
  have HLU : Hid (LL us ss) := ⟨hul, hli⟩
  have q2 := (S1.nth 0 rfl).two
  have q1 : w1.cell? ⟨w.heap.size, 1, none⟩ = some (.slice wa ws.length wc) := (S1.nth 2 rfl).at 1
  have I2 := S1.put0 (i := 0) (by intro x hx; simp only [List.mem_cons, List.not_mem_nil, or_false] at hx; rcases hx with rfl | rfl <;> simp only <;> omega) (.slice (some ⟨g, 0, none⟩) ss.length ss.length)
  simp only [List.setIfInBounds_toArray, List.set_cons_zero] at I2
  have HO := hide (hO.turned (P := fun g => g = w.heap.size + 1 + 1) ((Turn.refl (fun g => g = w.heap.size + 1 + 1) w1).set (p := ⟨w.heap.size + 1 + 1, 0, none⟩) rfl (.slice (some ⟨g, 0, none⟩) ss.length ss.length)) (fun g h1 h2 e => by omega))
  have q3 : (w1.setCell ⟨w.heap.size + 1 + 1, 0, none⟩ (.slice (some ⟨g, 0, none⟩) ss.length ss.length)).cell? ⟨w.heap.size, 1, none⟩ = some (.slice wa ws.length wc) := (I2.nth 2 rfl).at 1
  have hsz : (w1.setCell ⟨w.heap.size + 1 + 1, 0, none⟩ (.slice (some ⟨g, 0, none⟩) ss.length ss.length)).heap.size = w1.heap.size := by simp [World.setCell]
  have HSZ := hide hsz
  clear hul hli hO S1 S0 q0 hsz
  go_wp2_with fail
  generalize w1.setCell ⟨w.heap.size + 1 + 1, 0, none⟩ (.slice (some ⟨g, 0, none⟩) ss.length ss.length) = W1 at I2 HO q3 HSZ ⊢
  with_reducible refine (toVerS_own wa wc ws W1 hn.2 HM'.out ((HW.out.on I2.below).up I2.base)).mono ?_
  rintro e w2 ⟨h, vs, cv, rfl, hvl, hlv, hO2, hb2⟩
  have I3 := I2.on hb2
  have zw2 : w1.heap.size ≤ w2.heap.size := by have := hb2.size; have := HSZ.out; omega
  have HLV : Hid (LL vs ws) := ⟨hvl, hlv⟩
  have HO1 := hide (HO.out.on hb2)
  have HO2 := hide hO2
  have B3 := (I3.nth 0 rfl)
  have B2 := (I3.nth 1 rfl)
  have k3 := B3.two
  have k2 := B2.two
  have hz1 : W1.heap.size = w1.heap.size := HSZ.out
  have glo := HO.out.lo
  have hhl : w1.heap.size ≤ h := by have := hO2.lo; omega
  have HBL := hide I3.below
  clear q2 q3 hvl hlv hO2 I2 q1
  go_wp2
  refine bodyPost_ret (v := .agg #[.slice (some ⟨g, 0, none⟩) ss.length ss.length, .slice (some ⟨h, 0, none⟩) ws.length ws.length]) (by simp [results, Tryz.results99, go_sem, k2]) rfl ?_
  have T3 : Turn (fun g => g = w.heap.size + 1 + 1 ∨ g = w.heap.size + 1) w2 (((w2.setCell ⟨w.heap.size + 1 + 1, 1, none⟩ (.slice (some ⟨h, 0, none⟩) ws.length ws.length)).setCell ⟨w.heap.size + 1, 0, none⟩ (.slice (some ⟨g, 0, none⟩) ss.length ss.length)).setCell ⟨w.heap.size + 1, 1, none⟩ (.slice (some ⟨h, 0, none⟩) ws.length ws.length)) :=
    (((Turn.refl _ w2).set (p := ⟨w.heap.size + 1 + 1, 1, none⟩) (.inl rfl) _).set (p := ⟨w.heap.size + 1, 0, none⟩) (.inr rfl) _).set (p := ⟨w.heap.size + 1, 1, none⟩) (.inr rfl) _
  have Z3 : (((w2.setCell ⟨w.heap.size + 1 + 1, 1, none⟩ (.slice (some ⟨h, 0, none⟩) ws.length ws.length)).setCell ⟨w.heap.size + 1, 0, none⟩ (.slice (some ⟨g, 0, none⟩) ss.length ss.length)).setCell ⟨w.heap.size + 1, 1, none⟩ (.slice (some ⟨h, 0, none⟩) ws.length ws.length)).heap.size = w2.heap.size := by simp [World.setCell]
  refine ⟨g, h, w1.heap.size, us, vs, cu, cv, rfl, HLU.out, HLV.out, (HO1.out.turned T3 (fun g h1 h2 e => by omega)).low (by omega), ?_, by omega, by rw [Z3]; omega, ((HBL.out.setCell (by simp; omega) _).setCell (by simp) _).setCell (by simp) _⟩
  rw [Z3, ← hz1]
  exact HO2.out.turned T3 (fun g h1 h2 e => by omega)
/-- What toNodeS leaves: a copy in memory of its own. -/
def CopiedNO (w : World) (ns : List Nd) (e : Ending) (w' : World) : Prop :=
  ∃ (g : Nat) (us : List Nd) (cur : Array Value), e = .returned (.slice (some ⟨g, 0, none⟩) ns.length ns.length) ∧ NL us ns ∧ NRow w' w.heap.size w'.heap.size g us cur ∧ Below w.heap.size w w'
set_option maxRecDepth 100000 in
set_option maxHeartbeats 2000000 in
theorem toNodeS_own (a : Option Addr) (c : Nat) (ns : List Nd) (w : World) (hn : ns.length ≤ 1048576) (hm : SmN ns) (hv : Ng w w.heap.size a ns) :
    Calls Tryz.prog 62 #[.slice a ns.length c] w (CopiedNO w ns) := by
  obtain ⟨i0, hi0, hz0, hz1, hz2⟩ := info_parts node_info
  have hmk : ∀ W : World, (Instr.makeSlice 30 (.int .i64 (ns.length : Int)) (.int .i64 (ns.length : Int))).run Tryz.prog W = .ok (.slice (some ⟨W.heap.size, 0, none⟩) ns.length ns.length) (W.alloc (.cells (madeCells (Value.agg #[.slice none 0 0, .slice none 0 0]).cells (ns.length * 2)) 90)) := by
    intro W
    have hr := run_make (P := Tryz.prog) W 30 90 i0 _ Tryz.underlying30 hi0 hz0 .i64 .i64 (ns.length : Int) (ns.length : Int) (by omega) (by omega) (by rw [hz2]; omega) (by omega)
    rw [hz1] at hr
    simpa using hr
  have HM := hide hm
  clear hm
  generalize hn' : ns.length = n at *
  have HN := hide hn'
  clear hn'
  go_enter Tryz.func62, Tryz.ntmps62
  go_wp2
  clear hmk hi0 hz0 hz1 hz2
  have B0 := Blk.made w 90 (madeCells #[.slice none 0 0, .slice none 0 0] (n * 2))
  have L0 := below_alloc1 w (.cells (madeCells #[.slice none 0 0, .slice none 0 0] (n * 2)) 90)
  go_loopw [4] (fun i wr => ∃ (k : Nat) (cur : Array Value) (us : List Nd), k ≤ n ∧ i = .int .i64 (k : Int) ∧ Hid (us.length = k) ∧ NRow wr w.heap.size wr.heap.size w.heap.size us cur ∧ cur.size = n * 2 ∧ Hid (∀ (i : Nat) v v', us[i]? = some v → ns[i]? = some v' → Nd.like v v') ∧ Below w.heap.size w wr) (fun i _ => n - (intOf i).toNat)
  case atStart => exact ⟨0, _, [], Nat.zero_le _, rfl, rfl, ⟨B0, Nat.le_refl _, by simp, by simp, fun i v hi => by simp at hi, fun i v hi => by simp at hi, fun i v hi => by simp at hi, fun i v hi => by simp at hi, fun i j v v' _ hi => by simp at hi⟩, size_madeCells _ _, fun i v v' hi => by simp at hi, L0⟩
  case round =>
    obtain ⟨k, cur, us, hk, rfl, hus, hR, hsz, hli, hL⟩ := hrel
    by_cases hlt : k < n
    · rcases hv with h0 | ⟨b, off, rfl, hb, hx⟩
      · have := HN.out; subst h0; simp at this; omega
      · have hkl : k < ns.length := by have := HN.out; omega
        obtain ⟨⟨n0, n1⟩, hV, hW⟩ := hx k _ (List.getElem?_eq_getElem hkl)
        have HX := hide (List.getElem?_eq_getElem hkl)
        generalize ns[k] = nd at n0 n1 hV hW HX
        have HB := hide (HM.out k nd HX.out)
        have q0 := (hL.cell (p := ⟨b, off + k * 2, none⟩) hb).trans n0
        have q1 := (hL.cell (p := ⟨b, off + k * 2 + 1, none⟩) hb).trans n1
        have HV := hide ((hV.on hL).up hL.size)
        have HW := hide ((hW.on hL).up hL.size)
        clear n0 n1 hV hW hx
        have i1 : (0 : Int) ≤ (k : Int) := by omega
        have i2 : (k : Int) < (n : Int) := by omega
        go_wp2_with fail
        with_reducible refine (toNode_own nd wr HB.out.1 HB.out.2.1 HB.out.2.2 HV.out HW.out).mono ?_
        rintro e w1 ⟨g, h, M, u1, u2, cu, cv, rfl, hl1, hl2, hO1, hO2, hM1, hM2, hb1⟩
        have hG : w.heap.size < wr.heap.size := hR.blk.inside
        have zw1 := hb1.size
        have e1 : nd.ss.length = u1.length := hl1.1.symm
        have e2 : nd.ws.length = u2.length := hl2.1.symm
        rw [e1, e2]
        have r1 : ResS w1 wr.heap.size M (some ⟨g, 0, none⟩) u1 := .inr ⟨g, cu, rfl, hO1⟩
        have r2 : ResS w1 M w1.heap.size (some ⟨h, 0, none⟩) u2 := .inr ⟨h, cv, rfl, hO2⟩
        have HR := hide (nrow_step (n := ⟨some ⟨g, 0, none⟩, u1.length, u1, some ⟨h, 0, none⟩, u2.length, u2⟩) (hR.on hb1) zw1 (by omega) hus.out (r1.wide hM2) (r2.low hM1) (fun g h1 h2 => by
          have := r1.foot h1; have := r2.foot h2; omega) (show k * 2 + 1 < cur.size by omega))
        have HL : Hid (∀ (i : Nat) v v', (us ++ [(⟨some ⟨g, 0, none⟩, u1.length, u1, some ⟨h, 0, none⟩, u2.length, u2⟩ : Nd)])[i]? = some v → ns[i]? = some v' → Nd.like v v') := fun i v v' hi hi' => by
          rcases snoc_get hus.out i v hi with ⟨rfl, rfl⟩ | ⟨_, hq⟩
          · have := HX.out
            rw [this] at hi'
            injection hi' with hi'
            subst hi'
            exact ⟨hl1.1, hl1.2, hl2.1, hl2.2⟩
          · exact hli.out i v v' hq hi'
        have B1 := hR.blk.on hb1
        have hs0 : k * 2 < cur.size := by omega
        have hs1 : k * 2 + 1 < cur.size := by omega
        have d0 : w1.cell? ⟨w.heap.size, k * 2, none⟩ = some cur[k * 2] := by rw [B1.at]; exact Array.getElem?_eq_getElem hs0
        have d1 : w1.cell? ⟨w.heap.size, k * 2 + 1, none⟩ = some cur[k * 2 + 1] := by rw [B1.at]; exact Array.getElem?_eq_getElem hs1
        have f0 := B1.loose (k * 2)
        have f1 := B1.loose (k * 2 + 1)
        have hL1 := hL.trans (hb1.mono hL.size)
        have HU : Hid ((us ++ [(⟨some ⟨g, 0, none⟩, u1.length, u1, some ⟨h, 0, none⟩, u2.length, u2⟩ : Nd)]).length = k + 1) := by
          unfold Hid
          rw [List.length_append, hus.out]
          rfl
        clear q0 q1 hR hli hus hL B1 hO1 hO2 r1 r2 hl1 hl2 e1 e2
        go_wp2
        exact ⟨⟨k + 1, _, _, by omega, by go_num, HU, by simpa [World.setCell] using HR.out, by simp [hsz], HL, (hL1.setCell (Nat.le_refl _) _).setCell (Nat.le_refl _) _⟩, by simp [intOf]; omega⟩
    · have hkn : k = n := by omega
      subst hkn
      clear hlt
      go_wp2
      go_ret
      have e := HN.out
      exact ⟨_, us, cur, by rw [e]; rfl, ⟨hus.out.trans e.symm, hli.out⟩, hR, hL⟩
/-- What toChain leaves: a copy in memory of its own. -/
def CopiedC (w : World) (ns : List Nd) (e : Ending) (w' : World) : Prop :=
  ∃ (g : Nat) (us : List Nd) (cur : Array Value), e = .returned (.agg #[.slice (some ⟨g, 0, none⟩) ns.length ns.length]) ∧ NL us ns ∧ NRow w' w.heap.size w'.heap.size g us cur ∧ Below w.heap.size w w'
set_option maxRecDepth 100000 in
set_option maxHeartbeats 1000000 in
theorem toChain_own (a : Option Addr) (c : Nat) (ns : List Nd) (w : World) (hn : ns.length ≤ 1048576) (hm : SmN ns) (hv : Ng w w.heap.size a ns) :
    Calls Tryz.prog 25 #[.agg #[.slice a ns.length c]] w (CopiedC w ns) := by
  have S0 := (((Inv.start w).box 24 #[.slice a ns.length c]).box 32 #[.slice none 0 0]).box 32 #[.slice none 0 0]
  simp only [World.size_alloc] at S0
  have T0 := hv.on S0.below
  go_enter Tryz.func25, Tryz.ntmps25
  go_wp2_with fail
  generalize (((w.alloc (.cells #[.slice a ns.length c] 24)).alloc (.cells #[.slice none 0 0] 32)).alloc (.cells #[.slice none 0 0] 32)) = W at S0 T0 ⊢
  refine (toNodeS_own a c ns W hn hm (T0.up S0.base)).mono ?_
  rintro e w1 ⟨g, us, cur, rfl, hli, hR, hb1⟩
  have S1 := S0.on hb1
  have hr := S0.room
  have hl := S1.below
  obtain ⟨k0, f0⟩ := (S1.nth 0 rfl).one
  obtain ⟨k1, f1⟩ := (S1.nth 1 rfl).one
  have hW := S0.base
  have hbs := hb1.size
  have HR := hide hR
  have HL := hide hli
  clear hR hli S0 S1 T0 hv hm
  go_wp2
  refine bodyPost_ret (v := .agg #[.slice (some ⟨g, 0, none⟩) ns.length ns.length]) (by simp [results, Tryz.results25, go_sem, k1]) rfl ?_
  have T3 : Turn (fun g => g < W.heap.size) w1 ((w1.setCell ⟨w.heap.size + 1 + 1, 0, none⟩ (.slice (some ⟨g, 0, none⟩) ns.length ns.length)).setCell ⟨w.heap.size + 1, 0, none⟩ (.slice (some ⟨g, 0, none⟩) ns.length ns.length)) :=
    ((Turn.refl _ w1).set (p := ⟨w.heap.size + 1 + 1, 0, none⟩) (by show w.heap.size + 1 + 1 < W.heap.size; omega) _).set (p := ⟨w.heap.size + 1, 0, none⟩) (by show w.heap.size + 1 < W.heap.size; omega) _
  have R3 := HR.out.turned T3 (by have := HR.out.lo; omega) (fun i n hi g hf => by have := HR.out.range hi hf; omega)
  have Z3 : ((w1.setCell ⟨w.heap.size + 1 + 1, 0, none⟩ (.slice (some ⟨g, 0, none⟩) ns.length ns.length)).setCell ⟨w.heap.size + 1, 0, none⟩ (.slice (some ⟨g, 0, none⟩) ns.length ns.length)).heap.size = w1.heap.size := by simp [World.setCell]
  refine ⟨g, us, cur, rfl, HL.out, ?_, (hl.setCell (by simp; omega) _).setCell (by simp) _⟩
  rw [Z3]
  exact ⟨R3.blk, Nat.le_trans hW R3.lo, R3.hi, R3.size, R3.at', fun i n hi => (R3.store i n hi).low hW, fun i n hi => (R3.wait i n hi).low hW, R3.two, R3.apart⟩
theorem smN_fits {ns : List Nd} (hB : BigN ns) (h : ns.length + totNs ns ≤ 1048576) : SmN ns := fun i n hi => by
  have h1 := totNs_mem (List.mem_of_getElem? hi)
  obtain ⟨b1, b2⟩ := hB n (List.mem_of_getElem? hi)
  unfold totN at h1
  exact ⟨⟨by omega, by omega⟩, fun v hv => ⟨by have := tot_mem hv; omega, (b1.2 v hv).2⟩, fun v hv => ⟨by have := tot_mem hv; omega, (b2.2 v hv).2⟩⟩
theorem smN_small {ns : List Nd} (h : SmN ns) : SmallN ns := fun n hn => by
  obtain ⟨i, hi⟩ := List.getElem?_of_mem hn
  obtain ⟨⟨h1, h2⟩, h3, h4⟩ := h i n hi
  exact ⟨h1, h2, fun v hv => (h3 v hv).1, fun v hv => (h4 v hv).1⟩
end Go.Proofs.YtnaggcdhimcilaaGreat
/- Rows of logs: how they are read, their size; rows of logs in memory of their own: how they are compared, marked, and the marks found again. Condition: what is said of each. -/
namespace Go.Proofs.YtnaggcdhimcilaaGreat
open Go.RowKit Go.Joins
attribute [local go_sem ↓] Go.wp_at_zero Go.wp_at_succ

theorem small_tags {us : List V} (h : Small us) : ∀ v ∈ us, v.ts.length ≤ 1048576 := fun v hv => (h v hv).1
/-- A log as it lies in memory. -/
structure Lg where
  a : Option Addr
  c : Nat
  vs : List V
/-- A slice that reads as these logs, in old memory (below block B). -/
def Lgs (w : World) (B : Nat) (a : Option Addr) (ls : List Lg) : Prop :=
  ls = [] ∨ ∃ b off : Nat, a = some ⟨b, off, none⟩ ∧ b < B ∧ ∀ (i : Nat) l, ls[i]? = some l → w.cell? ⟨b, off + i, none⟩ = some (.slice l.a l.vs.length l.c) ∧ Vg w B l.a l.vs
theorem Lgs.on {w w' : World} {B : Nat} {a : Option Addr} {ls : List Lg} (h : Lgs w B a ls) (hb : Below B w w') : Lgs w' B a ls := by
  rcases h with h | ⟨b, off, ha, hlt, hx⟩
  · exact .inl h
  · exact .inr ⟨b, off, ha, hlt, fun i n hi => ⟨(hb.cell (p := ⟨b, off + i, none⟩) hlt).trans (hx i n hi).1, (hx i n hi).2.on hb⟩⟩
theorem Lgs.up {w : World} {B B' : Nat} {a : Option Addr} {ls : List Lg} (h : Lgs w B a ls) (hB : B ≤ B') : Lgs w B' a ls := by
  rcases h with h | ⟨b, off, ha, hlt, hx⟩
  · exact .inl h
  · exact .inr ⟨b, off, ha, by omega, fun i n hi => ⟨(hx i n hi).1, (hx i n hi).2.up hB⟩⟩
/-- How much these logs weigh beside their number. -/
def totG (l : Lg) : Nat := l.vs.length + tot l.vs
def totL (ls : List Lg) : Nat := (ls.map totG).sum
theorem totL_step {ls : List Lg} {k : Nat} {n : Lg} (h : ls[k]? = some n) : totL (ls.take (k + 1)) = totL (ls.take k) + totG n := by
  unfold totL
  rw [List.take_add_one, h]
  simp
theorem totL_all (ls : List Lg) : totL (ls.take ls.length) = totL ls := by rw [List.take_length]
theorem totL_le (ls : List Lg) (k : Nat) : totL (ls.take k) ≤ totL ls := by
  have h : ls = ls.take k ++ ls.drop k := (List.take_append_drop k ls).symm
  have e : totL ls = totL (ls.take k) + totL (ls.drop k) := by
    unfold totL
    rw [← List.sum_append, ← List.map_append, ← h]
  omega
theorem totL_mem {ls : List Lg} {n : Lg} (h : n ∈ ls) : totG n ≤ totL ls := by
  obtain ⟨k, hk⟩ := List.getElem?_of_mem h
  have h1 := totL_step hk
  have h2 := totL_le ls (k + 1)
  omega
def BigL (ls : List Lg) : Prop := ∀ l ∈ ls, BigV l.vs
set_option maxRecDepth 100000 in
set_option maxHeartbeats 2000000 in
theorem szVerSS_fits (a : Option Addr) (c : Nat) (ls : List Lg) (left : Int) (w : World) (h0 : left ≤ 1048576) (hf : (ls.length : Int) + totL ls ≤ left) (hv : Lgs w w.heap.size a ls) :
    Calls Tryz.prog 19 #[.slice a ls.length c, .int .i64 left] w fun e w' => e = .returned (.int .i64 (left - ls.length - totL ls)) ∧ Below w.heap.size w w' := by
  have HF := hide hf
  have HT : Hid (totL (ls.take ls.length) = totL ls) := totL_all ls
  generalize hnn : ls.length = n at *
  have HN := hide hnn
  have h1 : ¬ (left - (n : Int) < 0) := by omega
  have h2 : 0 ≤ left := by omega
  have h3 : (n : Int) ≤ left := by omega
  clear hnn hf
  go_enter Tryz.func19, Tryz.ntmps19
  go_wp2
  go_loopw [1, 5] (fun r i wr => ∃ (k : Nat) (m : Int), k ≤ n ∧ i = .int .i64 (k : Int) ∧ r = .int .i64 m ∧ Hid (m = left - n - totL (ls.take k)) ∧ Below w.heap.size w wr) (fun _ i _ => n - (intOf i).toNat)
  case atStart => exact ⟨0, _, Nat.zero_le _, rfl, rfl, by unfold Hid totL; simp, Below.refl _ _⟩
  case round =>
    obtain ⟨k, m, hk, rfl, rfl, hm, hL⟩ := hrel
    by_cases hlt : k < n
    · rcases hv with e0 | ⟨b, off, rfl, hb, hx⟩
      · have := HN.out; subst e0; simp at this; omega
      · have hkl : k < ls.length := by have := HN.out; omega
        obtain ⟨n0, hV⟩ := hx k _ (List.getElem?_eq_getElem hkl)
        have HX := hide (List.getElem?_eq_getElem hkl)
        generalize ls[k] = nd at n0 hV HX
        have q0 := (hL.cell (p := ⟨b, off + k, none⟩) hb).trans n0
        have HV := hide ((hV.on hL).up hL.size)
        have st := totL_step HX.out
        have le := totL_le ls (k + 1)
        have ED : Hid ((totG nd : Int) = (nd.vs.length : Int) + tot nd.vs) := by unfold Hid totG; omega
        have H1 : Hid ((totG nd : Int) ≤ m ∧ m ≤ 1048576) := by
          have := hm.out; have := HF.out; unfold Hid; omega
        have H2 : Hid (m - (nd.vs.length : Int) - (tot nd.vs : Int) = left - n - totL (ls.take (k + 1))) := by
          have := hm.out; have := ED.out; unfold Hid; omega
        have h5 : ¬ (m - (nd.vs.length : Int) - (tot nd.vs : Int) < 0) := by have := H1.out; have := ED.out; omega
        clear st le n0 hV hx
        have i1 : (0 : Int) ≤ (k : Int) := by omega
        have i2 : (k : Int) < (n : Int) := by omega
        go_wp2_with fail
        refine (szVerS_fits nd.a nd.c nd.vs m _ H1.out.2 (by have := H1.out; have := ED.out; omega) HV.out).mono ?_
        rintro e w1 ⟨rfl, hb1⟩
        have hL1 := hL.trans (hb1.mono hL.size)
        generalize m - (nd.vs.length : Int) - (tot nd.vs : Int) = tn at H2 h5 ⊢
        go_wp2
        exact ⟨⟨k + 1, _, by omega, by go_num, rfl, H2, hL1⟩, by simp [intOf]; omega⟩
    · have hkn : k = n := by omega
      subst hkn
      clear hlt
      go_wp2
      go_ret
      exact ⟨ret_int (by rw [hm.out, HT.out]), hL⟩
set_option maxRecDepth 100000 in
set_option maxHeartbeats 2000000 in
theorem szVerSS_not (a : Option Addr) (c : Nat) (ls : List Lg) (left : Int) (w : World) (h0 : left ≤ 1048576) (h00 : 0 ≤ left) (hl : ls.length ≤ 9223372036854775807) (hB : BigL ls) (hf : left < (ls.length : Int) + totL ls) (hv : Lgs w w.heap.size a ls) :
    Calls Tryz.prog 19 #[.slice a ls.length c, .int .i64 left] w fun e w' => e = .returned (.int .i64 (-1)) ∧ Below w.heap.size w w' := by
  have HF := hide hf
  have HM := hide hB
  clear hB
  have HT : Hid (totL (ls.take ls.length) = totL ls) := totL_all ls
  generalize hnn : ls.length = n at *
  have HN := hide hnn
  clear hnn hf
  by_cases h1 : left - (n : Int) < 0
  · go_enter Tryz.func19, Tryz.ntmps19
    go_wp2
    go_ret
    exact ⟨rfl, Below.refl _ _⟩
  · have h3 : (n : Int) ≤ left := by omega
    go_enter Tryz.func19, Tryz.ntmps19
    go_wp2
    go_loopw [1, 5] (fun r i wr => ∃ (k : Nat) (m : Int), k ≤ n ∧ i = .int .i64 (k : Int) ∧ r = .int .i64 m ∧ Hid (m = left - n - totL (ls.take k) ∧ 0 ≤ m) ∧ Below w.heap.size w wr) (fun _ i _ => n - (intOf i).toNat)
    case atStart => exact ⟨0, _, Nat.zero_le _, rfl, rfl, by unfold Hid totL; simp; omega, Below.refl _ _⟩
    case round =>
      obtain ⟨k, m, hk, rfl, rfl, hm, hL⟩ := hrel
      by_cases hlt : k < n
      · rcases hv with e0 | ⟨b, off, rfl, hb, hx⟩
        · have := HN.out; subst e0; simp at this; omega
        · have hkl : k < ls.length := by have := HN.out; omega
          obtain ⟨n0, hV⟩ := hx k _ (List.getElem?_eq_getElem hkl)
          have HX := hide (List.getElem?_eq_getElem hkl)
          generalize ls[k] = nd at n0 hV HX
          have q0 := (hL.cell (p := ⟨b, off + k, none⟩) hb).trans n0
          have HV := hide ((hV.on hL).up hL.size)
          have HB := hide (HM.out nd (List.mem_of_getElem? HX.out))
          have st := totL_step HX.out
          have ED : Hid ((totG nd : Int) = (nd.vs.length : Int) + tot nd.vs) := by unfold Hid totG; omega
          have H2 : Hid (m - (nd.vs.length : Int) - (tot nd.vs : Int) = left - n - totL (ls.take (k + 1))) := by
            have := hm.out; have := ED.out; unfold Hid; omega
          clear st n0 hV hx
          have i1 : (0 : Int) ≤ (k : Int) := by omega
          have i2 : (k : Int) < (n : Int) := by omega
          have H3 : Hid (m ≤ 1048576) := by have := hm.out; unfold Hid; omega
          by_cases hfit : (nd.vs.length : Int) + (tot nd.vs : Int) ≤ m
          · have h5 : ¬ (m - (nd.vs.length : Int) - (tot nd.vs : Int) < 0) := by omega
            have H4 := hide hfit
            clear hfit
            go_wp2_with fail
            refine (szVerS_fits nd.a nd.c nd.vs m _ H3.out H4.out HV.out).mono ?_
            rintro e w1 ⟨rfl, hb1⟩
            have hL1 := hL.trans (hb1.mono hL.size)
            have H5 := hide h5
            generalize m - (nd.vs.length : Int) - (tot nd.vs : Int) = tn at H2 H5 h5 ⊢
            go_wp2
            exact ⟨⟨k + 1, _, by omega, by go_num, rfl, ⟨H2.out, by have := H5.out; omega⟩, hL1⟩, by simp [intOf]; omega⟩
          · have H4 := hide hfit
            clear hfit
            go_wp2_with fail
            refine (szVerS_not nd.a nd.c nd.vs m _ H3.out hm.out.2 HB.out.1 HB.out.2 (by have := H4.out; omega) HV.out).mono ?_
            rintro e w1 ⟨rfl, hb1⟩
            have hL1 := hL.trans (hb1.mono hL.size)
            go_wp2
            go_ret
            exact ⟨rfl, hL1⟩
      · have hkn : k = n := by omega
        exfalso
        have := hm.out
        have := HT.out
        have := HF.out
        subst hkn
        omega

/-- A row of logs in a block of its own, the rows of each log in others. -/
structure LgRow (w : World) (B U G : Nat) (ls : List Lg) (cur : Array Value) : Prop where
  blk : Blk w G 33 cur
  lo : B ≤ G
  hi : G < U
  size : ls.length ≤ cur.size
  at' : ∀ (i : Nat) l, ls[i]? = some l → cur[i]? = some (.slice l.a l.vs.length l.c)
  row : ∀ (i : Nat) l, ls[i]? = some l → ResS w B U l.a l.vs
  apart : ∀ (i j : Nat) l l', i ≠ j → ls[i]? = some l → ls[j]? = some l' → ∀ g, FootS l.a l.vs g → ¬ FootS l'.a l'.vs g
theorem vers_ne_ver : (33 : TypeId) ≠ 96 := by decide
theorem vers_ne_tag : (33 : TypeId) ≠ 91 := by decide
theorem ResS.typedV {w : World} {B U : Nat} {A : Option Addr} {us : List V} (h : ResS w B U A us) {g : Nat} (hg : FootS A us g) : ∃ T cs, Blk w g T cs ∧ (T = 96 ∨ T = 91) := by
  obtain ⟨h0, G, rfl, hf⟩ := hg
  rcases h with h | ⟨G', cur, e, hO⟩
  · exact absurd h h0
  · injection e with e
    injection e with e
    subst e
    rcases hf with rfl | ⟨i, v, hi, hn, ha⟩
    · exact ⟨_, _, hO.blk, .inl rfl⟩
    · rcases hO.own i v hi with q | ⟨g', c', e1, q1, q2, q3, _⟩
      · exact absurd q hn
      · rw [e1] at ha
        injection ha with ha
        injection ha with ha
        subst ha
        exact ⟨_, _, q3, .inr rfl⟩
theorem ResS.notV {w : World} {B U G : Nat} {A : Option Addr} {us : List V} {cur : Array Value} (h : ResS w B U A us) (hb : Blk w G 33 cur) : ¬ FootS A us G := fun hf => by
  obtain ⟨T, cs, hb', hT⟩ := h.typedV hf
  have := blk_one hb hb'
  rcases hT with e | e
  · exact vers_ne_ver (this.trans e)
  · exact vers_ne_tag (this.trans e)
theorem LgRow.notG {w : World} {B U G : Nat} {ls : List Lg} {cur : Array Value} (h : LgRow w B U G ls cur) {i : Nat} {l : Lg} (hi : ls[i]? = some l) : ¬ FootS l.a l.vs G := (h.row i l hi).notV h.blk
theorem LgRow.turned {P : Nat → Prop} {w w' : World} {B U G : Nat} {ls : List Lg} {cur : Array Value} (h : LgRow w B U G ls cur) (ht : Turn P w w') (hg : ¬ P G) (hp : ∀ (i : Nat) l, ls[i]? = some l → ∀ g, FootS l.a l.vs g → ¬ P g) : LgRow w' B U G ls cur :=
  ⟨h.blk.turned ht hg, h.lo, h.hi, h.size, h.at', fun i l hi => (h.row i l hi).turnF ht (hp i l hi), h.apart⟩
theorem LgRow.on {w w' : World} {B U G : Nat} {ls : List Lg} {cur : Array Value} (h : LgRow w B U G ls cur) (hb : Below w.heap.size w w') : LgRow w' B U G ls cur := h.turned (P := fun _ => False) (.below hb) (fun h => h) (fun _ _ _ _ _ h => h)
theorem LgRow.wide {w : World} {B B' U U' G : Nat} {ls : List Lg} {cur : Array Value} (h : LgRow w B U G ls cur) (hB : B' ≤ B) (hU : U ≤ U') : LgRow w B' U' G ls cur :=
  ⟨h.blk, by have := h.lo; omega, by have := h.hi; omega, h.size, h.at', fun i l hi => ((h.row i l hi).wide hU).low hB, h.apart⟩
theorem LgRow.lgs {w : World} {B U G : Nat} {ls : List Lg} {cur : Array Value} (h : LgRow w B U G ls cur) : Lgs w w.heap.size (some ⟨G, 0, none⟩) ls :=
  .inr ⟨G, 0, rfl, h.blk.inside, fun i l hi => ⟨by rw [Nat.zero_add, h.blk.at]; exact h.at' i l hi, (h.row i l hi).vg⟩⟩
/-- A row of logs grows by one, whose memory is new. -/
theorem lgrow_step {w : World} {B U U' G k : Nat} {us : List Lg} {cur : Array Value} {n : Lg} (h : LgRow w B U G us cur) (hU : U ≤ U') (hBU : B ≤ U) (hk : us.length = k) (hs : ResS w U U' n.a n.vs) (hsz : k < cur.size) :
    LgRow (w.setCell ⟨G, k, none⟩ (.slice n.a n.vs.length n.c)) B U' G (us ++ [n]) (cur.setIfInBounds k (.slice n.a n.vs.length n.c)) := by
  have ht : Turn (fun g => g = G) w (w.setCell ⟨G, k, none⟩ (.slice n.a n.vs.length n.c)) := (Turn.refl (fun g => g = G) w).set (p := ⟨G, k, none⟩) rfl _
  have hhi := h.hi
  have hlo := h.lo
  refine ⟨h.blk.put _ _, h.lo, by omega, by simp only [List.length_append, List.length_singleton, Array.size_setIfInBounds]; omega, fun i x hx => ?_, fun i x hx => ?_, fun i j x y hne hx hy => ?_⟩
  · rcases snoc_get hk i x hx with ⟨rfl, rfl⟩ | ⟨e, hx⟩
    · simp [Array.getElem?_setIfInBounds]; omega
    · rw [Array.getElem?_setIfInBounds_ne (by omega)]
      exact h.at' i x hx
  · rcases snoc_get hk i x hx with ⟨rfl, rfl⟩ | ⟨e, hx⟩
    · exact (hs.turnF ht (fun g hf e => by have := hs.foot hf; omega)).low hBU
    · exact ((h.row i x hx).turnF ht (fun g hf e => h.notG hx (e ▸ hf))).wide hU
  · rcases snoc_get hk i x hx with ⟨e1, e2⟩ | ⟨e, hq⟩ <;> rcases snoc_get hk j y hy with ⟨e3, e4⟩ | ⟨e', hq'⟩
    · omega
    · rw [e2]; exact fun g hf hf' => by have := hs.foot hf; have := (h.row j y hq').foot hf'; omega
    · rw [e4]; exact fun g hf hf' => by have := hs.foot hf'; have := (h.row i x hq).foot hf; omega
    · exact h.apart i j x y hne hq hq'
/-- Logs that say the same. -/
def LLs (us ls : List Lg) : Prop := us.length = ls.length ∧ ∀ (i : Nat) u l, us[i]? = some u → ls[i]? = some l → LL u.vs l.vs
/-- Logs of few versions. -/
def SmL (ls : List Lg) : Prop := ∀ l ∈ ls, l.vs.length ≤ 1048576 ∧ Small l.vs
theorem vers_info : (Tryz.prog.info? 33).map (fun i => (i.zero, i.size, i.bytes)) = some (some (.slice none 0 0), 1, 24) := by kernel_rfl
/-- What toVerSS leaves: a copy in memory of its own. -/
def CopiedL (w : World) (ls : List Lg) (e : Ending) (w' : World) : Prop :=
  ∃ (g : Nat) (us : List Lg) (cur : Array Value), e = .returned (.slice (some ⟨g, 0, none⟩) ls.length ls.length) ∧ LLs us ls ∧ (∀ l ∈ us, l.c = l.vs.length) ∧ LgRow w' w.heap.size w'.heap.size g us cur ∧ Below w.heap.size w w'
set_option maxRecDepth 100000 in
set_option maxHeartbeats 2000000 in
theorem toVerSS_own (a : Option Addr) (c : Nat) (ls : List Lg) (w : World) (hn : ls.length ≤ 1048576) (hm : SmL ls) (hv : Lgs w w.heap.size a ls) :
    Calls Tryz.prog 27 #[.slice a ls.length c] w (CopiedL w ls) := by
  obtain ⟨i0, hi0, hz0, hz1, hz2⟩ := info_parts vers_info
  have hmk : ∀ W : World, (Instr.makeSlice 34 (.int .i64 (ls.length : Int)) (.int .i64 (ls.length : Int))).run Tryz.prog W = .ok (.slice (some ⟨W.heap.size, 0, none⟩) ls.length ls.length) (W.alloc (.cells (madeCells (Value.slice none 0 0).cells (ls.length * 1)) 33)) := by
    intro W
    have hr := run_make (P := Tryz.prog) W 34 33 i0 _ Tryz.underlying34 hi0 hz0 .i64 .i64 (ls.length : Int) (ls.length : Int) (by omega) (by omega) (by rw [hz2]; omega) (by omega)
    rw [hz1] at hr
    simpa using hr
  have HM := hide hm
  clear hm
  generalize hn' : ls.length = n at *
  have HN := hide hn'
  clear hn'
  go_enter Tryz.func27, Tryz.ntmps27
  go_wp2
  clear hmk hi0 hz0 hz1 hz2
  have B0 := Blk.made w 33 (madeCells #[.slice none 0 0] n)
  have L0 := below_alloc1 w (.cells (madeCells #[.slice none 0 0] n) 33)
  go_loopw [4] (fun i wr => ∃ (k : Nat) (cur : Array Value) (us : List Lg), k ≤ n ∧ i = .int .i64 (k : Int) ∧ Hid (us.length = k) ∧ Hid (∀ l ∈ us, l.c = l.vs.length) ∧ LgRow wr w.heap.size wr.heap.size w.heap.size us cur ∧ cur.size = n ∧ Hid (∀ (i : Nat) v v', us[i]? = some v → ls[i]? = some v' → LL v.vs v'.vs) ∧ Below w.heap.size w wr) (fun i _ => n - (intOf i).toNat)
  case atStart => exact ⟨0, _, [], Nat.zero_le _, rfl, rfl, fun l hl => by simp at hl, ⟨B0, Nat.le_refl _, by simp, by simp, fun i v hi => by simp at hi, fun i v hi => by simp at hi, fun i j v v' _ hi => by simp at hi⟩, by rw [size_madeCells], fun i v v' hi => by simp at hi, L0⟩
  case round =>
    obtain ⟨k, cur, us, hk, rfl, hus, hcp, hR, hsz, hli, hL⟩ := hrel
    by_cases hlt : k < n
    · rcases hv with h0 | ⟨b, off, rfl, hb, hx⟩
      · have := HN.out; subst h0; simp at this; omega
      · have hkl : k < ls.length := by have := HN.out; omega
        obtain ⟨n0, hV⟩ := hx k _ (List.getElem?_eq_getElem hkl)
        have HX := hide (List.getElem?_eq_getElem hkl)
        generalize ls[k] = nd at n0 hV HX
        have HB := hide (HM.out nd (List.mem_of_getElem? HX.out))
        have q0 := (hL.cell (p := ⟨b, off + k, none⟩) hb).trans n0
        have HV := hide ((hV.on hL).up hL.size)
        clear n0 hV hx
        have i1 : (0 : Int) ≤ (k : Int) := by omega
        have i2 : (k : Int) < (n : Int) := by omega
        go_wp2_with fail
        with_reducible refine (toVerS_own nd.a nd.c nd.vs wr HB.out.1 (small_tags HB.out.2) HV.out).mono ?_
        rintro e w1 ⟨g, u1, cu, rfl, hl1, hk1, hO1, hb1⟩
        have hG : w.heap.size < wr.heap.size := hR.blk.inside
        have zw1 := hb1.size
        have e1 : nd.vs.length = u1.length := hl1.symm
        rw [e1]
        have r1 : ResS w1 wr.heap.size w1.heap.size (some ⟨g, 0, none⟩) u1 := .inr ⟨g, cu, rfl, hO1⟩
        have HR := hide (lgrow_step (n := ⟨some ⟨g, 0, none⟩, u1.length, u1⟩) (hR.on hb1) zw1 (by omega) hus.out r1 (show k < cur.size by omega))
        have HL : Hid (∀ (i : Nat) v v', (us ++ [(⟨some ⟨g, 0, none⟩, u1.length, u1⟩ : Lg)])[i]? = some v → ls[i]? = some v' → LL v.vs v'.vs) := fun i v v' hi hi' => by
          rcases snoc_get hus.out i v hi with ⟨rfl, rfl⟩ | ⟨_, hq⟩
          · have := HX.out
            rw [this] at hi'
            injection hi' with hi'
            subst hi'
            exact ⟨hl1, hk1⟩
          · exact hli.out i v v' hq hi'
        have HC : Hid (∀ l ∈ us ++ [(⟨some ⟨g, 0, none⟩, u1.length, u1⟩ : Lg)], l.c = l.vs.length) := fun l hl => by
          rcases List.mem_append.1 hl with h | h
          · exact hcp.out l h
          · rw [List.mem_singleton.1 h]
        have B1 := hR.blk.on hb1
        have hs0 : k < cur.size := by omega
        have d0 : w1.cell? ⟨w.heap.size, k, none⟩ = some cur[k] := by rw [B1.at]; exact Array.getElem?_eq_getElem hs0
        have f0 := B1.loose k
        have hL1 := hL.trans (hb1.mono hL.size)
        have HU : Hid ((us ++ [(⟨some ⟨g, 0, none⟩, u1.length, u1⟩ : Lg)]).length = k + 1) := by
          unfold Hid
          rw [List.length_append, hus.out]
          rfl
        clear q0 hR hli hus hL B1 hO1 r1 hl1 hk1 e1 hcp
        go_wp2
        exact ⟨⟨k + 1, _, _, by omega, by go_num, HU, HC, by simpa [World.setCell] using HR.out, by simp [hsz], HL, hL1.setCell (Nat.le_refl _) _⟩, by simp [intOf]; omega⟩
    · have hkn : k = n := by omega
      subst hkn
      clear hlt
      go_wp2
      go_ret
      have e := HN.out
      exact ⟨_, us, cur, by rw [e]; rfl, ⟨hus.out.trans e.symm, hli.out⟩, hcp.out, hR, hL⟩
end Go.Proofs.YtnaggcdhimcilaaGreat
/- How rows of logs are compared, marked, and the marks found again. Condition: what is said of each. -/
namespace Go.Proofs.YtnaggcdhimcilaaGreat
open Go.RowKit Go.Joins
attribute [local go_sem ↓] Go.wp_at_zero Go.wp_at_succ

/-- How many marks logs bear. -/
def wtL (ls : List Lg) : Int := (ls.map fun l => wts l.vs).sum
def mkL (k : Int) (l : Lg) : Lg := ⟨l.a, l.c, mkVs k l.vs⟩
def mkLs : Int → List Lg → List Lg
  | _, [] => []
  | k, n :: r => mkL k n :: mkLs (k + wts n.vs) r
theorem mkLs_len (k : Int) (ls : List Lg) : (mkLs k ls).length = ls.length := by
  induction ls generalizing k with
  | nil => rfl
  | cons v r ih => simp [mkLs, ih]
theorem wtL_step {ls : List Lg} {j : Nat} {n : Lg} (h : ls[j]? = some n) : wtL (ls.take (j + 1)) = wtL (ls.take j) + wts n.vs := by
  unfold wtL
  rw [List.take_add_one, h]
  simp
theorem wtL_pos (ls : List Lg) : 0 ≤ wtL ls := by
  induction ls with
  | nil => simp [wtL]
  | cons v r ih => have := wts_pos v.vs; unfold wtL at *; simp; omega
theorem wtL_le (ls : List Lg) (j : Nat) : wtL (ls.take j) ≤ wtL ls := by
  have e : wtL ls = wtL (ls.take j) + wtL (ls.drop j) := by
    unfold wtL
    rw [← List.sum_append, ← List.map_append, List.take_append_drop]
  have := wtL_pos (ls.drop j)
  omega
theorem wtL_all (ls : List Lg) : wtL (ls.take ls.length) = wtL ls := by rw [List.take_length]
theorem mkLs_at (k : Int) (ls : List Lg) (j : Nat) : (mkLs k ls)[j]? = (ls[j]?).map (mkL (k + wtL (ls.take j))) := by
  induction ls generalizing k j with
  | nil => simp [mkLs]
  | cons v r ih =>
    cases j with
    | zero => simp [mkLs, wtL]
    | succ j =>
      simp only [mkLs, List.getElem?_cons_succ, ih, List.take_succ_cons]
      congr 1
      funext x
      unfold wtL
      simp [Int.add_assoc]
/-- One log of a row is marked. -/
theorem LgRow.turn1 {w w' : World} {B U G j : Nat} {l : List Lg} {cur : Array Value} {n : Lg} {k : Int} (h : LgRow w B U G l cur) (hj : l[j]? = some n)
    (hs : ResS w' B U n.a (mkVs k n.vs)) (ht : Turn (FootS n.a n.vs) w w') : LgRow w' B U G (l.set j (mkL k n)) cur := by
  have hjl := (List.getElem?_eq_some_iff.1 hj).1
  have key : ∀ (i : Nat) x, (l.set j (mkL k n))[i]? = some x → (i = j ∧ x = mkL k n) ∨ (i ≠ j ∧ l[i]? = some x) := by
    intro i x hx
    by_cases e : i = j
    · subst e
      rw [List.getElem?_set_self hjl] at hx
      injection hx with hx
      exact .inl ⟨rfl, hx.symm⟩
    · rw [List.getElem?_set_ne (fun e' => e e'.symm)] at hx
      exact .inr ⟨e, hx⟩
  have old : ∀ (i : Nat) x, (l.set j (mkL k n))[i]? = some x → ∃ y, l[i]? = some y ∧ ∀ g, FootS x.a x.vs g → FootS y.a y.vs g := by
    intro i x hx
    rcases key i x hx with ⟨rfl, rfl⟩ | ⟨_, hy⟩
    · exact ⟨n, hj, fun g => footS_mk⟩
    · exact ⟨x, hy, fun g hg => hg⟩
  refine ⟨h.blk.turned ht (h.notG hj), h.lo, h.hi, by rw [List.length_set]; exact h.size, ?_, ?_, ?_⟩
  · intro i x hx
    rcases key i x hx with ⟨rfl, rfl⟩ | ⟨_, hy⟩
    · rw [h.at' i n hj]; simp [mkL, mkVs_len]
    · exact h.at' i x hy
  · intro i x hx
    rcases key i x hx with ⟨rfl, rfl⟩ | ⟨hne, hy⟩
    · exact hs
    · exact (h.row i x hy).turnF ht (fun g hf hn => h.apart j i n x (fun e => hne e.symm) hj hy g hn hf)
  · intro i i' x x' hne hx hx' g h1 h2
    obtain ⟨y, hy, e⟩ := old i x hx
    obtain ⟨y', hy', e'⟩ := old i' x' hx'
    exact h.apart i i' y y' hne hy hy' g (e g h1) (e' g h2)
/-- The blocks of the rows of logs. -/
def FootG (ls : List Lg) (g : Nat) : Prop := ∃ (i : Nat) (l : Lg), ls[i]? = some l ∧ FootS l.a l.vs g
/-- Logs of few versions. -/
def FewL (ls : List Lg) : Prop := ∀ l ∈ ls, l.vs.length ≤ 1048576 ∧ ∀ v ∈ l.vs, v.ts.length ≤ 1048576
def MarkedLF (w : World) (B U G : Nat) (ls : List Lg) (k : Int) (e : Ending) (w' : World) : Prop :=
  e = .returned (.int .i64 (k + wtL ls)) ∧ (∃ cur, LgRow w' B U G (mkLs k ls) cur) ∧ Turn (FootG ls) w w'
set_option maxRecDepth 100000 in
set_option maxHeartbeats 4000000 in
theorem markVerSS_foot (B U G c : Nat) (ls : List Lg) (cur : Array Value) (k : Int) (w : World) (hR : LgRow w B U G ls cur) (hm : FewL ls) (hn : ls.length ≤ 1048576) (hk0 : 1 ≤ k) (hk : k + wtL ls ≤ 8388000) :
    Calls Tryz.prog 38 #[.slice (some ⟨G, 0, none⟩) ls.length c, .int .i64 k] w (MarkedLF w B U G ls k) := by
  have HM := hide hm
  clear hm
  have HT : Hid (wtL (ls.take ls.length) = wtL ls) := wtL_all ls
  generalize hnn : ls.length = n at *
  have HN := hide hnn
  clear hnn
  go_enter Tryz.func38, Tryz.ntmps38
  go_wp2
  go_loopw [1, 5] (fun v i wr => ∃ (j : Nat) (m : Int) (l : List Lg), j ≤ n ∧ i = .int .i64 (j : Int) ∧ v = .int .i64 m ∧ Hid (m = k + wtL (ls.take j)) ∧ LgRow wr B U G l cur ∧ Hid (l.length = n ∧ (∀ i, i < j → l[i]? = (mkLs k ls)[i]?) ∧ ∀ i, j ≤ i → l[i]? = ls[i]?) ∧ Turn (FootG ls) w wr) (fun _ i _ => n - (intOf i).toNat)
  case atStart => exact ⟨0, k, ls, Nat.zero_le _, rfl, rfl, by unfold Hid wtL; simp, hR, ⟨HN.out, fun i hi => absurd hi (by omega), fun _ _ => rfl⟩, Turn.refl _ _⟩
  case round =>
    obtain ⟨j, m, l, hj, rfl, rfl, HMM, hO, HL, hT⟩ := hrel
    clear hR
    by_cases hlt : j < n
    · obtain ⟨v, hv⟩ : ∃ v, ls[j]? = some v := ⟨_, List.getElem?_eq_getElem (by have := HN.out; omega)⟩
      have hlj : l[j]? = some v := by rw [HL.out.2.2 j (Nat.le_refl _), hv]
      have HB := hide (HM.out v (List.mem_of_getElem? hv))
      have st := wtL_step hv
      have le := wtL_le ls (j + 1)
      have ps := wtL_pos (ls.take j)
      have p1 := wts_pos v.vs
      have HV := hide hv
      have HLJ := hide hlj
      have b1 : 1 ≤ m := by have := HMM.out; omega
      have b2 : m + wts v.vs ≤ 8388000 := by have := HMM.out; omega
      have H2 : Hid (m + wts v.vs = k + wtL (ls.take (j + 1))) := by have := HMM.out; unfold Hid; omega
      have d0 := (hO.blk.at j).trans (hO.at' j v hlj)
      have HO := hide hO
      have RS := hide (hO.row j v hlj)
      have HTT := hide hT
      have i1 : (0 : Int) ≤ (j : Int) := by omega
      have i2 : (j : Int) < (n : Int) := by omega
      clear st le ps hv hlj hO hT
      go_wp2_with fail
      refine (markSF_any B U v.a v.c v.vs m wr RS.out HB.out.2 HB.out.1 (by omega) (by omega)).mono ?_
      rintro e w1 ⟨rfl, hM1, T1⟩
      have HR9 : Hid (LgRow w1 B U G (l.set j (mkL m v)) cur) := HO.out.turn1 HLJ.out hM1 T1
      have HT9 : Hid (Turn (FootG ls) w w1) := HTT.out.trans ⟨T1.os, T1.tape, T1.output, T1.size, fun i hi hn => T1.block i hi (fun e => hn ⟨j, v, HV.out, e⟩)⟩
      have HL9 : Hid ((l.set j (mkL m v)).length = n ∧ (∀ i, i < j + 1 → (l.set j (mkL m v))[i]? = (mkLs k ls)[i]?) ∧ ∀ i, j + 1 ≤ i → (l.set j (mkL m v))[i]? = ls[i]?) := by
        refine ⟨by rw [List.length_set]; exact HL.out.1, fun i hi => ?_, fun i hi => ?_⟩
        · by_cases e : i = j
          · subst e
            rw [List.getElem?_set_self (by have := HL.out.1; omega), mkLs_at, HV.out, ← HMM.out]
            rfl
          · rw [List.getElem?_set_ne (fun e' => e e'.symm)]
            exact HL.out.2.1 i (by omega)
        · rw [List.getElem?_set_ne (by omega)]
          exact HL.out.2.2 i (by omega)
      clear d0 hM1 T1 HL
      go_wp2
      exact ⟨⟨j + 1, _, _, by omega, by go_num, rfl, H2, HR9.out, HL9, HT9.out⟩, by simp [intOf]; omega⟩
    · have hjn : j = n := by omega
      subst hjn
      clear hlt
      have hl : l = mkLs k ls := by
        apply List.ext_getElem?
        intro i
        by_cases hi : i < j
        · exact HL.out.2.1 i hi
        · rw [HL.out.2.2 i (by omega), List.getElem?_eq_none (by have := HN.out; omega), List.getElem?_eq_none (by rw [mkLs_len]; have := HN.out; omega)]
      subst hl
      have HO := hide hO
      have HTT := hide hT
      clear hO hT
      go_wp2
      go_ret
      exact ⟨ret_int (by rw [HMM.out, HT.out]), ⟨cur, HO.out⟩, HTT.out⟩
set_option maxRecDepth 100000 in
set_option maxHeartbeats 4000000 in
theorem heldVerSS_row (B U G c : Nat) (ls : List Lg) (cur : Array Value) (k : Int) (w : World) (hR : LgRow w B U G (mkLs k ls) cur) (hm : FewL ls) (hn : ls.length ≤ 1048576) (hk0 : 1 ≤ k) (hk : k + wtL ls ≤ 8388000) :
    Calls Tryz.prog 41 #[.slice (some ⟨G, 0, none⟩) ls.length c, .int .i64 k] w fun e w' => e = .returned (.int .i64 (k + wtL ls)) ∧ Below w.heap.size w w' := by
  have HM := hide hm
  clear hm
  have HT : Hid (wtL (ls.take ls.length) = wtL ls) := wtL_all ls
  generalize hnn : ls.length = n at *
  have HN := hide hnn
  clear hnn
  have HR := hide hR
  clear hR
  go_enter Tryz.func41, Tryz.ntmps41
  go_wp2
  go_loopw [1, 5] (fun v i wr => ∃ (j : Nat) (m : Int), j ≤ n ∧ i = .int .i64 (j : Int) ∧ v = .int .i64 m ∧ Hid (m = k + wtL (ls.take j)) ∧ Hid (Below w.heap.size w wr)) (fun _ i _ => n - (intOf i).toNat)
  case atStart => exact ⟨0, k, Nat.zero_le _, rfl, rfl, by unfold Hid wtL; simp, Below.refl _ _⟩
  case round =>
    obtain ⟨j, m, hj, rfl, rfl, HMM, hL⟩ := hrel
    have hRw := HR.out.on hL.out
    by_cases hlt : j < n
    · obtain ⟨v, hv⟩ : ∃ v, ls[j]? = some v := ⟨_, List.getElem?_eq_getElem (by have := HN.out; omega)⟩
      have hmj : (mkLs k ls)[j]? = some (mkL m v) := by rw [mkLs_at, hv, HMM.out]; rfl
      have HB := hide (HM.out v (List.mem_of_getElem? hv))
      have st := wtL_step hv
      have le := wtL_le ls (j + 1)
      have ps := wtL_pos (ls.take j)
      have p1 := wts_pos v.vs
      have b1 : 1 ≤ m := by have := HMM.out; omega
      have b2 : m + wts v.vs ≤ 8388000 := by have := HMM.out; omega
      have H2 : Hid (m + wts v.vs = k + wtL (ls.take (j + 1))) := by have := HMM.out; unfold Hid; omega
      have q0 := hRw.at' j _ hmj
      have RS : Hid (ResS wr B U v.a (mkVs m v.vs)) := hRw.row j _ hmj
      simp only [mkL, mkVs_len] at q0
      have d0 := (hRw.blk.at j).trans q0
      have i1 : (0 : Int) ≤ (j : Int) := by omega
      have i2 : (j : Int) < (n : Int) := by omega
      clear st le ps hv hmj q0 hRw
      go_wp2_with fail
      refine (heldSF_any B U v.a v.c v.vs m wr RS.out HB.out.2 HB.out.1 (by omega) (by omega)).mono ?_
      rintro e w1 ⟨rfl, hb1⟩
      have hpos : ¬ (m + wts v.vs < 0) := by omega
      have HB2 : Hid (Below w.heap.size w w1) := hL.out.trans (hb1.mono hL.out.size)
      clear d0 hb1
      go_wp2
      exact ⟨⟨j + 1, _, by omega, by go_num, rfl, H2, HB2⟩, by simp [intOf]; omega⟩
    · have hjn : j = n := by omega
      subst hjn
      clear hlt hRw
      go_wp2
      go_ret
      exact ⟨ret_int (by rw [HMM.out, HT.out]), hL.out⟩
set_option maxRecDepth 100000 in
set_option maxHeartbeats 4000000 in
theorem eqVerSS_same (a a' : Option Addr) (c c' : Nat) (ls us : List Lg) (w : World) (hn : ls.length ≤ 1048576) (hl : LLs ls us) (hm : FewL ls) (hv : Lgs w w.heap.size a ls) (hu : Lgs w w.heap.size a' us) :
    Calls Tryz.prog 35 #[.slice a ls.length c, .slice a' us.length c'] w fun e w' => e = .returned (.bool true) ∧ Below w.heap.size w w' := by
  have HK := hide hl.2
  have HM := hide hm
  have HV := hide hv
  have HW := hide hu
  have hun := hl.1
  rw [← hun]
  generalize hvn : ls.length = n at *
  have HN := hide hvn
  have HU := hide hun
  clear hvn hun hl hm hv hu
  go_enter Tryz.func35, Tryz.ntmps35
  go_wp2
  go_loopw [5] (fun i wr => ∃ k : Nat, k ≤ n ∧ i = .int .i64 (k : Int) ∧ Hid (Below w.heap.size w wr)) (fun i _ => n - (intOf i).toNat)
  case atStart => exact ⟨0, Nat.zero_le _, rfl, Below.refl _ _⟩
  case round =>
    obtain ⟨k, hk, rfl, hL⟩ := hrel
    by_cases hlt : k < n
    · rcases HV.out with h0 | ⟨b, off, rfl, hb, hx⟩
      · have := HN.out; rw [h0] at this; simp at this; omega
      rcases HW.out with h0 | ⟨b', off', rfl, hb', hx'⟩
      · have := HU.out; rw [h0] at this; simp at this; omega
      obtain ⟨v, hv⟩ : ∃ v, ls[k]? = some v := ⟨_, List.getElem?_eq_getElem (by have := HN.out; omega)⟩
      obtain ⟨u, hu⟩ : ∃ u, us[k]? = some u := ⟨_, List.getElem?_eq_getElem (by have := HU.out; omega)⟩
      have HB := hide (HM.out v (List.mem_of_getElem? hv))
      have HE := hide (HK.out k v u hv hu)
      obtain ⟨c0, V0⟩ := hx k v hv
      obtain ⟨c1, V1⟩ := hx' k u hu
      rw [← HE.out.1] at c1
      have C0 := hide c0
      have C1 := hide c1
      have V0 := hide V0
      have V1 := hide V1
      clear hv hu c0 c1 hx hx' HV HW
      have i1 : (0 : Int) ≤ (k : Int) := by omega
      have i2 : (k : Int) < (n : Int) := by omega
      have jh : ∀ w', Below w.heap.size w w' → w'.cell? ⟨b, off + k, none⟩ = some (.slice v.a v.vs.length v.c) ∧ w'.cell? ⟨b', off' + k, none⟩ = some (.slice u.a v.vs.length u.c) ∧ Below w.heap.size w w' := fun w' hbb =>
        ⟨(hbb.cell (p := ⟨b, off + k, none⟩) hb).trans C0.out, (hbb.cell (p := ⟨b', off' + k, none⟩) hb').trans C1.out, hbb⟩
      go_wp2_with fail
      refine wp_region_noPanic ?_
      refine wp_region_held_drew (S := (fun w' => w'.cell? ⟨b, off + k, none⟩ = some (.slice v.a v.vs.length v.c) ∧ w'.cell? ⟨b', off' + k, none⟩ = some (.slice u.a v.vs.length u.c) ∧ Below w.heap.size w w')) (by kernel_rfl) (by exact jh _ hL.out.drew) (fun hHeld => ?_)
      refine mvR 0 (some 17) hHeld ?_
      refine mvR 1 (some 18) hHeld ?_
      refine mvR 2 (some 19) hHeld ?_
      refine mvR 3 (some 20) hHeld ?_
      refine mvR 4 (some 21) hHeld ?_
      refine mvR 5 (some 22) hHeld ?_
      refine mvR 6 (some 23) hHeld ?_
      refine mvR 7 (some 24) hHeld ?_
      refine take_one 8 (by kernel_rfl) rfl (fun K hK => ?_)
      go_simp
      (refine (eqVerS_same v.a u.a v.c u.c v.vs.length v.vs u.vs _ HB.out.1 rfl HE.out.1.symm HE.out.2 HB.out.2 ((V0.out.on hHeld.2.2).up hHeld.2.2.size) ((V1.out.on hHeld.2.2).up hHeld.2.2.size)).mono ?_; rintro e w1 ⟨rfl, hb1⟩)
      try go_wp2_with fail
      refine hK.out _ _ (by exact jh _ (hHeld.2.2.trans (hb1.mono hHeld.2.2.size))) (fun hHeld => ?_)
      clear hK K
      refine mvR 9 (some 26) hHeld ?_
      refine wpAnyH_done (by kernel_rfl) ?_ _
      refine NoPanic.normal ?_
      have hL2 := hide hHeld.2.2
      clear hHeld hL
      go_wp2
      exact ⟨⟨k + 1, by omega, by go_num, hL2⟩, by simp [intOf]; omega⟩
    · have hkn : k = n := by omega
      subst hkn
      clear hlt
      go_wp2
      go_ret
      exact ⟨rfl, hL.out⟩
set_option maxHeartbeats 1000000 in
theorem markVerSS_nil (A : Option Addr) (c : Nat) (k : Int) (W : World) :
    Calls Tryz.prog 38 #[.slice A 0 c, .int .i64 k] W fun e w' => e = .returned (.int .i64 k) ∧ W = w' := by
  go_enter Tryz.func38, Tryz.ntmps38
  go_wp2
  go_loop [1, 5] (fun v i => v = .int .i64 k ∧ i = .int .i64 0) (fun _ _ => 0)
  case atStart => exact ⟨rfl, rfl⟩
  case round =>
    obtain ⟨rfl, rfl⟩ := hrel
    go_wp2
    go_ret
    exact ⟨rfl, rfl⟩
set_option maxHeartbeats 1000000 in
theorem heldVerSS_nil (A : Option Addr) (c : Nat) (k : Int) (W : World) :
    Calls Tryz.prog 41 #[.slice A 0 c, .int .i64 k] W fun e w' => e = .returned (.int .i64 k) ∧ W = w' := by
  go_enter Tryz.func41, Tryz.ntmps41
  go_wp2
  go_loop [1, 5] (fun v i => v = .int .i64 k ∧ i = .int .i64 0) (fun _ _ => 0)
  case atStart => exact ⟨rfl, rfl⟩
  case round =>
    obtain ⟨rfl, rfl⟩ := hrel
    go_wp2
    go_ret
    exact ⟨rfl, rfl⟩
/-- A slice of logs that a call has made: none, or in blocks of its own from B on and below U. -/
def ResL (w : World) (B U : Nat) (A : Option Addr) (ls : List Lg) : Prop := ls = [] ∨ ∃ G cur, A = some ⟨G, 0, none⟩ ∧ LgRow w B U G ls cur
/-- The blocks of a slice of logs. -/
def FootL (A : Option Addr) (ls : List Lg) (g : Nat) : Prop := ls ≠ [] ∧ ∃ G, A = some ⟨G, 0, none⟩ ∧ (g = G ∨ FootG ls g)
theorem ResL.turnF {P : Nat → Prop} {w w' : World} {B U : Nat} {A : Option Addr} {ls : List Lg} (h : ResL w B U A ls) (ht : Turn P w w') (hp : ∀ g, FootL A ls g → ¬ P g) : ResL w' B U A ls := by
  by_cases h0 : ls = []
  · exact .inl h0
  · rcases h with h | ⟨G, cur, rfl, hO⟩
    · exact .inl h
    · exact .inr ⟨G, cur, rfl, hO.turned ht (hp G ⟨h0, G, rfl, .inl rfl⟩) (fun i l hi g hf => hp g ⟨h0, G, rfl, .inr ⟨i, l, hi, hf⟩⟩)⟩
theorem ResL.on {w w' : World} {B U : Nat} {A : Option Addr} {ls : List Lg} (h : ResL w B U A ls) (hb : Below w.heap.size w w') : ResL w' B U A ls := h.turnF (P := fun _ => False) (.below hb) (fun _ _ h => h)
theorem ResL.wide {w : World} {B B' U U' : Nat} {A : Option Addr} {ls : List Lg} (h : ResL w B U A ls) (hB : B' ≤ B) (hU : U ≤ U') : ResL w B' U' A ls := by
  rcases h with h | ⟨G, cur, h1, h2⟩
  · exact .inl h
  · exact .inr ⟨G, cur, h1, h2.wide hB hU⟩
theorem ResL.lgs {w : World} {B U : Nat} {A : Option Addr} {ls : List Lg} (h : ResL w B U A ls) : Lgs w w.heap.size A ls := by
  rcases h with h | ⟨G, cur, rfl, h2⟩
  · exact .inl h
  · exact h2.lgs
theorem ResL.foot {w : World} {B U : Nat} {A : Option Addr} {ls : List Lg} (h : ResL w B U A ls) {g : Nat} (hf : FootL A ls g) : B ≤ g ∧ g < U := by
  obtain ⟨h0, G, rfl, hf⟩ := hf
  rcases h with h | ⟨G', cur, e, h2⟩
  · exact absurd h h0
  · injection e with e
    injection e with e
    subst e
    rcases hf with rfl | ⟨i, l, hi, hf⟩
    · exact ⟨h2.lo, h2.hi⟩
    · exact (h2.row i l hi).foot hf
theorem footL_mk {A : Option Addr} {k : Int} {ls : List Lg} {g : Nat} (h : FootL A (mkLs k ls) g) : FootL A ls g := by
  obtain ⟨h0, G, ha, hf⟩ := h
  refine ⟨fun e => h0 (by rw [e]; rfl), G, ha, ?_⟩
  rcases hf with h | ⟨i, l, hi, hf⟩
  · exact .inl h
  · rw [mkLs_at] at hi
    cases hx : ls[i]? with
    | none => rw [hx] at hi; cases hi
    | some x =>
      rw [hx] at hi
      simp only [Option.map_some] at hi
      injection hi with hi
      subst hi
      exact .inr ⟨i, x, hx, footS_mk hf⟩
theorem markResL_any (B U : Nat) (A : Option Addr) (c : Nat) (ls : List Lg) (k : Int) (w : World) (hR : ResL w B U A ls) (hm : FewL ls) (hn : ls.length ≤ 1048576) (hk0 : 1 ≤ k) (hk : k + wtL ls ≤ 8388000) :
    Calls Tryz.prog 38 #[.slice A ls.length c, .int .i64 k] w fun e w' => e = .returned (.int .i64 (k + wtL ls)) ∧ ResL w' B U A (mkLs k ls) ∧ Turn (FootL A ls) w w' := by
  by_cases h0 : ls = []
  · subst h0
    exact (markVerSS_nil A c k w).mono fun e w' ⟨he, hw⟩ => ⟨by rw [he]; simp [wtL], .inl rfl, by rw [← hw]; exact Turn.refl _ _⟩
  · rcases hR with h | ⟨G, cur, rfl, hO⟩
    · exact absurd h h0
    · exact (markVerSS_foot B U G c ls cur k w hO hm hn hk0 hk).mono fun e w' ⟨he, ⟨cur', h1⟩, h2⟩ => ⟨he, .inr ⟨G, cur', rfl, h1⟩, ⟨h2.os, h2.tape, h2.output, h2.size, fun i hi hn => h2.block i hi (fun hf => hn ⟨h0, G, rfl, .inr hf⟩)⟩⟩
theorem heldResL_any (B U : Nat) (A : Option Addr) (c : Nat) (ls : List Lg) (k : Int) (w : World) (hR : ResL w B U A (mkLs k ls)) (hm : FewL ls) (hn : ls.length ≤ 1048576) (hk0 : 1 ≤ k) (hk : k + wtL ls ≤ 8388000) :
    Calls Tryz.prog 41 #[.slice A ls.length c, .int .i64 k] w fun e w' => e = .returned (.int .i64 (k + wtL ls)) ∧ Below w.heap.size w w' := by
  by_cases h0 : ls = []
  · subst h0
    exact (heldVerSS_nil A c k w).mono fun e w' ⟨he, hw⟩ => ⟨by rw [he]; simp [wtL], by rw [← hw]; exact Below.refl _ _⟩
  · rcases hR with h | ⟨G, cur, rfl, hO⟩
    · have := mkLs_len k ls
      rw [h] at this
      exact absurd (List.length_eq_zero_iff.1 this.symm) h0
    · exact heldVerSS_row B U G c ls cur k w hO hm hn hk0 hk
end Go.Proofs.YtnaggcdhimcilaaGreat
