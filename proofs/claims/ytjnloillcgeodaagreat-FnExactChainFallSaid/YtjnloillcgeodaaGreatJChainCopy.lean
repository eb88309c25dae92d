/- Copies of chains in memory of their own. Condition: as many versions and tags as a law lets by. -/
import Derived.Test.YtjnloillcgeodaaGreatJLiftC
namespace Go.Proofs.YtjnloillcgeodaaGreat
open Go.RowKit Go.Joins
attribute [local go_sem ↓] Go.wp_at_zero Go.wp_at_succ

theorem ResS.wide {w : World} {B U U' : Nat} {A : Option Addr} {us : List V} (h : ResS w B U A us) (hu : U ≤ U') : ResS w B U' A us := by
  rcases h with h | ⟨G, cur, h1, h2⟩
  · exact .inl h
  · exact .inr ⟨G, cur, h1, h2.wide hu⟩
theorem ResS.low {w : World} {B B' U : Nat} {A : Option Addr} {us : List V} (h : ResS w B U A us) (hb : B' ≤ B) : ResS w B' U A us := by
  rcases h with h | ⟨G, cur, h1, h2⟩
  · exact .inl h
  · exact .inr ⟨G, cur, h1, h2.low hb⟩
theorem ResS.foot {w : World} {B U : Nat} {A : Option Addr} {us : List V} (h : ResS w B U A us) {g : Nat} (hf : FootS A us g) : B ≤ g ∧ g < U := by
  obtain ⟨_, _, _, _, h1⟩ := h.typed hf
  exact h1
theorem snoc_get {α : Type} {us : List α} {n : α} {k : Nat} (hk : us.length = k) (i : Nat) (x : α) (hx : (us ++ [n])[i]? = some x) : (i = k ∧ x = n) ∨ (i < k ∧ us[i]? = some x) := by
  by_cases e : i < us.length
  · rw [List.getElem?_append_left e] at hx
    exact .inr ⟨by omega, hx⟩
  · rw [List.getElem?_append_right (by omega)] at hx
    have h0 : i - us.length = 0 := by
      have := (List.getElem?_eq_some_iff.1 hx).1
      simp at this
      omega
    rw [h0] at hx
    simp at hx
    exact .inl ⟨by omega, hx.symm⟩
abbrev put2 (cur : Array Value) (k : Nat) (n : Nd) : Array Value := (cur.setIfInBounds (k * 2) (.slice n.sa n.ss.length n.sc)).setIfInBounds (k * 2 + 1) (.slice n.wa n.ws.length n.wc)
theorem ndAt_put {cur : Array Value} {k : Nat} {n : Nd} (h : k * 2 + 1 < cur.size) : NdAt (put2 cur k n) k n := by
  refine ⟨?_, ?_⟩ <;> simp [put2, Array.getElem?_setIfInBounds] <;> omega
theorem ndAt_other {cur : Array Value} {j k : Nat} {n n' : Nd} (hj : j ≠ k) (h : NdAt cur j n) : NdAt (put2 cur k n') j n := by
  obtain ⟨h0, h1⟩ := h
  refine ⟨?_, ?_⟩
  all_goals
    unfold put2
    rw [Array.getElem?_setIfInBounds_ne (by omega), Array.getElem?_setIfInBounds_ne (by omega)]
    assumption
/-- A row of nodes grows by one, whose memory is new. -/
theorem nrow_step {w : World} {B U U' G k : Nat} {us : List Nd} {cur : Array Value} {n : Nd} (h : NRow w B U G us cur) (hU : U ≤ U') (hBU : B ≤ U) (hk : us.length = k) (hs : ResS w U U' n.sa n.ss) (hw : ResS w U U' n.wa n.ws) (h2 : ∀ g, FootS n.sa n.ss g → ¬ FootS n.wa n.ws g) (hsz : k * 2 + 1 < cur.size) :
    NRow ((w.setCell ⟨G, k * 2, none⟩ (.slice n.sa n.ss.length n.sc)).setCell ⟨G, k * 2 + 1, none⟩ (.slice n.wa n.ws.length n.wc)) B U' G (us ++ [n]) (put2 cur k n) := by
  have ht : Turn (fun g => g = G) w ((w.setCell ⟨G, k * 2, none⟩ (.slice n.sa n.ss.length n.sc)).setCell ⟨G, k * 2 + 1, none⟩ (.slice n.wa n.ws.length n.wc)) :=
    ((Turn.refl (fun g => g = G) w).set (p := ⟨G, k * 2, none⟩) rfl _).set (p := ⟨G, k * 2 + 1, none⟩) rfl _
  have hnew : ∀ g, FootN n g → U ≤ g ∧ g < U' := fun g hf => by
    rcases hf with hf | hf
    · exact hs.foot hf
    · exact hw.foot hf
  have hhi := h.hi
  refine ⟨(h.blk.put _ _).put _ _, h.lo, by omega, by simp only [List.length_append, List.length_singleton, Array.size_setIfInBounds]; omega, fun i x hx => ?_, fun i x hx => ?_, fun i x hx => ?_, fun i x hx => ?_, fun i j x y hne hx hy => ?_⟩
  · rcases snoc_get hk i x hx with ⟨rfl, rfl⟩ | ⟨e, hx⟩
    · exact ndAt_put hsz
    · exact ndAt_other (by omega) (h.at' i x hx)
  · rcases snoc_get hk i x hx with ⟨rfl, rfl⟩ | ⟨e, hx⟩
    · exact (hs.turnF ht (fun g hf e => by have := hnew g (.inl hf); omega)).low hBU
    · exact ((h.store i x hx).turnF ht (fun g hf e => h.notG hx (e ▸ .inl hf))).wide hU
  · rcases snoc_get hk i x hx with ⟨rfl, rfl⟩ | ⟨e, hx⟩
    · exact (hw.turnF ht (fun g hf e => by have := hnew g (.inr hf); omega)).low hBU
    · exact ((h.wait i x hx).turnF ht (fun g hf e => h.notG hx (e ▸ .inr hf))).wide hU
  · rcases snoc_get hk i x hx with ⟨rfl, rfl⟩ | ⟨e, hx⟩
    · exact h2
    · exact h.two i x hx
  · rcases snoc_get hk i x hx with ⟨e1, e2⟩ | ⟨e, hq⟩ <;> rcases snoc_get hk j y hy with ⟨e3, e4⟩ | ⟨e', hq'⟩
    · omega
    · rw [e2]; exact fun g hf hf' => by have := hnew g hf; have := h.range hq' hf'; omega
    · rw [e4]; exact fun g hf hf' => by have := hnew g hf'; have := h.range hq hf; omega
    · exact h.apart i j x y hne hq hq'
/-- What toNode leaves: a copy in memory of its own. -/
def CopiedN (w : World) (n : Nd) (e : Ending) (w' : World) : Prop :=
  ∃ (g h M : Nat) (us vs : List V) (cu cv : Array Value), e = .returned (.agg #[.slice (some ⟨g, 0, none⟩) n.ss.length n.ss.length, .slice (some ⟨h, 0, none⟩) n.ws.length n.ws.length]) ∧ LL us n.ss ∧ LL vs n.ws ∧ ORow w' w.heap.size M g us cu ∧ ORow w' M w'.heap.size h vs cv ∧ w.heap.size ≤ M ∧ M ≤ w'.heap.size ∧ Below w.heap.size w w'
set_option maxRecDepth 100000 in
set_option maxHeartbeats 2000000 in
theorem toNode_own (n : Nd) (w : World) (hn : n.ss.length ≤ 1048576 ∧ n.ws.length ≤ 1048576) (hm : Small n.ss) (hm' : Small n.ws) (hv : Vg w w.heap.size n.sa n.ss) (hw : Vg w w.heap.size n.wa n.ws) :
    Calls Tryz.prog 81 #[.agg #[.slice n.sa n.ss.length n.sc, .slice n.wa n.ws.length n.wc]] w (CopiedN w n) := by
  obtain ⟨sa, sc, ss, wa, wc, ws⟩ := n
  simp only at hn hm hm' hv hw ⊢
  have S0 := (((Inv.start w).box 120 #[.slice sa ss.length sc, .slice wa ws.length wc]).box 37 #[.slice none 0 0, .slice none 0 0]).box 37 #[.slice none 0 0, .slice none 0 0]
  simp only [World.size_alloc] at S0
  have q0 := (S0.nth 2 rfl).two.1
  have HM : Hid (∀ v ∈ ss, v.ts.length ≤ 1048576) := fun v hv => (hm v hv).1
  have HM' : Hid (∀ v ∈ ws, v.ts.length ≤ 1048576) := fun v hv => (hm' v hv).1
  have HW := hide hw
  have HV := hide hv
  clear hm hm' hv hw
  go_enter Tryz.func81, Tryz.ntmps81
  go_wp2_with fail
  generalize (((w.alloc (.cells #[.slice sa ss.length sc, .slice wa ws.length wc] 120)).alloc (.cells #[.slice none 0 0, .slice none 0 0] 37)).alloc (.cells #[.slice none 0 0, .slice none 0 0] 37)) = W at S0 ⊢
  with_reducible refine (toStore_own sa sc ss W hn.1 HM.out ((HV.out.on S0.below).up S0.base)).mono ?_
  rintro e w1 ⟨g, us, cu, rfl, hul, hli, hO, hb1⟩
  have S1 := S0.on hb1
  have zr := S0.room
  have zr1 := S1.room
  have zw1 := hb1.size
  have HLU : Hid (LL us ss) := ⟨hul, hli⟩
  have q2 := (S1.nth 0 rfl).two
  have q1 : w1.cell? ⟨w.heap.size, 1, none⟩ = some (.slice wa ws.length wc) := (S1.nth 2 rfl).at 1
  have I2 := S1.put0 (i := 0) (by intro x hx; simp only [List.mem_cons, List.not_mem_nil, or_false] at hx; rcases hx with rfl | rfl <;> simp only <;> omega) (.slice (some ⟨g, 0, none⟩) ss.length ss.length)
  simp only [List.setIfInBounds_toArray, List.set_cons_zero] at I2
  have HO := hide (hO.turned (P := fun g => g = w.heap.size + 1 + 1) ((Turn.refl (fun g => g = w.heap.size + 1 + 1) w1).set (p := ⟨w.heap.size + 1 + 1, 0, none⟩) rfl (.slice (some ⟨g, 0, none⟩) ss.length ss.length)) (fun g h1 h2 e => by omega))
  have q3 : (w1.setCell ⟨w.heap.size + 1 + 1, 0, none⟩ (.slice (some ⟨g, 0, none⟩) ss.length ss.length)).cell? ⟨w.heap.size, 1, none⟩ = some (.slice wa ws.length wc) := (I2.nth 2 rfl).at 1
  have hsz : (w1.setCell ⟨w.heap.size + 1 + 1, 0, none⟩ (.slice (some ⟨g, 0, none⟩) ss.length ss.length)).heap.size = w1.heap.size := by simp [World.setCell]
  have HSZ := hide hsz
  clear hul hli hO S1 S0 q0 hsz
  go_wp2_with fail
  generalize w1.setCell ⟨w.heap.size + 1 + 1, 0, none⟩ (.slice (some ⟨g, 0, none⟩) ss.length ss.length) = W1 at I2 HO q3 HSZ ⊢
  with_reducible refine (toVerS_own wa wc ws W1 hn.2 HM'.out ((HW.out.on I2.below).up I2.base)).mono ?_
  rintro e w2 ⟨h, vs, cv, rfl, hvl, hlv, hO2, hb2⟩
  have I3 := I2.on hb2
  have zw2 : w1.heap.size ≤ w2.heap.size := by have := hb2.size; have := HSZ.out; omega
  have HLV : Hid (LL vs ws) := ⟨hvl, hlv⟩
  have HO1 := hide (HO.out.on hb2)
  have HO2 := hide hO2
  have B3 := (I3.nth 0 rfl)
  have B2 := (I3.nth 1 rfl)
  have k3 := B3.two
  have k2 := B2.two
  have hz1 : W1.heap.size = w1.heap.size := HSZ.out
  have glo := HO.out.lo
  have hhl : w1.heap.size ≤ h := by have := hO2.lo; omega
  have HBL := hide I3.below
  clear q2 q3 hvl hlv hO2 I2 q1
  go_wp2
  refine bodyPost_ret (v := .agg #[.slice (some ⟨g, 0, none⟩) ss.length ss.length, .slice (some ⟨h, 0, none⟩) ws.length ws.length]) (by simp [results, Tryz.results81, go_sem, k2]) rfl ?_
  have T3 : Turn (fun g => g = w.heap.size + 1 + 1 ∨ g = w.heap.size + 1) w2 (((w2.setCell ⟨w.heap.size + 1 + 1, 1, none⟩ (.slice (some ⟨h, 0, none⟩) ws.length ws.length)).setCell ⟨w.heap.size + 1, 0, none⟩ (.slice (some ⟨g, 0, none⟩) ss.length ss.length)).setCell ⟨w.heap.size + 1, 1, none⟩ (.slice (some ⟨h, 0, none⟩) ws.length ws.length)) :=
    (((Turn.refl _ w2).set (p := ⟨w.heap.size + 1 + 1, 1, none⟩) (.inl rfl) _).set (p := ⟨w.heap.size + 1, 0, none⟩) (.inr rfl) _).set (p := ⟨w.heap.size + 1, 1, none⟩) (.inr rfl) _
  have Z3 : (((w2.setCell ⟨w.heap.size + 1 + 1, 1, none⟩ (.slice (some ⟨h, 0, none⟩) ws.length ws.length)).setCell ⟨w.heap.size + 1, 0, none⟩ (.slice (some ⟨g, 0, none⟩) ss.length ss.length)).setCell ⟨w.heap.size + 1, 1, none⟩ (.slice (some ⟨h, 0, none⟩) ws.length ws.length)).heap.size = w2.heap.size := by simp [World.setCell]
  refine ⟨g, h, w1.heap.size, us, vs, cu, cv, rfl, HLU.out, HLV.out, (HO1.out.turned T3 (fun g h1 h2 e => by omega)).low (by omega), ?_, by omega, by rw [Z3]; omega, ((HBL.out.setCell (by simp; omega) _).setCell (by simp) _).setCell (by simp) _⟩
  rw [Z3, ← hz1]
  exact HO2.out.turned T3 (fun g h1 h2 e => by omega)
/-- What toNodeS leaves: a copy in memory of its own. -/
def CopiedNO (w : World) (ns : List Nd) (e : Ending) (w' : World) : Prop :=
  ∃ (g : Nat) (us : List Nd) (cur : Array Value), e = .returned (.slice (some ⟨g, 0, none⟩) ns.length ns.length) ∧ NL us ns ∧ NRow w' w.heap.size w'.heap.size g us cur ∧ Below w.heap.size w w'
set_option maxRecDepth 100000 in
set_option maxHeartbeats 2000000 in
theorem toNodeS_own (a : Option Addr) (c : Nat) (ns : List Nd) (w : World) (hn : ns.length ≤ 1048576) (hm : SmN ns) (hv : Ng w w.heap.size a ns) :
    Calls Tryz.prog 54 #[.slice a ns.length c] w (CopiedNO w ns) := by
  obtain ⟨i0, hi0, hz0, hz1, hz2⟩ := info_parts node_info
  have hmk : ∀ W : World, (Instr.makeSlice 23 (.int .i64 (ns.length : Int)) (.int .i64 (ns.length : Int))).run Tryz.prog W = .ok (.slice (some ⟨W.heap.size, 0, none⟩) ns.length ns.length) (W.alloc (.cells (madeCells (Value.agg #[.slice none 0 0, .slice none 0 0]).cells (ns.length * 2)) 37)) := by
    intro W
    have hr := run_make (P := Tryz.prog) W 23 37 i0 _ Tryz.underlying23 hi0 hz0 .i64 .i64 (ns.length : Int) (ns.length : Int) (by omega) (by omega) (by rw [hz2]; omega) (by omega)
    rw [hz1] at hr
    simpa using hr
  have HM := hide hm
  clear hm
  generalize hn' : ns.length = n at *
  have HN := hide hn'
  clear hn'
  go_enter Tryz.func54, Tryz.ntmps54
  go_wp2
  clear hmk hi0 hz0 hz1 hz2
  have B0 := Blk.made w 37 (madeCells #[.slice none 0 0, .slice none 0 0] (n * 2))
  have L0 := below_alloc1 w (.cells (madeCells #[.slice none 0 0, .slice none 0 0] (n * 2)) 37)
  go_loopw [4] (fun i wr => ∃ (k : Nat) (cur : Array Value) (us : List Nd), k ≤ n ∧ i = .int .i64 (k : Int) ∧ Hid (us.length = k) ∧ NRow wr w.heap.size wr.heap.size w.heap.size us cur ∧ cur.size = n * 2 ∧ Hid (∀ (i : Nat) v v', us[i]? = some v → ns[i]? = some v' → Nd.like v v') ∧ Below w.heap.size w wr) (fun i _ => n - (intOf i).toNat)
  case atStart => exact ⟨0, _, [], Nat.zero_le _, rfl, rfl, ⟨B0, Nat.le_refl _, by simp, by simp, fun i v hi => by simp at hi, fun i v hi => by simp at hi, fun i v hi => by simp at hi, fun i v hi => by simp at hi, fun i j v v' _ hi => by simp at hi⟩, size_madeCells _ _, fun i v v' hi => by simp at hi, L0⟩
  case round =>
    obtain ⟨k, cur, us, hk, rfl, hus, hR, hsz, hli, hL⟩ := hrel
    by_cases hlt : k < n
    · rcases hv with h0 | ⟨b, off, rfl, hb, hx⟩
      · have := HN.out; subst h0; simp at this; omega
      · have hkl : k < ns.length := by have := HN.out; omega
        obtain ⟨⟨n0, n1⟩, hV, hW⟩ := hx k _ (List.getElem?_eq_getElem hkl)
        have HX := hide (List.getElem?_eq_getElem hkl)
        generalize ns[k] = nd at n0 n1 hV hW HX
        have HB := hide (HM.out k nd HX.out)
        have q0 := (hL.cell (p := ⟨b, off + k * 2, none⟩) hb).trans n0
        have q1 := (hL.cell (p := ⟨b, off + k * 2 + 1, none⟩) hb).trans n1
        have HV := hide ((hV.on hL).up hL.size)
        have HW := hide ((hW.on hL).up hL.size)
        clear n0 n1 hV hW hx
        have i1 : (0 : Int) ≤ (k : Int) := by omega
        have i2 : (k : Int) < (n : Int) := by omega
        go_wp2_with fail
        with_reducible refine (toNode_own nd wr HB.out.1 HB.out.2.1 HB.out.2.2 HV.out HW.out).mono ?_
        rintro e w1 ⟨g, h, M, u1, u2, cu, cv, rfl, hl1, hl2, hO1, hO2, hM1, hM2, hb1⟩
        have hG : w.heap.size < wr.heap.size := hR.blk.inside
        have zw1 := hb1.size
        have e1 : nd.ss.length = u1.length := hl1.1.symm
        have e2 : nd.ws.length = u2.length := hl2.1.symm
        rw [e1, e2]
        have r1 : ResS w1 wr.heap.size M (some ⟨g, 0, none⟩) u1 := .inr ⟨g, cu, rfl, hO1⟩
        have r2 : ResS w1 M w1.heap.size (some ⟨h, 0, none⟩) u2 := .inr ⟨h, cv, rfl, hO2⟩
        have HR := hide (nrow_step (n := ⟨some ⟨g, 0, none⟩, u1.length, u1, some ⟨h, 0, none⟩, u2.length, u2⟩) (hR.on hb1) zw1 (by omega) hus.out (r1.wide hM2) (r2.low hM1) (fun g h1 h2 => by
          have := r1.foot h1; have := r2.foot h2; omega) (show k * 2 + 1 < cur.size by omega))
        have HL : Hid (∀ (i : Nat) v v', (us ++ [(⟨some ⟨g, 0, none⟩, u1.length, u1, some ⟨h, 0, none⟩, u2.length, u2⟩ : Nd)])[i]? = some v → ns[i]? = some v' → Nd.like v v') := fun i v v' hi hi' => by
          rcases snoc_get hus.out i v hi with ⟨rfl, rfl⟩ | ⟨_, hq⟩
          · have := HX.out
            rw [this] at hi'
            injection hi' with hi'
            subst hi'
            exact ⟨hl1.1, hl1.2, hl2.1, hl2.2⟩
          · exact hli.out i v v' hq hi'
        have B1 := hR.blk.on hb1
        have hs0 : k * 2 < cur.size := by omega
        have hs1 : k * 2 + 1 < cur.size := by omega
        have d0 : w1.cell? ⟨w.heap.size, k * 2, none⟩ = some cur[k * 2] := by rw [B1.at]; exact Array.getElem?_eq_getElem hs0
        have d1 : w1.cell? ⟨w.heap.size, k * 2 + 1, none⟩ = some cur[k * 2 + 1] := by rw [B1.at]; exact Array.getElem?_eq_getElem hs1
        have f0 := B1.loose (k * 2)
        have f1 := B1.loose (k * 2 + 1)
        have hL1 := hL.trans (hb1.mono hL.size)
        have HU : Hid ((us ++ [(⟨some ⟨g, 0, none⟩, u1.length, u1, some ⟨h, 0, none⟩, u2.length, u2⟩ : Nd)]).length = k + 1) := by
          unfold Hid
          rw [List.length_append, hus.out]
          rfl
        clear q0 q1 hR hli hus hL B1 hO1 hO2 r1 r2 hl1 hl2 e1 e2
        go_wp2
        exact ⟨⟨k + 1, _, _, by omega, by go_num, HU, by simpa [World.setCell] using HR.out, by simp [hsz], HL, (hL1.setCell (Nat.le_refl _) _).setCell (Nat.le_refl _) _⟩, by simp [intOf]; omega⟩
    · have hkn : k = n := by omega
      subst hkn
      clear hlt
      go_wp2
      go_ret
      have e := HN.out
      exact ⟨_, us, cur, by rw [e]; rfl, ⟨hus.out.trans e.symm, hli.out⟩, hR, hL⟩
/-- What toChain leaves: a copy in memory of its own. -/
def CopiedC (w : World) (ns : List Nd) (e : Ending) (w' : World) : Prop :=
  ∃ (g : Nat) (us : List Nd) (cur : Array Value), e = .returned (.agg #[.slice (some ⟨g, 0, none⟩) ns.length ns.length]) ∧ NL us ns ∧ NRow w' w.heap.size w'.heap.size g us cur ∧ Below w.heap.size w w'
set_option maxRecDepth 100000 in
set_option maxHeartbeats 1000000 in
theorem toChain_own (a : Option Addr) (c : Nat) (ns : List Nd) (w : World) (hn : ns.length ≤ 1048576) (hm : SmN ns) (hv : Ng w w.heap.size a ns) :
    Calls Tryz.prog 25 #[.agg #[.slice a ns.length c]] w (CopiedC w ns) := by
  have S0 := (((Inv.start w).box 58 #[.slice a ns.length c]).box 25 #[.slice none 0 0]).box 25 #[.slice none 0 0]
  simp only [World.size_alloc] at S0
  have T0 := hv.on S0.below
  go_enter Tryz.func25, Tryz.ntmps25
  go_wp2_with fail
  generalize (((w.alloc (.cells #[.slice a ns.length c] 58)).alloc (.cells #[.slice none 0 0] 25)).alloc (.cells #[.slice none 0 0] 25)) = W at S0 T0 ⊢
  refine (toNodeS_own a c ns W hn hm (T0.up S0.base)).mono ?_
  rintro e w1 ⟨g, us, cur, rfl, hli, hR, hb1⟩
  have S1 := S0.on hb1
  have hr := S0.room
  have hl := S1.below
  obtain ⟨k0, f0⟩ := (S1.nth 0 rfl).one
  obtain ⟨k1, f1⟩ := (S1.nth 1 rfl).one
  have hW := S0.base
  have hbs := hb1.size
  have HR := hide hR
  have HL := hide hli
  clear hR hli S0 S1 T0 hv hm
  go_wp2
  refine bodyPost_ret (v := .agg #[.slice (some ⟨g, 0, none⟩) ns.length ns.length]) (by simp [results, Tryz.results25, go_sem, k1]) rfl ?_
  have T3 : Turn (fun g => g < W.heap.size) w1 ((w1.setCell ⟨w.heap.size + 1 + 1, 0, none⟩ (.slice (some ⟨g, 0, none⟩) ns.length ns.length)).setCell ⟨w.heap.size + 1, 0, none⟩ (.slice (some ⟨g, 0, none⟩) ns.length ns.length)) :=
    ((Turn.refl _ w1).set (p := ⟨w.heap.size + 1 + 1, 0, none⟩) (by show w.heap.size + 1 + 1 < W.heap.size; omega) _).set (p := ⟨w.heap.size + 1, 0, none⟩) (by show w.heap.size + 1 < W.heap.size; omega) _
  have R3 := HR.out.turned T3 (by have := HR.out.lo; omega) (fun i n hi g hf => by have := HR.out.range hi hf; omega)
  have Z3 : ((w1.setCell ⟨w.heap.size + 1 + 1, 0, none⟩ (.slice (some ⟨g, 0, none⟩) ns.length ns.length)).setCell ⟨w.heap.size + 1, 0, none⟩ (.slice (some ⟨g, 0, none⟩) ns.length ns.length)).heap.size = w1.heap.size := by simp [World.setCell]
  refine ⟨g, us, cur, rfl, HL.out, ?_, (hl.setCell (by simp; omega) _).setCell (by simp) _⟩
  rw [Z3]
  exact ⟨R3.blk, Nat.le_trans hW R3.lo, R3.hi, R3.size, R3.at', fun i n hi => (R3.store i n hi).low hW, fun i n hi => (R3.wait i n hi).low hW, R3.two, R3.apart⟩
theorem smN_fits {ns : List Nd} (hB : BigN ns) (h : ns.length + totNs ns ≤ 1048576) : SmN ns := fun i n hi => by
  have h1 := totNs_mem (List.mem_of_getElem? hi)
  obtain ⟨b1, b2⟩ := hB n (List.mem_of_getElem? hi)
  unfold totN at h1
  exact ⟨⟨by omega, by omega⟩, fun v hv => ⟨by have := tot_mem hv; omega, (b1.2 v hv).2⟩, fun v hv => ⟨by have := tot_mem hv; omega, (b2.2 v hv).2⟩⟩
theorem smN_small {ns : List Nd} (h : SmN ns) : SmallN ns := fun n hn => by
  obtain ⟨i, hi⟩ := List.getElem?_of_mem hn
  obtain ⟨⟨h1, h2⟩, h3, h4⟩ := h i n hi
  exact ⟨h1, h2, fun v hv => (h3 v hv).1, fun v hv => (h4 v hv).1⟩
/-- Two copies of a chain are the same. -/
theorem eqChain_copies (B U B' U' g g' c c' : Nat) (ns us us' : List Nd) (cur cur' : Array Value) (w : World) (hn : ns.length ≤ 1048576) (hm : SmN ns) (h : NL us ns) (h' : NL us' ns) (hR : NRow w B U g us cur) (hR' : NRow w B' U' g' us' cur') :
    Calls Tryz.prog 26 #[.agg #[.slice (some ⟨g, 0, none⟩) ns.length c], .agg #[.slice (some ⟨g', 0, none⟩) ns.length c']] w fun e w' => e = .returned (.bool true) ∧ Below w.heap.size w w' :=
  eqChain_same B U B' U' _ _ c c' ns.length us us' w hn h.1 h'.1 (nl_trans h (nl_symm h')).2 (smN_small (smN_like h hm)) (.inr ⟨g, cur, rfl, hR⟩) (.inr ⟨g', cur', rfl, hR'⟩)
end Go.Proofs.YtjnloillcgeodaaGreat
