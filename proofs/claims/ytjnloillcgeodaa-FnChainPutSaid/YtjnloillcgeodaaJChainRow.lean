/- Copies of chains in memory of their own. Condition: as many versions and tags as a law lets by. -/
import Derived.Test.YtjnloillcgeodaaJChainSz
namespace Go.Proofs.Ytjnloillcgeodaa
open Go.RowKit Go.Joins
attribute [local go_sem ↓] Go.wp_at_zero Go.wp_at_succ

theorem ResS.wide {w : World} {B U U' : Nat} {A : Option Addr} {us : List V} (h : ResS w B U A us) (hu : U ≤ U') : ResS w B U' A us := by
  rcases h with h | ⟨G, cur, h1, h2⟩
  · exact .inl h
  · exact .inr ⟨G, cur, h1, h2.wide hu⟩
theorem ResS.low {w : World} {B B' U : Nat} {A : Option Addr} {us : List V} (h : ResS w B U A us) (hb : B' ≤ B) : ResS w B' U A us := by
  rcases h with h | ⟨G, cur, h1, h2⟩
  · exact .inl h
  · exact .inr ⟨G, cur, h1, h2.low hb⟩
theorem ResS.foot {w : World} {B U : Nat} {A : Option Addr} {us : List V} (h : ResS w B U A us) {g : Nat} (hf : FootS A us g) : B ≤ g ∧ g < U := by
  obtain ⟨_, _, _, _, h1⟩ := h.typed hf
  exact h1
theorem snoc_get {α : Type} {us : List α} {n : α} {k : Nat} (hk : us.length = k) (i : Nat) (x : α) (hx : (us ++ [n])[i]? = some x) : (i = k ∧ x = n) ∨ (i < k ∧ us[i]? = some x) := by
  by_cases e : i < us.length
  · rw [List.getElem?_append_left e] at hx
    exact .inr ⟨by omega, hx⟩
  · rw [List.getElem?_append_right (by omega)] at hx
    have h0 : i - us.length = 0 := by
      have := (List.getElem?_eq_some_iff.1 hx).1
      simp at this
      omega
    rw [h0] at hx
    simp at hx
    exact .inl ⟨by omega, hx.symm⟩
abbrev put2 (cur : Array Value) (k : Nat) (n : Nd) : Array Value := (cur.setIfInBounds (k * 2) (.slice n.sa n.ss.length n.sc)).setIfInBounds (k * 2 + 1) (.slice n.wa n.ws.length n.wc)
theorem ndAt_put {cur : Array Value} {k : Nat} {n : Nd} (h : k * 2 + 1 < cur.size) : NdAt (put2 cur k n) k n := by
  refine ⟨?_, ?_⟩ <;> simp [put2, Array.getElem?_setIfInBounds] <;> omega
theorem ndAt_other {cur : Array Value} {j k : Nat} {n n' : Nd} (hj : j ≠ k) (h : NdAt cur j n) : NdAt (put2 cur k n') j n := by
  obtain ⟨h0, h1⟩ := h
  refine ⟨?_, ?_⟩
  all_goals
    unfold put2
    rw [Array.getElem?_setIfInBounds_ne (by omega), Array.getElem?_setIfInBounds_ne (by omega)]
    assumption
/-- A row of nodes grows by one, whose memory is new. -/
theorem nrow_step {w : World} {B U U' G k : Nat} {us : List Nd} {cur : Array Value} {n : Nd} (h : NRow w B U G us cur) (hU : U ≤ U') (hBU : B ≤ U) (hk : us.length = k) (hs : ResS w U U' n.sa n.ss) (hw : ResS w U U' n.wa n.ws) (h2 : ∀ g, FootS n.sa n.ss g → ¬ FootS n.wa n.ws g) (hsz : k * 2 + 1 < cur.size) :
    NRow ((w.setCell ⟨G, k * 2, none⟩ (.slice n.sa n.ss.length n.sc)).setCell ⟨G, k * 2 + 1, none⟩ (.slice n.wa n.ws.length n.wc)) B U' G (us ++ [n]) (put2 cur k n) := by
  have ht : Turn (fun g => g = G) w ((w.setCell ⟨G, k * 2, none⟩ (.slice n.sa n.ss.length n.sc)).setCell ⟨G, k * 2 + 1, none⟩ (.slice n.wa n.ws.length n.wc)) :=
    ((Turn.refl (fun g => g = G) w).set (p := ⟨G, k * 2, none⟩) rfl _).set (p := ⟨G, k * 2 + 1, none⟩) rfl _
  have hnew : ∀ g, FootN n g → U ≤ g ∧ g < U' := fun g hf => by
    rcases hf with hf | hf
    · exact hs.foot hf
    · exact hw.foot hf
  have hhi := h.hi
  refine ⟨(h.blk.put _ _).put _ _, h.lo, by omega, by simp only [List.length_append, List.length_singleton, Array.size_setIfInBounds]; omega, fun i x hx => ?_, fun i x hx => ?_, fun i x hx => ?_, fun i x hx => ?_, fun i j x y hne hx hy => ?_⟩
  · rcases snoc_get hk i x hx with ⟨rfl, rfl⟩ | ⟨e, hx⟩
    · exact ndAt_put hsz
    · exact ndAt_other (by omega) (h.at' i x hx)
  · rcases snoc_get hk i x hx with ⟨rfl, rfl⟩ | ⟨e, hx⟩
    · exact (hs.turnF ht (fun g hf e => by have := hnew g (.inl hf); omega)).low hBU
    · exact ((h.store i x hx).turnF ht (fun g hf e => h.notG hx (e ▸ .inl hf))).wide hU
  · rcases snoc_get hk i x hx with ⟨rfl, rfl⟩ | ⟨e, hx⟩
    · exact (hw.turnF ht (fun g hf e => by have := hnew g (.inr hf); omega)).low hBU
    · exact ((h.wait i x hx).turnF ht (fun g hf e => h.notG hx (e ▸ .inr hf))).wide hU
  · rcases snoc_get hk i x hx with ⟨rfl, rfl⟩ | ⟨e, hx⟩
    · exact h2
    · exact h.two i x hx
  · rcases snoc_get hk i x hx with ⟨e1, e2⟩ | ⟨e, hq⟩ <;> rcases snoc_get hk j y hy with ⟨e3, e4⟩ | ⟨e', hq'⟩
    · omega
    · rw [e2]; exact fun g hf hf' => by have := hnew g hf; have := h.range hq' hf'; omega
    · rw [e4]; exact fun g hf hf' => by have := hnew g hf'; have := h.range hq hf; omega
    · exact h.apart i j x y hne hq hq'
/-- What toNode leaves: a copy in memory of its own. -/
def CopiedN (w : World) (n : Nd) (e : Ending) (w' : World) : Prop :=
  ∃ (g h M : Nat) (us vs : List V) (cu cv : Array Value), e = .returned (.agg #[.slice (some ⟨g, 0, none⟩) n.ss.length n.ss.length, .slice (some ⟨h, 0, none⟩) n.ws.length n.ws.length]) ∧ LL us n.ss ∧ LL vs n.ws ∧ ORow w' w.heap.size M g us cu ∧ ORow w' M w'.heap.size h vs cv ∧ w.heap.size ≤ M ∧ M ≤ w'.heap.size ∧ Below w.heap.size w w'
set_option maxRecDepth 100000 in
set_option maxHeartbeats 2000000 in
theorem toNode_own (n : Nd) (w : World) (hn : n.ss.length ≤ 1048576 ∧ n.ws.length ≤ 1048576) (hm : Small n.ss) (hm' : Small n.ws) (hv : Vg w w.heap.size n.sa n.ss) (hw : Vg w w.heap.size n.wa n.ws) :
    Calls Try.prog 91 #[.agg #[.slice n.sa n.ss.length n.sc, .slice n.wa n.ws.length n.wc]] w (CopiedN w n) := by
  obtain ⟨sa, sc, ss, wa, wc, ws⟩ := n
  simp only at hn hm hm' hv hw ⊢
  have S0 := (((Inv.start w).box 128 #[.slice sa ss.length sc, .slice wa ws.length wc]).box 45 #[.slice none 0 0, .slice none 0 0]).box 45 #[.slice none 0 0, .slice none 0 0]
  simp only [World.size_alloc] at S0
  have q0 := (S0.nth 2 rfl).two.1
  have HM : Hid (∀ v ∈ ss, v.ts.length ≤ 1048576) := fun v hv => (hm v hv).1
  have HM' : Hid (∀ v ∈ ws, v.ts.length ≤ 1048576) := fun v hv => (hm' v hv).1
  have HW := hide hw
  have HV := hide hv
  clear hm hm' hv hw
  go_enter Try.func91, Try.ntmps91
  go_wp2_with fail
  generalize (((w.alloc (.cells #[.slice sa ss.length sc, .slice wa ws.length wc] 128)).alloc (.cells #[.slice none 0 0, .slice none 0 0] 45)).alloc (.cells #[.slice none 0 0, .slice none 0 0] 45)) = W at S0 ⊢
  with_reducible refine (toStore_own sa sc ss W hn.1 HM.out ((HV.out.on S0.below).up S0.base)).mono ?_
  rintro e w1 ⟨g, us, cu, rfl, hul, hli, hO, hb1⟩
  have S1 := S0.on hb1
  have zr := S0.room
  have zr1 := S1.room
  have zw1 := hb1.size
  have HLU : Hid (LL us ss) := ⟨hul, hli⟩
  have q2 := (S1.nth 0 rfl).two
  have q1 : w1.cell? ⟨w.heap.size, 1, none⟩ = some (.slice wa ws.length wc) := (S1.nth 2 rfl).at 1
  have I2 := S1.put0 (i := 0) (by intro x hx; simp only [List.mem_cons, List.not_mem_nil, or_false] at hx; rcases hx with rfl | rfl <;> simp only <;> omega) (.slice (some ⟨g, 0, none⟩) ss.length ss.length)
  simp only [List.setIfInBounds_toArray, List.set_cons_zero] at I2
  have HO := hide (hO.turned (P := fun g => g = w.heap.size + 1 + 1) ((Turn.refl (fun g => g = w.heap.size + 1 + 1) w1).set (p := ⟨w.heap.size + 1 + 1, 0, none⟩) rfl (.slice (some ⟨g, 0, none⟩) ss.length ss.length)) (fun g h1 h2 e => by omega))
  have q3 : (w1.setCell ⟨w.heap.size + 1 + 1, 0, none⟩ (.slice (some ⟨g, 0, none⟩) ss.length ss.length)).cell? ⟨w.heap.size, 1, none⟩ = some (.slice wa ws.length wc) := (I2.nth 2 rfl).at 1
  have hsz : (w1.setCell ⟨w.heap.size + 1 + 1, 0, none⟩ (.slice (some ⟨g, 0, none⟩) ss.length ss.length)).heap.size = w1.heap.size := by simp [World.setCell]
  have HSZ := hide hsz
  clear hul hli hO S1 S0 q0 hsz
  go_wp2_with fail
  generalize w1.setCell ⟨w.heap.size + 1 + 1, 0, none⟩ (.slice (some ⟨g, 0, none⟩) ss.length ss.length) = W1 at I2 HO q3 HSZ ⊢
  with_reducible refine (toVerS_own wa wc ws W1 hn.2 HM'.out ((HW.out.on I2.below).up I2.base)).mono ?_
  rintro e w2 ⟨h, vs, cv, rfl, hvl, hlv, hO2, hb2⟩
  have I3 := I2.on hb2
  have zw2 : w1.heap.size ≤ w2.heap.size := by have := hb2.size; have := HSZ.out; omega
  have HLV : Hid (LL vs ws) := ⟨hvl, hlv⟩
  have HO1 := hide (HO.out.on hb2)
  have HO2 := hide hO2
  have B3 := (I3.nth 0 rfl)
  have B2 := (I3.nth 1 rfl)
  have k3 := B3.two
  have k2 := B2.two
  have hz1 : W1.heap.size = w1.heap.size := HSZ.out
  have glo := HO.out.lo
  have hhl : w1.heap.size ≤ h := by have := hO2.lo; omega
  have HBL := hide I3.below
  clear q2 q3 hvl hlv hO2 I2 q1
  go_wp2
  refine bodyPost_ret (v := .agg #[.slice (some ⟨g, 0, none⟩) ss.length ss.length, .slice (some ⟨h, 0, none⟩) ws.length ws.length]) (by simp [results, Try.results91, go_sem, k2]) rfl ?_
  have T3 : Turn (fun g => g = w.heap.size + 1 + 1 ∨ g = w.heap.size + 1) w2 (((w2.setCell ⟨w.heap.size + 1 + 1, 1, none⟩ (.slice (some ⟨h, 0, none⟩) ws.length ws.length)).setCell ⟨w.heap.size + 1, 0, none⟩ (.slice (some ⟨g, 0, none⟩) ss.length ss.length)).setCell ⟨w.heap.size + 1, 1, none⟩ (.slice (some ⟨h, 0, none⟩) ws.length ws.length)) :=
    (((Turn.refl _ w2).set (p := ⟨w.heap.size + 1 + 1, 1, none⟩) (.inl rfl) _).set (p := ⟨w.heap.size + 1, 0, none⟩) (.inr rfl) _).set (p := ⟨w.heap.size + 1, 1, none⟩) (.inr rfl) _
  have Z3 : (((w2.setCell ⟨w.heap.size + 1 + 1, 1, none⟩ (.slice (some ⟨h, 0, none⟩) ws.length ws.length)).setCell ⟨w.heap.size + 1, 0, none⟩ (.slice (some ⟨g, 0, none⟩) ss.length ss.length)).setCell ⟨w.heap.size + 1, 1, none⟩ (.slice (some ⟨h, 0, none⟩) ws.length ws.length)).heap.size = w2.heap.size := by simp [World.setCell]
  refine ⟨g, h, w1.heap.size, us, vs, cu, cv, rfl, HLU.out, HLV.out, (HO1.out.turned T3 (fun g h1 h2 e => by omega)).low (by omega), ?_, by omega, by rw [Z3]; omega, ((HBL.out.setCell (by simp; omega) _).setCell (by simp) _).setCell (by simp) _⟩
  rw [Z3, ← hz1]
  exact HO2.out.turned T3 (fun g h1 h2 e => by omega)
/-- What toNodeS leaves: a copy in memory of its own. -/
def CopiedNO (w : World) (ns : List Nd) (e : Ending) (w' : World) : Prop :=
  ∃ (g : Nat) (us : List Nd) (cur : Array Value), e = .returned (.slice (some ⟨g, 0, none⟩) ns.length ns.length) ∧ NL us ns ∧ NRow w' w.heap.size w'.heap.size g us cur ∧ Below w.heap.size w w'
set_option maxRecDepth 100000 in
set_option maxHeartbeats 2000000 in
theorem toNodeS_own (a : Option Addr) (c : Nat) (ns : List Nd) (w : World) (hn : ns.length ≤ 1048576) (hm : SmN ns) (hv : Ng w w.heap.size a ns) :
    Calls Try.prog 59 #[.slice a ns.length c] w (CopiedNO w ns) := by
  obtain ⟨i0, hi0, hz0, hz1, hz2⟩ := info_parts node_info
  have hmk : ∀ W : World, (Instr.makeSlice 23 (.int .i64 (ns.length : Int)) (.int .i64 (ns.length : Int))).run Try.prog W = .ok (.slice (some ⟨W.heap.size, 0, none⟩) ns.length ns.length) (W.alloc (.cells (madeCells (Value.agg #[.slice none 0 0, .slice none 0 0]).cells (ns.length * 2)) 45)) := by
    intro W
    have hr := run_make (P := Try.prog) W 23 45 i0 _ Try.underlying23 hi0 hz0 .i64 .i64 (ns.length : Int) (ns.length : Int) (by omega) (by omega) (by rw [hz2]; omega) (by omega)
    rw [hz1] at hr
    simpa using hr
  have HM := hide hm
  clear hm
  generalize hn' : ns.length = n at *
  have HN := hide hn'
  clear hn'
  go_enter Try.func59, Try.ntmps59
  go_wp2
  clear hmk hi0 hz0 hz1 hz2
  have B0 := Blk.made w 45 (madeCells #[.slice none 0 0, .slice none 0 0] (n * 2))
  have L0 := below_alloc1 w (.cells (madeCells #[.slice none 0 0, .slice none 0 0] (n * 2)) 45)
  go_loopw [4] (fun i wr => ∃ (k : Nat) (cur : Array Value) (us : List Nd), k ≤ n ∧ i = .int .i64 (k : Int) ∧ Hid (us.length = k) ∧ NRow wr w.heap.size wr.heap.size w.heap.size us cur ∧ cur.size = n * 2 ∧ Hid (∀ (i : Nat) v v', us[i]? = some v → ns[i]? = some v' → Nd.like v v') ∧ Below w.heap.size w wr) (fun i _ => n - (intOf i).toNat)
  case atStart => exact ⟨0, _, [], Nat.zero_le _, rfl, rfl, ⟨B0, Nat.le_refl _, by simp, by simp, fun i v hi => by simp at hi, fun i v hi => by simp at hi, fun i v hi => by simp at hi, fun i v hi => by simp at hi, fun i j v v' _ hi => by simp at hi⟩, size_madeCells _ _, fun i v v' hi => by simp at hi, L0⟩
  case round =>
    obtain ⟨k, cur, us, hk, rfl, hus, hR, hsz, hli, hL⟩ := hrel
    by_cases hlt : k < n
    · rcases hv with h0 | ⟨b, off, rfl, hb, hx⟩
      · have := HN.out; subst h0; simp at this; omega
      · have hkl : k < ns.length := by have := HN.out; omega
        obtain ⟨⟨n0, n1⟩, hV, hW⟩ := hx k _ (List.getElem?_eq_getElem hkl)
        have HX := hide (List.getElem?_eq_getElem hkl)
        generalize ns[k] = nd at n0 n1 hV hW HX
        have HB := hide (HM.out k nd HX.out)
        have q0 := (hL.cell (p := ⟨b, off + k * 2, none⟩) hb).trans n0
        have q1 := (hL.cell (p := ⟨b, off + k * 2 + 1, none⟩) hb).trans n1
        have HV := hide ((hV.on hL).up hL.size)
        have HW := hide ((hW.on hL).up hL.size)
        clear n0 n1 hV hW hx
        have i1 : (0 : Int) ≤ (k : Int) := by omega
        have i2 : (k : Int) < (n : Int) := by omega
        go_wp2_with fail
        with_reducible refine (toNode_own nd wr HB.out.1 HB.out.2.1 HB.out.2.2 HV.out HW.out).mono ?_
        rintro e w1 ⟨g, h, M, u1, u2, cu, cv, rfl, hl1, hl2, hO1, hO2, hM1, hM2, hb1⟩
        have hG : w.heap.size < wr.heap.size := hR.blk.inside
        have zw1 := hb1.size
        have e1 : nd.ss.length = u1.length := hl1.1.symm
        have e2 : nd.ws.length = u2.length := hl2.1.symm
        rw [e1, e2]
        have r1 : ResS w1 wr.heap.size M (some ⟨g, 0, none⟩) u1 := .inr ⟨g, cu, rfl, hO1⟩
        have r2 : ResS w1 M w1.heap.size (some ⟨h, 0, none⟩) u2 := .inr ⟨h, cv, rfl, hO2⟩
        have HR := hide (nrow_step (n := ⟨some ⟨g, 0, none⟩, u1.length, u1, some ⟨h, 0, none⟩, u2.length, u2⟩) (hR.on hb1) zw1 (by omega) hus.out (r1.wide hM2) (r2.low hM1) (fun g h1 h2 => by
          have := r1.foot h1; have := r2.foot h2; omega) (show k * 2 + 1 < cur.size by omega))
        have HL : Hid (∀ (i : Nat) v v', (us ++ [(⟨some ⟨g, 0, none⟩, u1.length, u1, some ⟨h, 0, none⟩, u2.length, u2⟩ : Nd)])[i]? = some v → ns[i]? = some v' → Nd.like v v') := fun i v v' hi hi' => by
          rcases snoc_get hus.out i v hi with ⟨rfl, rfl⟩ | ⟨_, hq⟩
          · have := HX.out
            rw [this] at hi'
            injection hi' with hi'
            subst hi'
            exact ⟨hl1.1, hl1.2, hl2.1, hl2.2⟩
          · exact hli.out i v v' hq hi'
        have B1 := hR.blk.on hb1
        have hs0 : k * 2 < cur.size := by omega
        have hs1 : k * 2 + 1 < cur.size := by omega
        have d0 : w1.cell? ⟨w.heap.size, k * 2, none⟩ = some cur[k * 2] := by rw [B1.at]; exact Array.getElem?_eq_getElem hs0
        have d1 : w1.cell? ⟨w.heap.size, k * 2 + 1, none⟩ = some cur[k * 2 + 1] := by rw [B1.at]; exact Array.getElem?_eq_getElem hs1
        have f0 := B1.loose (k * 2)
        have f1 := B1.loose (k * 2 + 1)
        have hL1 := hL.trans (hb1.mono hL.size)
        have HU : Hid ((us ++ [(⟨some ⟨g, 0, none⟩, u1.length, u1, some ⟨h, 0, none⟩, u2.length, u2⟩ : Nd)]).length = k + 1) := by
          unfold Hid
          rw [List.length_append, hus.out]
          rfl
        clear q0 q1 hR hli hus hL B1 hO1 hO2 r1 r2 hl1 hl2 e1 e2
        go_wp2
        exact ⟨⟨k + 1, _, _, by omega, by go_num, HU, by simpa [World.setCell] using HR.out, by simp [hsz], HL, (hL1.setCell (Nat.le_refl _) _).setCell (Nat.le_refl _) _⟩, by simp [intOf]; omega⟩
    · have hkn : k = n := by omega
      subst hkn
      clear hlt
      go_wp2
      go_ret
      have e := HN.out
      exact ⟨_, us, cur, by rw [e]; rfl, ⟨hus.out.trans e.symm, hli.out⟩, hR, hL⟩
/-- What toChain leaves: a copy in memory of its own. -/
def CopiedC (w : World) (ns : List Nd) (e : Ending) (w' : World) : Prop :=
  ∃ (g : Nat) (us : List Nd) (cur : Array Value), e = .returned (.agg #[.slice (some ⟨g, 0, none⟩) ns.length ns.length]) ∧ NL us ns ∧ NRow w' w.heap.size w'.heap.size g us cur ∧ Below w.heap.size w w'
set_option maxRecDepth 100000 in
set_option maxHeartbeats 1000000 in
theorem toChain_own (a : Option Addr) (c : Nat) (ns : List Nd) (w : World) (hn : ns.length ≤ 1048576) (hm : SmN ns) (hv : Ng w w.heap.size a ns) :
    Calls Try.prog 22 #[.agg #[.slice a ns.length c]] w (CopiedC w ns) := by
  have S0 := (((Inv.start w).box 55 #[.slice a ns.length c]).box 25 #[.slice none 0 0]).box 25 #[.slice none 0 0]
  simp only [World.size_alloc] at S0
  have T0 := hv.on S0.below
  go_enter Try.func22, Try.ntmps22
  go_wp2_with fail
  generalize (((w.alloc (.cells #[.slice a ns.length c] 55)).alloc (.cells #[.slice none 0 0] 25)).alloc (.cells #[.slice none 0 0] 25)) = W at S0 T0 ⊢
  refine (toNodeS_own a c ns W hn hm (T0.up S0.base)).mono ?_
  rintro e w1 ⟨g, us, cur, rfl, hli, hR, hb1⟩
  have S1 := S0.on hb1
  have hr := S0.room
  have hl := S1.below
  obtain ⟨k0, f0⟩ := (S1.nth 0 rfl).one
  obtain ⟨k1, f1⟩ := (S1.nth 1 rfl).one
  have hW := S0.base
  have hbs := hb1.size
  have HR := hide hR
  have HL := hide hli
  clear hR hli S0 S1 T0 hv hm
  go_wp2
  refine bodyPost_ret (v := .agg #[.slice (some ⟨g, 0, none⟩) ns.length ns.length]) (by simp [results, Try.results22, go_sem, k1]) rfl ?_
  have T3 : Turn (fun g => g < W.heap.size) w1 ((w1.setCell ⟨w.heap.size + 1 + 1, 0, none⟩ (.slice (some ⟨g, 0, none⟩) ns.length ns.length)).setCell ⟨w.heap.size + 1, 0, none⟩ (.slice (some ⟨g, 0, none⟩) ns.length ns.length)) :=
    ((Turn.refl _ w1).set (p := ⟨w.heap.size + 1 + 1, 0, none⟩) (by show w.heap.size + 1 + 1 < W.heap.size; omega) _).set (p := ⟨w.heap.size + 1, 0, none⟩) (by show w.heap.size + 1 < W.heap.size; omega) _
  have R3 := HR.out.turned T3 (by have := HR.out.lo; omega) (fun i n hi g hf => by have := HR.out.range hi hf; omega)
  have Z3 : ((w1.setCell ⟨w.heap.size + 1 + 1, 0, none⟩ (.slice (some ⟨g, 0, none⟩) ns.length ns.length)).setCell ⟨w.heap.size + 1, 0, none⟩ (.slice (some ⟨g, 0, none⟩) ns.length ns.length)).heap.size = w1.heap.size := by simp [World.setCell]
  refine ⟨g, us, cur, rfl, HL.out, ?_, (hl.setCell (by simp; omega) _).setCell (by simp) _⟩
  rw [Z3]
  exact ⟨R3.blk, Nat.le_trans hW R3.lo, R3.hi, R3.size, R3.at', fun i n hi => (R3.store i n hi).low hW, fun i n hi => (R3.wait i n hi).low hW, R3.two, R3.apart⟩
theorem smN_fits {ns : List Nd} (hB : BigN ns) (h : ns.length + totNs ns ≤ 1048576) : SmN ns := fun i n hi => by
  have h1 := totNs_mem (List.mem_of_getElem? hi)
  obtain ⟨b1, b2⟩ := hB n (List.mem_of_getElem? hi)
  unfold totN at h1
  exact ⟨⟨by omega, by omega⟩, fun v hv => ⟨by have := tot_mem hv; omega, (b1.2 v hv).2⟩, fun v hv => ⟨by have := tot_mem hv; omega, (b2.2 v hv).2⟩⟩
theorem smN_small {ns : List Nd} (h : SmN ns) : SmallN ns := fun n hn => by
  obtain ⟨i, hi⟩ := List.getElem?_of_mem hn
  obtain ⟨⟨h1, h2⟩, h3, h4⟩ := h i n hi
  exact ⟨h1, h2, fun v hv => (h3 v hv).1, fun v hv => (h4 v hv).1⟩
/-- Two copies of a chain are the same. -/
theorem eqChain_copies (B U B' U' g g' c c' : Nat) (ns us us' : List Nd) (cur cur' : Array Value) (w : World) (hn : ns.length ≤ 1048576) (hm : SmN ns) (h : NL us ns) (h' : NL us' ns) (hR : NRow w B U g us cur) (hR' : NRow w B' U' g' us' cur') :
    Calls Try.prog 23 #[.agg #[.slice (some ⟨g, 0, none⟩) ns.length c], .agg #[.slice (some ⟨g', 0, none⟩) ns.length c']] w fun e w' => e = .returned (.bool true) ∧ Below w.heap.size w w' :=
  eqChain_same B U B' U' _ _ c c' ns.length us us' w hn h.1 h'.1 (nl_trans h (nl_symm h')).2 (smN_small (smN_like h hm)) (.inr ⟨g, cur, rfl, hR⟩) (.inr ⟨g', cur', rfl, hR'⟩)
end Go.Proofs.Ytjnloillcgeodaa
/- Rows of nodes as they grow; contracts of copies of nodes and chains, in the program. Condition: sizes that memory holds. -/
namespace Go.Proofs.Ytjnloillcgeodaa
open Go.RowKit Go.Joins
attribute [local go_sem ↓] Go.wp_at_zero Go.wp_at_succ

/-- The cells of a row of nodes. -/
def cellsN (n : Nd) : List Value := [.slice n.sa n.ss.length n.sc, .slice n.wa n.ws.length n.wc]
def flatN (us : List Nd) : List Value := us.flatMap cellsN
theorem flatN_snoc (us : List Nd) (v : Nd) : flatN (us ++ [v]) = flatN us ++ cellsN v := by simp [flatN]
theorem flatN_at : ∀ (us : List Nd) (i : Nat) (v : Nd) (m : Nat), us[i]? = some v → m < 2 → (flatN us)[i * 2 + m]? = (cellsN v)[m]?
  | [], i, v, m, h, _ => by simp at h
  | x :: r, 0, v, m, h, hm => by
    simp at h
    subst h
    have e : flatN (x :: r) = cellsN x ++ flatN r := by simp [flatN]
    rw [e, Nat.zero_mul, Nat.zero_add, List.getElem?_append_left (by simp [cellsN]; omega)]
  | x :: r, i + 1, v, m, h, hm => by
    have e : flatN (x :: r) = cellsN x ++ flatN r := by simp [flatN]
    have h6 : (cellsN x).length = 2 := rfl
    rw [e, List.getElem?_append_right (by omega), h6]
    have : (i + 1) * 2 + m - 2 = i * 2 + m := by omega
    rw [this]
    exact flatN_at r i v m (by simpa using h) hm
theorem ndAtN_of {cur : Array Value} {us : List Nd} {n : Nat} (h : cur.toList.take n = flatN us) (i : Nat) (v : Nd) (hi : us[i]? = some v) : NdAt cur i v := by
  have key : ∀ m, m < 2 → cur[i * 2 + m]? = (cellsN v)[m]? := by
    intro m hm
    have h1 := flatN_at us i v m hi hm
    rw [← h] at h1
    have h2 : ∃ u, (cellsN v)[m]? = some u := ⟨_, List.getElem?_eq_getElem (by simp [cellsN]; omega)⟩
    obtain ⟨u, hu⟩ := h2
    rw [hu] at h1 ⊢
    obtain ⟨hl, _⟩ := List.getElem?_eq_some_iff.1 h1
    rw [List.length_take] at hl
    rw [List.getElem?_take_of_lt (by omega)] at h1
    simpa using h1
  exact ⟨key 0 (by omega), key 1 (by omega)⟩
theorem CRow.turned {P : Nat → Prop} {base : Nat} {wr w2 : World} {x : Value} {us : List V} (h : CRow base wr x us) (ht : Turn P wr w2) (hx : ∀ g, x.ownBlock = some g → ¬ P g) (hf : ∀ (i : Nat) v, us[i]? = some v → ∀ g, v.a = some ⟨g, 0, none⟩ → base ≤ g → v.ts ≠ [] → ¬ P g) : CRow base w2 x us := by
  refine ⟨⟨h.row.1, ?_⟩, fun i v hi => ((h.own i v hi).turned ht (fun g hg hb _ hne => hf i v hi g hg hb hne)).wide ht.size, h.apart, Nat.le_trans h.lo ht.size⟩
  rcases h.row.2 with h' | ⟨g, cap, cr, h1, h2, h3, h4⟩
  · exact .inl h'
  · exact .inr ⟨g, cap, cr, h1, h2, Blk.turned (show Blk wr g 32 cr from h3) ht (hx g (by rw [h1]; rfl)), h4⟩
/-- A row of versions is kept where nothing turns but blocks that hold neither versions nor tags. -/
theorem CRow.turnedT {P : Nat → Prop} {base : Nat} {wr w2 : World} {x : Value} {us : List V} (h : CRow base wr x us) (ht : Turn P wr w2) (hP : ∀ g, P g → ∃ T cs, Blk wr g T cs ∧ T ≠ 32 ∧ T ≠ 27) : CRow base w2 x us :=
  h.turned ht (fun g hg hp => by
    obtain ⟨cs, h1, _⟩ := h.typed g hg
    obtain ⟨T, cs', h2, h3, _⟩ := hP g hp
    exact h3 (blk_one h2 h1)) (fun i v hi g hg _ hne hp => by
    obtain ⟨T, cs', h2, _, h3⟩ := hP g hp
    rcases h.own i v hi with q | ⟨g', c', e1, _, _, q3, _⟩
    · exact absurd q hne
    · rw [hg] at e1
      injection e1 with e1
      injection e1 with e1
      subst e1
      exact h3 (blk_one h2 q3))
/-- The blocks of what waits at a node, that of its slice among them though nothing waits; the blocks of a node. -/
def FootW (n : Nd) (g : Nat) : Prop := FootS n.wa n.ws g ∨ (Value.slice n.wa n.ws.length n.wc).ownBlock = some g
def FootO (n : Nd) (g : Nat) : Prop := FootS n.sa n.ss g ∨ FootW n g
theorem footN_O {n : Nd} {g : Nat} (h : FootN n g) : FootO n g := by
  rcases h with h | h
  · exact .inl h
  · exact .inr (.inl h)
/-- A row of nodes as it grows. -/
structure GRow (base : Nat) (wr : World) (x : Value) (us : List Nd) : Prop where
  row : wr.ownsRow base 45 2 x us.length (flatN us)
  store : ∀ (i : Nat) n, us[i]? = some n → ResS wr base wr.heap.size n.sa n.ss
  wait : ∀ (i : Nat) n, us[i]? = some n → ResS wr base wr.heap.size n.wa n.ws
  two : ∀ (i : Nat) n, us[i]? = some n → ∀ g, FootS n.sa n.ss g → ¬ FootW n g
  apart : ∀ (i j : Nat) n n', i ≠ j → us[i]? = some n → us[j]? = some n' → ∀ g, FootO n g → ¬ FootO n' g
  lo : base ≤ wr.heap.size
  own : ∀ (i : Nat) n, us[i]? = some n → CRow base wr (.slice n.wa n.ws.length n.wc) n.ws
theorem GRow.start (base : Nat) (w : World) (h : base ≤ w.heap.size) : GRow base w (.slice none 0 0) [] :=
  ⟨World.ownsRow_nil _ _ _ _, fun i v h => by simp at h, fun i v h => by simp at h, fun i v h => by simp at h, fun i j v v' _ h => by simp at h, h, fun i v h => by simp at h⟩
theorem GRow.typed {base : Nat} {wr : World} {x : Value} {us : List Nd} (h : GRow base wr x us) (r : Nat) (hr : x.ownBlock = some r) : ∃ cs, Blk wr r 45 cs ∧ base ≤ r ∧ r < wr.heap.size := by
  rcases h.row.2 with ⟨rfl, _⟩ | ⟨g', cap, cr, rfl, hg', hb', _⟩
  · simp [Value.ownBlock] at hr
  · simp [Value.ownBlock] at hr
    subst hr
    exact ⟨cr, hb', hg', Blk.inside hb'⟩
theorem GRow.form {base : Nat} {wr : World} {x : Value} {us : List Nd} (h : GRow base wr x us) : ∃ A c, x = .slice A us.length c := by
  rcases h.row.2 with ⟨rfl, e⟩ | ⟨g', cap, cr, rfl, hg', hb', _⟩
  · exact ⟨none, 0, by rw [show us.length = 0 by omega]⟩
  · exact ⟨_, _, rfl⟩
theorem GRow.on {base : Nat} {wr w2 : World} {x : Value} {us : List Nd} (h : GRow base wr x us) (hb : Below wr.heap.size wr w2) : GRow base w2 x us :=
  ⟨World.ownsRow.kept h.row (grown_none (row := none) hb) (Classical.em _), fun i v hi => ((h.store i v hi).on hb).wide hb.size, fun i v hi => ((h.wait i v hi).on hb).wide hb.size, h.two, h.apart, Nat.le_trans h.lo hb.size, fun i v hi => (h.own i v hi).on hb⟩
theorem GRow.foot {base : Nat} {wr : World} {x : Value} {us : List Nd} (h : GRow base wr x us) {i : Nat} {n : Nd} (hi : us[i]? = some n) {g : Nat} (hf : FootO n g) : base ≤ g ∧ g < wr.heap.size := by
  rcases hf with hf | hf | hf
  · exact (h.store i n hi).foot hf
  · exact (h.wait i n hi).foot hf
  · obtain ⟨_, _, h1⟩ := (h.own i n hi).typed g hf
    exact h1
theorem GRow.aside {base : Nat} {wr : World} {x : Value} {us : List Nd} (h : GRow base wr x us) {p : Addr} (hp : p.block < base) (u : Value) : GRow base (wr.setCell p u) x us := by
  have hz : (wr.setCell p u).heap.size = wr.heap.size := by simp [World.setCell]
  have ht : Turn (fun g => g = p.block) wr (wr.setCell p u) := (Turn.refl (fun g => g = p.block) wr).set (p := p) rfl u
  refine ⟨ownsRow_setCell_below h.row hp u, fun i v hi => ?_, fun i v hi => ?_, h.two, h.apart, by rw [hz]; exact h.lo, fun i v hi => (h.own i v hi).turned ht (fun g hg e => by obtain ⟨_, _, h1, _⟩ := (h.own i v hi).typed g hg; omega) (fun _ _ _ g _ h1 _ e => by omega)⟩
  · rw [hz]
    exact (h.store i v hi).set (.inl hp) u
  · rw [hz]
    exact (h.wait i v hi).set (.inl hp) u
theorem GRow.down {base base' : Nat} {wr : World} {x : Value} {us : List Nd} (h : GRow base wr x us) (hb : base' ≤ base) : GRow base' wr x us :=
  ⟨⟨h.row.1, by
    rcases h.row.2 with h | ⟨g, cap, cr, h1, h2, h3⟩
    · exact .inl h
    · exact .inr ⟨g, cap, cr, h1, by omega, h3⟩⟩, fun i v hi => (h.store i v hi).low hb, fun i v hi => (h.wait i v hi).low hb, h.two, h.apart, by have := h.lo; omega, fun i v hi => (h.own i v hi).down hb⟩
/-- One node more. -/
theorem GRow.push {base : Nat} {wr w1 w2 : World} {x : Value} {us : List Nd} {v : Nd} {g cap : Nat} (h : GRow base wr x us) (hb : Below wr.heap.size wr w1) (hs : ResS w1 wr.heap.size w1.heap.size v.sa v.ss) (hw : ResS w1 wr.heap.size w1.heap.size v.wa v.ws) (h2 : ∀ g, FootS v.sa v.ss g → ¬ FootW v g) (hc : CRow wr.heap.size w1 (.slice v.wa v.ws.length v.wc) v.ws)
    (hown : w2.ownsRow base 45 2 (.slice (some ⟨g, 0, none⟩) (us.length + 1) cap) (us.length + 1) (flatN us ++ cellsN v)) (hg : w1.grownBy w2 x.ownBlock) : GRow base w2 (.slice (some ⟨g, 0, none⟩) (us.length + 1) cap) (us ++ [v]) := by
  have ht : Turn (fun g => x.ownBlock = some g) w1 w2 := .of hg (fun g e => e)
  have hk : ∀ {B U : Nat} {A : Option Addr} {l : List V}, ResS w1 B U A l → ResS w2 B U A l := fun hr => hr.turnF ht (fun y hf e => by
    obtain ⟨cs, h1, _⟩ := h.typed y e
    obtain ⟨T, cs', h3, h4, _⟩ := hr.typed hf
    exact h4 (blk_one h3 (h1.on hb)))
  have hq : ∀ {B : Nat} {y : Value} {l : List V}, CRow B w1 y l → CRow B w2 y l := fun hr => hr.turnedT ht (fun g e => by
    obtain ⟨cs, h1, _⟩ := h.typed g e
    exact ⟨_, cs, h1.on hb, node_ne_ver, node_ne_tag⟩)
  have zb := h.lo
  have z1 := hb.size
  have z2 := hg.size
  have hnew : ∀ g, FootO v g → wr.heap.size ≤ g := fun g hf => by
    rcases hf with hf | hf | hf
    · exact (hs.foot hf).1
    · exact (hw.foot hf).1
    · obtain ⟨_, _, h1, _⟩ := hc.typed g hf
      exact h1
  refine ⟨by simpa [flatN_snoc] using hown, fun i y hy => ?_, fun i y hy => ?_, fun i y hy => ?_, fun i j y y' hne hy hy' => ?_, by omega, fun i y hy => ?_⟩
  · rcases snoc_get rfl i y hy with ⟨rfl, rfl⟩ | ⟨_, hy⟩
    · exact ((hk hs).low zb).wide z2
    · exact (hk ((h.store i y hy).on hb)).wide (by omega)
  · rcases snoc_get rfl i y hy with ⟨rfl, rfl⟩ | ⟨_, hy⟩
    · exact ((hk hw).low zb).wide z2
    · exact (hk ((h.wait i y hy).on hb)).wide (by omega)
  · rcases snoc_get rfl i y hy with ⟨rfl, rfl⟩ | ⟨_, hy⟩
    · exact h2
    · exact h.two i y hy
  · rcases snoc_get rfl i y hy with ⟨e1, e2⟩ | ⟨e, hr⟩ <;> rcases snoc_get rfl j y' hy' with ⟨e3, e4⟩ | ⟨e', hr'⟩
    · omega
    · rw [e2]; exact fun g hf hf' => by have := hnew g hf; have := h.foot hr' hf'; omega
    · rw [e4]; exact fun g hf hf' => by have := hnew g hf'; have := h.foot hr hf; omega
    · exact h.apart i j y y' hne hr hr'
  · rcases snoc_get rfl i y hy with ⟨rfl, rfl⟩ | ⟨_, hy⟩
    · exact (hq hc).down zb
    · exact hq ((h.own i y hy).on hb)
theorem GRow.res {base : Nat} {wr : World} {A : Option Addr} {n c : Nat} {us : List Nd} (h : GRow base wr (.slice A n c) us) : n = us.length ∧ ResN wr base wr.heap.size A us := by
  rcases h.row.2 with ⟨e0, e⟩ | ⟨g', cap, cr, e0, hg', hb', hn, hm, hs, ht⟩
  · injection e0 with _ e1 _
    exact ⟨by omega, .inl (List.length_eq_zero_iff.1 (by omega))⟩
  · injection e0 with e0 e1 e2
    subst e0 e1 e2
    exact ⟨rfl, .inr ⟨g', cr, rfl, hb', hg', Blk.inside hb', by omega, ndAtN_of ht, h.store, h.wait, fun i n hi g h1 h2 => h.two i n hi g h1 (.inl h2), fun i j n n' hne hi hj g h1 h2 => h.apart i j n n' hne hi hj g (footN_O h1) (footN_O h2)⟩⟩
theorem CRow.resS {base : Nat} {wr : World} {x : Value} {us : List V} (h : CRow base wr x us) : ∃ A cap, x = .slice A us.length cap ∧ ResS wr base wr.heap.size A us := by
  rcases h.res with ⟨rfl, A, cap, rfl⟩ | ⟨G, cap, cur, rfl, hO⟩
  · exact ⟨A, cap, rfl, .inl rfl⟩
  · exact ⟨_, cap, rfl, .inr ⟨G, cur, rfl, hO⟩⟩
/-- What a copy of a node is. -/
def ClonedNd (w : World) (n : Nd) (e : Ending) (w' : World) : Prop :=
  ∃ n' : Nd, e = .returned (.agg #[.slice n'.sa n'.ss.length n'.sc, .slice n'.wa n'.ws.length n'.wc]) ∧ Nd.like n' n ∧ ResS w' w.heap.size w'.heap.size n'.sa n'.ss ∧ ResS w' w.heap.size w'.heap.size n'.wa n'.ws ∧ (∀ g, FootS n'.sa n'.ss g → ¬ FootW n' g) ∧ CRow w.heap.size w' (.slice n'.wa n'.ws.length n'.wc) n'.ws ∧ Below w.heap.size w w'
set_option maxRecDepth 100000 in
set_option maxHeartbeats 2000000 in
theorem nodeClone_any (n : Nd) (w : World) (hn : n.ss.length ≤ 1048576 ∧ n.ws.length ≤ 1048576) (hm : Small n.ss) (hm' : Small n.ws) (hv : Vg w w.heap.size n.sa n.ss) (hw : Vg w w.heap.size n.wa n.ws) :
    Calls Try.prog 69 #[.agg #[.slice n.sa n.ss.length n.sc, .slice n.wa n.ws.length n.wc]] w (ClonedNd w n) := by
  obtain ⟨sa, sc, ss, wa, wc, ws⟩ := n
  simp only at hn hm hm' hv hw ⊢
  have S0 := (Inv.start w).box 45 #[.slice sa ss.length sc, .slice wa ws.length wc]
  have S1 := S0.alloc (.cells #[.slice none 0 0, .slice none 0 0] 45)
  have V0 := Blk.made (w.alloc (.cells #[.slice sa ss.length sc, .slice wa ws.length wc] 45)) 45 #[.slice none 0 0, .slice none 0 0]
  simp only [World.size_alloc] at S1 V0
  have zz : w.heap.size + 2 ≤ ((w.alloc (.cells #[.slice sa ss.length sc, .slice wa ws.length wc] 45)).alloc (.cells #[.slice none 0 0, .slice none 0 0] 45)).heap.size := by simp
  have CV : Hid (∀ W, Below w.heap.size w W → Calls Try.prog 49 #[.slice sa ss.length sc] W (CopiedR W ss)) := fun W hW => copyVers_any sa sc ss W hn.1 (fun v hv => (hm v hv).1) ((hv.on hW).up hW.size)
  have CW : Hid (∀ W, Below w.heap.size w W → Calls Try.prog 49 #[.slice wa ws.length wc] W (CopiedR W ws)) := fun W hW => copyVers_any wa wc ws W hn.2 (fun v hv => (hm' v hv).1) ((hw.on hW).up hW.size)
  clear hm hm' hv hw S0
  go_enter Try.func69, Try.ntmps69
  go_wp2_with fail
  generalize (w.alloc (.cells #[.slice sa ss.length sc, .slice wa ws.length wc] 45)).alloc (.cells #[.slice none 0 0, .slice none 0 0] 45) = W0 at S1 V0 zz ⊢
  refine wp_region_noPanic ?_
  refine wp_region_held_drew (S := (fun w' => (w'.cell? ⟨w.heap.size, 0, none⟩ = some (.slice sa ss.length sc) ∧ w'.cell? ⟨w.heap.size, 1, none⟩ = some (.slice wa ws.length wc)) ∧ (∃ c0 c1 : Value, Blk w' (w.heap.size + 1) 45 #[c0, c1]) ∧ Inv w (w.heap.size + 1) [(w.heap.size, 45, #[.slice sa ss.length sc, .slice wa ws.length wc])] w')) (by kernel_rfl) (by exact ⟨⟨(S1.drew.nth 0 rfl).at 0, (S1.drew.nth 0 rfl).at 1⟩, ⟨_, _, V0.drew⟩, S1.drew⟩) (fun hHeld => ?_)
  refine take_run 0 (some 3) (v := ?_) rfl rfl (by kernel_rfl) (by kernel_rfl) (by kernel_rfl) (fun _ _ _ h => h) (by rfl) ?_ hHeld ?_
  rotate_left
  · ((intro w hSw); (try dsimp only at hSw); go_simp <;> with_reducible rfl)
  simp only [Act.put, List.setIfInBounds_toArray, List.set_cons_zero, List.set_cons_succ]
  refine take_run 1 (some 4) (v := ?_) rfl rfl (by kernel_rfl) (by kernel_rfl) (by kernel_rfl) (fun _ _ _ h => h) (by rfl) ?_ hHeld ?_
  rotate_left
  · ((intro w hSw); (try dsimp only at hSw); go_simp <;> with_reducible rfl)
  simp only [Act.put, List.setIfInBounds_toArray, List.set_cons_zero, List.set_cons_succ]
  refine take_run 2 (some 5) (v := ?_) rfl rfl (by kernel_rfl) (by kernel_rfl) (by kernel_rfl) (fun _ _ _ h => h) (by rfl) ?_ hHeld ?_
  rotate_left
  · ((intro w hSw); (try dsimp only at hSw); go_simp <;> with_reducible rfl)
  simp only [Act.put, List.setIfInBounds_toArray, List.set_cons_zero, List.set_cons_succ]
  refine take_run 5 (some 8) (v := ?_) rfl rfl (by kernel_rfl) (by kernel_rfl) (by kernel_rfl) (fun _ _ _ h => h) (by rfl) ?_ hHeld ?_
  rotate_left
  · ((intro w hSw); (try dsimp only at hSw); go_simp <;> with_reducible rfl)
  simp only [Act.put, List.setIfInBounds_toArray, List.set_cons_zero, List.set_cons_succ]
  refine take_run 6 (some 9) (v := ?_) rfl rfl (by kernel_rfl) (by kernel_rfl) (by kernel_rfl) (fun _ _ _ h => h) (by rfl) ?_ hHeld ?_
  rotate_left
  · ((intro w hSw); (try dsimp only at hSw); go_simp <;> with_reducible rfl)
  simp only [Act.put, List.setIfInBounds_toArray, List.set_cons_zero, List.set_cons_succ]
  refine take_one 3 (by kernel_rfl) rfl (fun K hK => ?_)
  go_simp
  ((with_reducible refine (CV.out _ hHeld.2.2.below).mono ?_); rintro e w1 ⟨x1, us, rfl, hul, hli, hcr, hb1⟩; obtain ⟨A1, cap1, rfl, hR1⟩ := hcr.resS; have HL1 : Hid (LL us ss) := ⟨hul, hli⟩; have HR1 := hide hR1; have z1 : W0.heap.size ≤ w1.heap.size := (by have := hb1.size; simpa using this); have V1 := hHeld.2.1; have I1 := hHeld.2.2.on hb1; clear hR1 hcr hul hli)
  try go_wp2_with fail
  refine hK.out _ _ (by exact ⟨⟨(I1.nth 0 rfl).at 0, (I1.nth 0 rfl).at 1⟩, (by obtain ⟨c0, c1, h⟩ := V1; exact ⟨c0, c1, h.on hb1⟩), I1⟩) (fun hHeld => ?_)
  clear hK K
  refine take_run 4 (some 7) (v := ?_) rfl rfl (by kernel_rfl) (by kernel_rfl) (by kernel_rfl) (fun _ _ _ h => h) (by rfl) ?_ hHeld ?_
  rotate_left
  · ((intro w hSw); (try dsimp only at hSw); go_simp <;> with_reducible rfl)
  simp only [Act.put, List.setIfInBounds_toArray, List.set_cons_zero, List.set_cons_succ]
  refine take_one 7 (by kernel_rfl) rfl (fun K hK => ?_)
  go_simp
  ((with_reducible refine (CW.out _ hHeld.2.2.below).mono ?_); rintro e w2 ⟨x2, vs, rfl, hvl, hlv, hcv, hb2⟩; obtain ⟨A2, cap2, rfl, hR2⟩ := hcv.resS; have HL2 : Hid (LL vs ws) := ⟨hvl, hlv⟩; have HR2 := hide hR2; have HCV := hide hcv; have HR3 := hide (HR1.out.on hb2); have z2 : w1.heap.size ≤ w2.heap.size := hb2.size; obtain ⟨c0, c1, V2⟩ := hHeld.2.1; have V3 := V2.on hb2; have q3 := V3.two; have I2 := hHeld.2.2.on hb2; clear hR2 hcv hvl hlv V2)
  try go_wp2_with fail
  refine hK.out _ _ (by exact ⟨⟨(I2.nth 0 rfl).at 0, (I2.nth 0 rfl).at 1⟩, ⟨_, _, V3⟩, I2⟩) (fun hHeld => ?_)
  clear hK K
  refine take_run 8 (some 11) (v := ?_) rfl rfl (by kernel_rfl) (by kernel_rfl) (by kernel_rfl) (fun _ _ _ h => h) (by rfl) ?_ hHeld ?_
  rotate_left
  · ((intro w hSw); (try dsimp only at hSw); go_simp <;> with_reducible rfl)
  simp only [Act.put, List.setIfInBounds_toArray, List.set_cons_zero, List.set_cons_succ]
  refine take_one 9 (by kernel_rfl) rfl (fun K hK => ?_)
  go_simp
  refine hK.out _ _ (by exact ⟨⟨((hHeld.2.2.set (p := ⟨w.heap.size + 1, 0, none⟩) (Nat.le_refl _) (by simp) _).set (p := ⟨w.heap.size + 1, 1, none⟩) (Nat.le_refl _) (by simp) _ |>.nth 0 rfl).at 0, ((hHeld.2.2.set (p := ⟨w.heap.size + 1, 0, none⟩) (Nat.le_refl _) (by simp) _).set (p := ⟨w.heap.size + 1, 1, none⟩) (Nat.le_refl _) (by simp) _ |>.nth 0 rfl).at 1⟩, ⟨_, _, (V3.put 0 _).put 1 _⟩, (hHeld.2.2.set (p := ⟨w.heap.size + 1, 0, none⟩) (Nat.le_refl _) (by simp) _).set (p := ⟨w.heap.size + 1, 1, none⟩) (Nat.le_refl _) (by simp) _⟩) (fun hHeld => ?_)
  clear hK K
  refine wpAnyH_done (by kernel_rfl) ?_ _
  refine NoPanic.normal ?_
  have HV3 := hide V3
  have V9 := (V3.put 0 (.slice A1 us.length cap1)).put 1 (.slice A2 vs.length cap2)
  simp only [List.setIfInBounds_toArray, List.set_cons_zero, List.set_cons_succ] at V9
  have q9 := V9.two
  have I9 := hHeld.2.2
  clear hHeld q3 V3
  go_wp2
  refine bodyPost_ret (v := .agg #[.slice A1 us.length cap1, .slice A2 vs.length cap2]) (by simp [results, Try.results69, go_sem, q9]) rfl ?_
  have T3 : Turn (fun g => g = w.heap.size + 1) w2 ((w2.setCell ⟨w.heap.size + 1, 0, none⟩ (.slice A1 us.length cap1)).setCell ⟨w.heap.size + 1, 1, none⟩ (.slice A2 vs.length cap2)) :=
    ((Turn.refl (fun g => g = w.heap.size + 1) w2).set (p := ⟨w.heap.size + 1, 0, none⟩) rfl _).set (p := ⟨w.heap.size + 1, 1, none⟩) rfl _
  have Z3 : ((w2.setCell ⟨w.heap.size + 1, 0, none⟩ (.slice A1 us.length cap1)).setCell ⟨w.heap.size + 1, 1, none⟩ (.slice A2 vs.length cap2)).heap.size = w2.heap.size := by simp [World.setCell]
  have r1 := HR3.out
  have r2 := HR2.out
  have e1 : W0.drew.heap.size = W0.heap.size := rfl
  refine ⟨⟨A1, cap1, us, A2, cap2, vs⟩, rfl, ⟨HL1.out.1, HL1.out.2, HL2.out.1, HL2.out.2⟩, ?_, ?_, fun g h1 h2 => ?_, ?_, I9.below⟩
  · rw [Z3]
    exact ((r1.turn T3 (fun g h1 h2 e => by omega)).low (by omega)).wide z2
  · rw [Z3]
    exact (r2.turn T3 (fun g h1 h2 e => by omega)).low (by omega)
  · have := r1.foot h1
    rcases h2 with h2 | h2
    · have := r2.foot h2
      omega
    · obtain ⟨_, _, h3, _⟩ := HCV.out.typed g h2
      omega
  · exact (HCV.out.turnedT T3 (fun g e => by subst e; exact ⟨_, _, HV3.out, node_ne_ver, node_ne_tag⟩)).down (by omega)
end Go.Proofs.Ytjnloillcgeodaa
