/- Contracts of the program's account of a whole history: how far it fits, whether all fits. Condition: at most 1048576 records. -/
import Derived.Test.YtjljaobmeaocjaaHistImpl
import Derived.Test.YtjljaobmeaocjaaPastRes
import Derived.Test.YtjljaobmeaocjaaGuardSpec
namespace Go.Proofs.Ytjljaobmeaocjaa
open Go.RowKit Go.Joins

theorem Added.on {w w1 w' : World} {b1 b2 N : Nat} {st : St} {d : D} {e : Ending} (hb : Below w.heap.size w w1) (h : Added w1 b1 b2 N st d e w') : Added w b1 b2 N st d e w' := by
  obtain ⟨row, h1, h2, h3, h4, h5⟩ := h
  exact ⟨row, h1, h2, h3, (grown_none (row := row) hb).trans h4, h5⟩

set_option maxRecDepth 100000 in
set_option maxHeartbeats 2000000 in
theorem add_any (b1 b2 N : Nat) (st : St) (s k y t u : Int) (w : World) (hok : StOk st) (hv : doneB (s, k, y, t, u) = true) (hb : b1 ≠ b2) (hN : N < 1000) (hV : VM w b1 N st) (hW : WM w b2 N st) :
    Calls Try.prog 98 #[.agg #[.map (some b1), .map (some b2)], .agg (doneC s k y t u)] w (Added w b1 b2 N st (s, k, y, t, u)) := by
  have S0 := ((Inv.start w).box 70 #[.map (some b1), .map (some b2)]).box 53 (doneC s k y t u)
  cases hk : (k == 1)
  · have hi := doneB_i hv
    have hy : y = 0 ∨ y = 1 ∨ y = 2 ∨ y = 3 := by omega
    have C : ∀ W, Below w.heap.size w W → Calls Try.prog 110 #[.agg #[.map (some b1), .map (some b2)], .agg (doneC s k y t u)] W (Added W b1 b2 N st (s, k, y, t, u)) := by
      intro W hWb
      rcases hy with rfl | rfl | rfl | rfl
      · exact addSight_0 b1 b2 N st s k t u W hok hk hv hb hN (hV.on hWb) (hW.on hWb)
      · exact addSight_1 b1 b2 N st s k t u W hok hk hv hb hN (hV.on hWb) (hW.on hWb)
      · exact addSight_2 b1 b2 N st s k t u W hok hk hv hb hN (hV.on hWb) (hW.on hWb)
      · exact addSight_3 b1 b2 N st s k t u W hok hk hv hb hN (hV.on hWb) (hW.on hWb)
    have HC := hide C
    clear C hy hi hv hok hV hW
    go_enter Try.func98, Try.ntmps98
    go_wp2_with fail
    refine (HC.out _ S0.below).mono ?_
    rintro e w1 hA
    have hA' := hA.on S0.below
    obtain ⟨row, rfl, h2, h3, h4, h5⟩ := hA'
    have HA := hide (show Added w b1 b2 N st (s, k, y, t, u) (.returned (.bool (stepH st (s, k, y, t, u)).isSome)) w1 from ⟨row, rfl, h2, h3, h4, h5⟩)
    clear hA h2 h3 h4 h5 S0 HC
    generalize (stepH st (s, k, y, t, u)).isSome = r at HA ⊢
    go_wp2
    go_ret
    exact HA.out
  · have hk1 : k = 1 := by simpa using hk
    subst hk1
    have C : ∀ W, Below w.heap.size w W → Calls Try.prog 109 #[.agg #[.map (some b1), .map (some b2)], .agg (doneC s 1 y t u)] W (Added W b1 b2 N st (s, 1, y, t, u)) := fun W hWb => addWrite_any b1 b2 N st s y t u W hok hv hb hN (hV.on hWb) (hW.on hWb)
    have HC := hide C
    clear C hv hok hV hW
    go_enter Try.func98, Try.ntmps98
    go_wp2_with fail
    refine (HC.out _ S0.below).mono ?_
    rintro e w1 hA
    have hA' := hA.on S0.below
    obtain ⟨row, rfl, h2, h3, h4, h5⟩ := hA'
    have HA := hide (show Added w b1 b2 N st (s, 1, y, t, u) (.returned (.bool (stepH st (s, 1, y, t, u)).isSome)) w1 from ⟨row, rfl, h2, h3, h4, h5⟩)
    clear hA h2 h3 h4 h5 S0 HC
    generalize (stepH st (s, 1, y, t, u)).isSome = r at HA ⊢
    go_wp2
    go_ret
    exact HA.out

/-- What an account of a whole history is. -/
def Account (w : World) (ds : List D) (e : Ending) (w' : World) : Prop :=
  ∃ (b1 b2 : Nat) (st : St), e = .returned (.tuple #[.agg #[.map (some b1), .map (some b2)], .int .i64 (farH ds : Int)]) ∧ Runs (ds.take (farH ds)) st ∧ VM w' b1 100 st ∧ WM w' b2 100 st ∧ w.heap.size ≤ b1 ∧ w.heap.size ≤ b2 ∧ b1 ≠ b2 ∧ Below w.heap.size w w'

set_option maxRecDepth 100000 in
set_option maxHeartbeats 4000000 in
theorem accountOf_any (a : Option Addr) (c : Nat) (ds : List D) (w : World) (hf : formB ds = true) (hd : Dg w w.heap.size a ds) :
    Calls Try.prog 69 #[.slice a ds.length c] w (Account w ds) := by
  have hl80 : ds.length ≤ 80 := by
    apply Classical.byContradiction
    intro h
    rw [formB_len h] at hf
    cases hf
  have hmm := @run_makeMap Try.prog
  have HF := hide hf
  have V0 := (VM.made (w.alloc (.cells #[.map none, .map none] 70)))
  have W0 := (WM.made ((w.alloc (.cells #[.map none, .map none] 70)).alloc (.map #[] 0)))
  have L1 := below_alloc1 ((w.alloc (.cells #[.map none, .map none] 70)).alloc (.map #[] 0)) (.map #[] 0)
  have L2 := below_alloc1 (((w.alloc (.cells #[.map none, .map none] 70)).alloc (.map #[] 0)).alloc (.map #[] 0)) (.cells #[.map (some (w.heap.size + 1)), .map (some (w.heap.size + 1 + 1))] 70)
  have V1 := (V0.on L1).on L2
  have W1 := W0.on L2
  have B0 := (((Blk.made w 70 #[.map none, .map none]).more (.map #[] 0)).more (.map #[] 0)).more (.cells #[.map (some (w.heap.size + 1)), .map (some (w.heap.size + 1 + 1))] 70)
  have B3 := Blk.made (((w.alloc (.cells #[.map none, .map none] 70)).alloc (.map #[] 0)).alloc (.map #[] 0)) 70 #[.map (some (w.heap.size + 1)), .map (some (w.heap.size + 1 + 1))]
  simp only [World.size_alloc] at V1 W1 B3
  have L3 : Below w.heap.size w ((((w.alloc (.cells #[.map none, .map none] 70)).alloc (.map #[] 0)).alloc (.map #[] 0)).alloc (.cells #[.map (some (w.heap.size + 1)), .map (some (w.heap.size + 1 + 1))] 70)) :=
    ((((Below.refl _ _).alloc (Nat.le_refl _) _).alloc (by simp) _).alloc (by simp; omega) _).alloc (by simp; omega) _
  have I0 : Inv w (w.heap.size + 1 + 1 + 1 + 1) [(w.heap.size + 1 + 1 + 1, 70, #[.map (some (w.heap.size + 1)), .map (some (w.heap.size + 1 + 1))]), (w.heap.size, 70, #[.map none, .map none])] ((((w.alloc (.cells #[.map none, .map none] 70)).alloc (.map #[] 0)).alloc (.map #[] 0)).alloc (.cells #[.map (some (w.heap.size + 1)), .map (some (w.heap.size + 1 + 1))] 70)) :=
    ⟨L3, by simp, fun x hx => by
      simp only [List.mem_cons, List.not_mem_nil, or_false] at hx
      rcases hx with rfl | rfl
      · exact ⟨by simp only; omega, by simp, B3⟩
      · exact ⟨Nat.le_refl _, by simp only; omega, B0⟩⟩
  have HV1 := hide V1
  have HW1 := hide W1
  clear V0 W0 L1 L2 V1 W1 B0 B3 L3 hf
  generalize hnn : ds.length = n at *
  have HN := hide hnn
  clear hnn
  go_enter Try.func69, Try.ntmps69
  go_wp2
  go_loopw [12] (fun i wr => ∃ (k : Nat) (st : St), k ≤ n ∧ i = .int .i64 (k : Int) ∧ Hid (Runs (ds.take k) st) ∧ VM wr (w.heap.size + 1) k st ∧ WM wr (w.heap.size + 1 + 1) k st ∧ Inv w (w.heap.size + 1 + 1 + 1 + 1) [(w.heap.size + 1 + 1 + 1, 70, #[.map (some (w.heap.size + 1)), .map (some (w.heap.size + 1 + 1))]), (w.heap.size, 70, #[.map none, .map none])] wr) (fun i _ => n - (intOf i).toNat)
  case atStart => exact ⟨0, st0, Nat.zero_le _, rfl, runs_nil, HV1.out, HW1.out, I0⟩
  case round =>
    obtain ⟨k, st, hk, rfl, hR, hV, hW, hI⟩ := hrel
    clear I0 HV1 HW1 hmm
    have hL := hI.below
    have HV := hide hV
    have HW := hide hW
    clear hV hW
    by_cases hlt : k < n
    · rcases hd with h0 | ⟨b, off, rfl, hb, hx⟩
      · have := HN.out; subst h0; simp at this; omega
      · have hkl : k < ds.length := by have := HN.out; omega
        have F0 := (hx k _ (List.getElem?_eq_getElem hkl)).on hb hL
        have HX := hide (List.getElem?_eq_getElem hkl)
        generalize ds[k] = x at F0 HX
        have HDV := hide (form_at HF.out HX.out)
        obtain ⟨x0, x1, x2, x3, x4⟩ := x
        have i1 : (0 : Int) ≤ (k : Int) := by omega
        have i2 : (k : Int) < (n : Int) := by omega
        have q1 := (hI.nth 0 rfl).two
        have q2 := (hI.alloc (.cells (doneC x0 x1 x2 x3 x4) 53))
        have q3 := (q2.nth 0 rfl).two
        have LA := below_alloc1 wr (.cells (doneC x0 x1 x2 x3 x4) 53)
        clear hx
        go_wp2_with fail
        refine (add_any (w.heap.size + 1) (w.heap.size + 1 + 1) k st x0 x1 x2 x3 x4 _ (Runs.ok hR.out) HDV.out (by omega) (by omega) (HV.out.on LA) (HW.out.on LA)).mono ?_
        rintro e w1 ⟨row, rfl, hV1, hW1, hG1, hrow⟩
        have HROW := hide hrow
        have I1 : Inv w (w.heap.size + 1 + 1 + 1 + 1) [(w.heap.size + 1 + 1 + 1, 70, #[.map (some (w.heap.size + 1)), .map (some (w.heap.size + 1 + 1))]), (w.heap.size, 70, #[.map none, .map none])] w1 := q2.part hG1 (fun g e => by have := HROW.out g e; omega) (fun x hx g e => by
          simp only [List.mem_cons, List.not_mem_nil, or_false] at hx
          have := HROW.out g e
          rcases hx with rfl | rfl <;> simp only <;> omega)
        have HV1 := hide hV1
        have HW1 := hide hW1
        clear q1 q2 q3 LA hG1 hrow hV1 hW1 F0 hI hL HV HW
        cases hs : stepH st (x0, x1, x2, x3, x4) with
        | none =>
          have HFAR := hide (far_stop hR.out HX.out hs)
          have V2 := HV1.out
          have W2 := HW1.out
          rw [hs] at V2 W2
          have HV2 : Hid (VM w1 (w.heap.size + 1) 100 st) := V2.mono (by omega)
          have HW2 : Hid (WM w1 (w.heap.size + 1 + 1) 100 st) := W2.mono (by omega)
          have q1 := (I1.nth 0 rfl).two
          have q2 := (I1.nth 1 rfl).two
          clear hs V2 W2 HV1 HW1
          go_wp2
          refine bodyPost_ret (v := .tuple #[.agg #[.map (some (w.heap.size + 1)), .map (some (w.heap.size + 1 + 1))], .int .i64 (k : Int)]) (by simp [results, Try.results69, go_sem, q2]) rfl ?_
          exact ⟨_, _, st, by rw [HFAR.out], by rw [HFAR.out]; exact hR.out, (HV2.out.set (by simp) _).set (by simp) _, (HW2.out.set (by simp; omega) _).set (by simp; omega) _, by omega, by omega, by omega, (I1.below.setCell (by simp) _).setCell (by simp) _⟩
        | some st' =>
          have HR1 : Hid (Runs (ds.take (k + 1)) st') := runs_step hR.out HX.out hs
          have V2 := HV1.out
          have W2 := HW1.out
          rw [hs] at V2 W2
          have HV2 : Hid (VM w1 (w.heap.size + 1) (k + 1) st') := V2
          have HW2 : Hid (WM w1 (w.heap.size + 1 + 1) (k + 1) st') := W2
          clear hs V2 W2 HV1 HW1
          go_wp2
          exact ⟨⟨k + 1, st', by omega, by go_num, HR1, HV2.out, HW2.out, I1⟩, by simp [intOf]; omega⟩
    · have hkn : k = n := by omega
      subst hkn
      clear hlt
      have HRR : Hid (Runs ds st) := by
        have := hR.out
        rw [← HN.out, List.take_length] at this
        exact this
      have HFAR : Hid (farH ds = k) := by unfold Hid; rw [far_all HRR.out, HN.out]
      have HV2 : Hid (VM wr (w.heap.size + 1) 100 st) := HV.out.mono (by omega)
      have HW2 : Hid (WM wr (w.heap.size + 1 + 1) 100 st) := HW.out.mono (by omega)
      have q1 := (hI.nth 0 rfl).two
      have q2 := (hI.nth 1 rfl).two
      go_wp2
      refine bodyPost_ret (v := .tuple #[.agg #[.map (some (w.heap.size + 1)), .map (some (w.heap.size + 1 + 1))], .int .i64 (k : Int)]) (by simp [results, Try.results69, go_sem, q2]) rfl ?_
      exact ⟨_, _, st, by rw [HFAR.out], by rw [HFAR.out]; exact hR.out, (HV2.out.set (by simp) _).set (by simp) _, (HW2.out.set (by simp; omega) _).set (by simp; omega) _, by omega, by omega, by omega, (hI.below.setCell (by simp) _).setCell (by simp) _⟩

set_option maxHeartbeats 2000000 in
theorem implHistFar_any (a : Option Addr) (c : Nat) (ds : List D) (w : World) (hn : ds.length ≤ 1048576) (hd : Dg w w.heap.size a ds) :
    Calls Try.prog 33 #[.slice a ds.length c] w fun e w' => e = .returned (.int .i64 (histFar ds)) ∧ Below w.heap.size w w' := by
  have C0 := hide (wellFormed_any a c ds w hn hd)
  cases hf : formB ds
  · have HF := hide hf
    have HR : Hid (histFar ds = -1) := by unfold Hid histFar; rw [hf]; rfl
    clear hf
    go_enter Try.func33, Try.ntmps33
    go_wp2_with fail
    refine C0.out.mono ?_
    rintro e w1 ⟨rfl, hb1⟩
    rw [HF.out]
    go_wp2
    go_ret
    exact ⟨ret_int HR.out.symm, hb1⟩
  · have C1 := hide (fun W (h : Below w.heap.size w W) => accountOf_any a c ds W hf ((hd.on h).up h.size))
    have HF := hide hf
    have HR : Hid (histFar ds = (farH ds : Int)) := by unfold Hid histFar; rw [hf]; rfl
    clear hf
    go_enter Try.func33, Try.ntmps33
    go_wp2_with fail
    refine C0.out.mono ?_
    rintro e w1 ⟨rfl, hb1⟩
    rw [HF.out]
    go_wp2_with fail
    refine (C1.out w1 hb1).mono ?_
    rintro e w2 ⟨b1, b2, st, rfl, hR, hV, hW, hb1', hb2', hne, hb2⟩
    have hl := hb1.trans (hb2.mono hb1.size)
    clear hR hV hW
    go_wp2
    go_ret
    exact ⟨ret_int HR.out.symm, hl.alloc hl.size _⟩

theorem histFar_le (ds : List D) : histFar ds ≤ ds.length ∧ -1 ≤ histFar ds := by
  have := farFrom_le ds st0
  unfold histFar farH
  split <;> omega
set_option maxHeartbeats 1000000 in
theorem implHistOk_any (a : Option Addr) (c : Nat) (ds : List D) (w : World) (hn : ds.length ≤ 1048576) (hd : Dg w w.heap.size a ds) :
    Calls Try.prog 31 #[.slice a ds.length c] w fun e w' => e = .returned (.bool (histOk ds)) ∧ Below w.heap.size w w' := by
  have C0 := hide (implHistFar_any a c ds w hn hd)
  have H : Hid (histOk ds = (histFar ds == (ds.length : Int))) := by unfold Hid histOk; rw [Bool.eq_iff_iff]; simp
  go_enter Try.func31, Try.ntmps31
  go_wp2_with fail
  refine C0.out.mono ?_
  rintro e w1 ⟨rfl, hb1⟩
  generalize histFar ds = r at H ⊢
  go_wp2
  go_ret
  exact ⟨ret_bool H.out.symm, hb1⟩
end Go.Proofs.Ytjljaobmeaocjaa
