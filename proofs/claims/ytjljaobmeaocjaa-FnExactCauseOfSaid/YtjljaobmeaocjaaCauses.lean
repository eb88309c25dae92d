/- What a write hangs on: plain part; contracts of the program's functions. Condition: at most 1048576 records; a tag whose numbers an int can hold. -/
import Derived.Test.YtjljaobmeaocjaaHistSees
namespace Go.Proofs.Ytjljaobmeaocjaa
open Go.RowKit Go.Joins

/-- The view on which a write depends, if all fits and it was written. -/
def causeO (ds : List D) (t u : Int) : Option T4 := if histOk ds = true then (match ds.foldlM stepH st0 with | some st => (wrote st t u).map Prod.snd | none => none) else none
theorem causeO_bad {ds : List D} {t u : Int} (h : histOk ds = false) : causeO ds t u = none := by unfold causeO; rw [h]; rfl
theorem causeO_none {ds : List D} {t u : Int} {st : St} (h : histOk ds = true) (hr : Runs ds st) (hw : wrote st t u = none) : causeO ds t u = none := by
  unfold causeO
  unfold Runs at hr
  rw [h, hr]
  simp [hw]
theorem causeO_some {ds : List D} {t u : Int} {st : St} {x : D × T4} (h : histOk ds = true) (hr : Runs ds st) (hw : wrote st t u = some x) : causeO ds t u = some x.2 := by
  unfold causeO
  unfold Runs at hr
  rw [h, hr]
  simp [hw]
theorem causeO_len (ds : List D) (t u : Int) : ((causeO ds t u).getD []).length ≤ 4 := by
  unfold causeO
  split
  · split
    · rename_i st hr
      cases hw : wrote st t u with
      | none => simp
      | some x => simpa using Nat.le_of_eq (wrote_len (Runs.ok hr) hw)
    · simp
  · simp
/-- An answer that is a vector and whether there is one. -/
def Answer2 (w : World) (o : Option T4) (e : Ending) (w' : World) : Prop :=
  ∃ (A : Option Addr) (cap : Nat), e = .returned (.tuple #[.agg #[.slice A (o.getD []).length cap], .bool o.isSome]) ∧ Res w' w.heap.size w'.heap.size A (o.getD []) ∧ Below w.heap.size w w'
theorem answer2_nil {w w' : World} {o : Option T4} (hr : o = none) (hb : Below w.heap.size w w') : Answer2 w o (.returned (.tuple #[.agg #[.slice none 0 0], .bool false])) w' := by
  subst hr
  exact ⟨none, 0, rfl, .inl ⟨rfl, rfl⟩, hb⟩
theorem answer2_four {w w' : World} {o : Option T4} {rs : T4} {g cap : Nat} {T : TypeId} {cur : Array Value} (ho : o = some rs) (h4 : rs.length = 4) (hg : w.heap.size ≤ g) (hB : Blk w' g T cur) (hsz : 8 ≤ cur.size) (hc : ∀ i x, rs[i]? = some x → TagAt cur i x) (hb : Below w.heap.size w w') : Answer2 w o (.returned (.tuple #[.agg #[.slice (some ⟨g, 0, none⟩) 4 cap], .bool true])) w' := by
  subst ho
  exact ⟨some ⟨g, 0, none⟩, cap, by simp only [Option.getD_some, h4]; rfl, Res.of hg hB.inside hB (by simp only [Option.getD_some, h4]; exact hsz) hc, hb⟩

/-- What consistent answers where all fits. -/
def Known (w : World) (st : St) (e : Ending) (w' : World) : Prop :=
  ∃ b1 b2 : Nat, e = .returned (.tuple #[.agg #[.map (some b1), .map (some b2)], .bool true]) ∧ VM w' b1 100 st ∧ WM w' b2 100 st ∧ w.heap.size ≤ b1 ∧ w.heap.size ≤ b2 ∧ b1 ≠ b2 ∧ Below w.heap.size w w'

set_option maxHeartbeats 2000000 in
theorem consistent_not (a : Option Addr) (c : Nat) (ds : List D) (w : World) (hn : ds.length ≤ 1048576) (ho : histOk ds = false) (hd : Dg w w.heap.size a ds) :
    Calls Try.prog 74 #[.slice a ds.length c] w fun e w' => e = .returned (.tuple #[.agg #[.map none, .map none], .bool false]) ∧ Below w.heap.size w w' := by
  have S0 := (Inv.start w).box 70 #[.map none, .map none]
  simp only [World.size_alloc] at S0
  have HO := hide ho
  clear ho
  go_enter Try.func74, Try.ntmps74
  go_wp2_with fail
  generalize w.alloc (.cells #[.map none, .map none] 70) = W at S0 ⊢
  refine (implHistOk_any a c ds W hn ((hd.on S0.below).up S0.base)).mono ?_
  rintro e w1 ⟨rfl, hb1⟩
  rw [HO.out]
  have S1 := S0.on hb1
  have q1 := (S1.nth 0 rfl).two
  clear S0
  go_wp2
  refine bodyPost_ret (v := .tuple #[.agg #[.map none, .map none], .bool false]) (by simp [results, Try.results74, go_sem, q1]) rfl ?_
  exact ⟨rfl, (S1.below.setCell (by simp) _).setCell (by simp) _⟩
set_option maxHeartbeats 2000000 in
theorem consistent_ok (a : Option Addr) (c : Nat) (ds : List D) (st : St) (w : World) (hn : ds.length ≤ 1048576) (ho : histOk ds = true) (hr : Runs ds st) (hd : Dg w w.heap.size a ds) :
    Calls Try.prog 74 #[.slice a ds.length c] w (Known w st) := by
  have S0 := (Inv.start w).box 70 #[.map none, .map none]
  simp only [World.size_alloc] at S0
  have HO := hide ho
  have HF := hide (histOk_form ho)
  have HST := hide hr
  clear ho hr
  go_enter Try.func74, Try.ntmps74
  go_wp2_with fail
  generalize w.alloc (.cells #[.map none, .map none] 70) = W at S0 ⊢
  refine (implHistOk_any a c ds W hn ((hd.on S0.below).up S0.base)).mono ?_
  rintro e w1 ⟨rfl, hb1⟩
  rw [HO.out]
  have S1 := S0.on hb1
  clear S0
  go_wp2_with fail
  refine (accountOf_any a c ds w1 HF.out ((hd.on S1.below).up S1.base)).mono ?_
  rintro e w2 ⟨b1, b2, st', rfl, hR, hV, hW, hb1', hb2', hne, hb2⟩
  have hst : st' = st := by
    have h1 : farH ds = ds.length := far_all HST.out
    rw [h1, List.take_length] at hR
    have h2 := HST.out
    unfold Runs at hR h2
    rw [h2] at hR
    injection hR with hR
    exact hR.symm
  subst hst
  have z1 := S1.room
  have zb := S1.base
  have S2 := (S1.on hb2).top.box 70 #[.map (some b1), .map (some b2)]
  have HV := hide (hV.on (below_alloc1 w2 (.cells #[.map (some b1), .map (some b2)] 70)))
  have HW := hide (hW.on (below_alloc1 w2 (.cells #[.map (some b1), .map (some b2)] 70)))
  have q1 := (S2.nth 0 rfl).two
  have q2 := (S2.nth 1 rfl).two
  clear hR hV hW S1 hb1 hb2
  go_wp2
  refine bodyPost_ret (v := .tuple #[.agg #[.map (some b1), .map (some b2)], .bool true]) (by simp [results, Try.results74, go_sem, q2]) rfl ?_
  exact ⟨b1, b2, rfl, (HV.out.set (by simp; omega) _).set (by simp; omega) _, (HW.out.set (by simp; omega) _).set (by simp; omega) _, by omega, by omega, hne, (S2.below.setCell (by simp) _).setCell (by simp) _⟩

set_option maxHeartbeats 2000000 in
theorem wrote_look (b1 b2 N : Nat) (st : St) (t u : Int) (w : World) (ht : inT t u = true) (hok : StOk st) (hW : WM w b2 N st) :
    Calls Try.prog 75 #[.agg #[.map (some b1), .map (some b2)], .agg #[.int .i64 t, .int .i64 u]] w fun e w' => e = .returned (.bool (wrote st t u).isSome) ∧ Below w.heap.size w w' := by
  have S0 := ((Inv.start w).box 70 #[.map (some b1), .map (some b2)]).box 43 #[.int .i64 t, .int .i64 u]
  have W1 := hW.on S0.below
  cases hw : wrote st t u with
  | none =>
    have hlk := W1.missing' ht hw
    simp only [Option.isSome_none]
    clear hw W1 hW
    go_enter Try.func75, Try.ntmps75
    go_wp2
    go_ret
    exact ⟨rfl, S0.below.alloc S0.base _⟩
  | some x =>
    obtain ⟨d, p⟩ := x
    obtain ⟨p0, p1, p2, p3, rfl⟩ := four_len (wrote_len hok hw)
    have hlk := W1.found' ht hw
    rw [wrCells_eq] at hlk
    simp only [Option.isSome_some]
    clear hw W1 hW
    go_enter Try.func75, Try.ntmps75
    go_wp2
    go_ret
    exact ⟨rfl, S0.below.alloc S0.base _⟩

set_option maxRecDepth 100000 in
theorem field_past (a b c d e f g h i j : Value) (W : World) : (Instr.field 82 (.agg #[a, b, c, d, e, f, g, h, i, j]) 2).run Try.prog W = .ok (.agg #[c, d, e, f, g, h, i, j]) W := by kernel_rfl
set_option maxRecDepth 100000 in
set_option maxHeartbeats 4000000 in
theorem implCauseOf_any (a : Option Addr) (c : Nat) (ds : List D) (t u : Int) (w : World) (hn : ds.length ≤ 1048576) (ht : inT t u = true) (hd : Dg w w.heap.size a ds) :
    Calls Try.prog 41 #[.slice a ds.length c, .agg #[.int .i64 t, .int .i64 u]] w (Answer2 w (causeO ds t u)) := by
  have S0 := ((Inv.start w).box 43 #[.int .i64 t, .int .i64 u]).box 35 #[.slice none 0 0]
  simp only [World.size_alloc] at S0
  cases ho : histOk ds
  · have HO := hide ho
    have HE := hide (causeO_bad (t := t) (u := u) ho)
    clear ho
    go_enter Try.func41, Try.ntmps41
    go_wp2_with fail
    generalize (w.alloc (.cells #[.int .i64 t, .int .i64 u] 43)).alloc (.cells #[.slice none 0 0] 35) = W at S0 ⊢
    refine (consistent_not a c ds W hn HO.out ((hd.on S0.below).up S0.base)).mono ?_
    rintro e w1 ⟨rfl, hb1⟩
    have S1 := ((S0.on hb1).top).box 70 #[.map none, .map none]
    have q1 := (S1.nth 1 rfl).one
    have z1 := S0.room
    have z2 := hb1.size
    clear S0
    go_wp2
    refine bodyPost_ret (v := .tuple #[.agg #[.slice none 0 0], .bool false]) (by simp [results, Try.results41, go_sem, q1]) rfl ?_
    exact answer2_nil HE.out (S1.below.setCell (by simp) _)
  · have HO := hide ho
    obtain ⟨st, hst⟩ := histOk_runs ho
    have HST := hide hst
    clear ho hst
    cases hw : wrote st t u with
    | none =>
      have HWR := hide hw
      have HE := hide (causeO_none HO.out HST.out hw)
      clear hw
      go_enter Try.func41, Try.ntmps41
      go_wp2_with fail
      generalize (w.alloc (.cells #[.int .i64 t, .int .i64 u] 43)).alloc (.cells #[.slice none 0 0] 35) = W at S0 ⊢
      refine (consistent_ok a c ds st W hn HO.out HST.out ((hd.on S0.below).up S0.base)).mono ?_
      rintro e w1 ⟨b1, b2, rfl, hV, hW, hb1', hb2', hne, hb1⟩
      have S1 := ((S0.on hb1).top).box 70 #[.map (some b1), .map (some b2)]
      have q0 := (S1.nth 0 rfl).two
      have q1 := (S1.nth 1 rfl).one
      have q2 := (S1.nth 2 rfl).two
      have z1 := S0.room
      have z2 := hb1.size
      have HW2 := hide (hW.on (below_alloc1 w1 (.cells #[.map (some b1), .map (some b2)] 70)))
      clear S0 hV hW
      go_wp2_with fail
      refine (wrote_look b1 b2 100 st t u _ ht HST.out.ok HW2.out).mono ?_
      rintro e w3 ⟨rfl, hb3⟩
      rw [HWR.out]
      have S3 := S1.on hb3
      have q3 := (S3.nth 1 rfl).one
      clear S1 q0 q1 q2 HW2 hb3
      go_wp2
      refine bodyPost_ret (v := .tuple #[.agg #[.slice none 0 0], .bool false]) (by simp [results, Try.results41, go_sem, q3]) rfl ?_
      exact answer2_nil HE.out (S3.below.setCell (by simp) _)
    | some x =>
      obtain ⟨d, p⟩ := x
      obtain ⟨p0, p1, p2, p3, rfl⟩ := four_len (wrote_len HST.out.ok hw)
      have HWR := hide hw
      have HE := hide (causeO_some HO.out HST.out hw)
      clear hw
      go_enter Try.func41, Try.ntmps41
      go_wp2_with fail
      generalize (w.alloc (.cells #[.int .i64 t, .int .i64 u] 43)).alloc (.cells #[.slice none 0 0] 35) = W at S0 ⊢
      refine (consistent_ok a c ds st W hn HO.out HST.out ((hd.on S0.below).up S0.base)).mono ?_
      rintro e w1 ⟨b1, b2, rfl, hV, hW, hb1', hb2', hne, hb1⟩
      have S1 := ((S0.on hb1).top).box 70 #[.map (some b1), .map (some b2)]
      have q0 := (S1.nth 0 rfl).two
      have q1 := (S1.nth 1 rfl).one
      have q2 := (S1.nth 2 rfl).two
      have z1 := S0.room
      have z2 := hb1.size
      have HW2 := hide (hW.on (below_alloc1 w1 (.cells #[.map (some b1), .map (some b2)] 70)))
      clear S0 hV hW
      go_wp2_with fail
      refine (wrote_look b1 b2 100 st t u _ ht HST.out.ok HW2.out).mono ?_
      rintro e w3 ⟨rfl, hb3⟩
      rw [HWR.out]
      have S3 := (S1.on hb3).top
      have HW3 := hide (HW2.out.on hb3)
      have hlk := HW3.out.look ht HWR.out
      rw [wrCells_eq] at hlk
      have q0 := (S3.nth 0 rfl).two
      have q1 := (S3.nth 1 rfl).one
      have q2 := (S3.nth 2 rfl).two
      have z3 := S3.room
      have z4' := hb3.size
      simp at z4'
      have hfd := field_past (.int .i64 d.1) (.int .i64 d.2.2.1) (.int .i64 p0.1) (.int .i64 p0.2) (.int .i64 p1.1) (.int .i64 p1.2) (.int .i64 p2.1) (.int .i64 p2.2) (.int .i64 p3.1) (.int .i64 p3.2)
      clear S1 HW2 hb3 HW3
      go_wp2_with fail
      refine (past_any p0 p1 p2 p3 w3).mono ?_
      rintro e w4 ⟨g, cap, T, cur, rfl, hg, hB, hsz, hcur, hb4⟩
      have S4 := S3.on hb4
      have q4 := (S4.nth 1 rfl).one
      have HC := hide hcur
      clear S3 q0 q1 q2 hlk hcur hfd
      go_wp2
      refine bodyPost_ret (v := .tuple #[.agg #[.slice (some ⟨g, 0, none⟩) 4 cap], .bool true]) (by simp [results, Try.results41, go_sem, q4]) rfl ?_
      exact answer2_four HE.out rfl (by omega) (hB.aside (by simp; omega) _) hsz HC.out (S4.below.setCell (by simp) _)
end Go.Proofs.Ytjljaobmeaocjaa
