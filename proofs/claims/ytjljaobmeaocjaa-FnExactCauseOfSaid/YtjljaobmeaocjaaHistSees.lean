/- Contract of the program's HistSees: the view of a client behind a whole history. Condition: at most 1048576 records. -/
import Derived.Test.YtjljaobmeaocjaaHistImpl2
namespace Go.Proofs.Ytjljaobmeaocjaa
open Go.RowKit Go.Joins

/-- What a client has seen behind a whole history. -/
def seesL (ds : List D) (s : Int) : T4 := if (histOk ds && inB s 0 3) = true then (match ds.foldlM stepH st0 with | some st => viewOf st s | none => []) else []
theorem seesL_none {ds : List D} {s : Int} (h : (histOk ds && inB s 0 3) = false) : seesL ds s = [] := by unfold seesL; rw [h]; rfl
theorem seesL_some {ds : List D} {s : Int} {st : St} (h : histOk ds = true) (h0 : 0 ≤ s) (h3 : s ≤ 3) (hr : Runs ds st) : seesL ds s = viewOf st s := by
  have hi : inB s 0 3 = true := decide_eq_true ⟨h0, h3⟩
  unfold seesL
  rw [h, hi]
  unfold Runs at hr
  rw [hr]
  rfl
theorem seesL_len (ds : List D) (s : Int) : (seesL ds s).length ≤ 4 := by
  unfold seesL
  split
  · split
    · rename_i st hr
      exact Nat.le_of_eq (viewOf_len (Runs.ok hr) s)
    · simp
  · simp
theorem answer_nil {w w' : World} {rs : T4} (hr : rs = []) (hb : Below w.heap.size w w') : Answer w rs (.returned (.agg #[.slice none 0 0])) w' := by
  subst hr
  exact ⟨none, 0, rfl, .inl ⟨rfl, rfl⟩, hb⟩
theorem answer_four {w w' : World} {rs : T4} {g cap : Nat} {T : TypeId} {cur : Array Value} (h4 : rs.length = 4) (hg : w.heap.size ≤ g) (hB : Blk w' g T cur) (hsz : 8 ≤ cur.size) (hc : ∀ i x, rs[i]? = some x → TagAt cur i x) (hb : Below w.heap.size w w') : Answer w rs (.returned (.agg #[.slice (some ⟨g, 0, none⟩) 4 cap])) w' :=
  ⟨some ⟨g, 0, none⟩, cap, by rw [h4], Res.of hg hB.inside hB (by rw [h4]; exact hsz) hc, hb⟩

set_option maxRecDepth 100000 in
set_option maxHeartbeats 4000000 in
theorem implHistSees_any (a : Option Addr) (c : Nat) (ds : List D) (s : Int) (w : World) (hn : ds.length ≤ 1048576) (hd : Dg w w.heap.size a ds) :
    Calls Try.prog 35 #[.slice a ds.length c, .int .i64 s] w (Answer w (seesL ds s)) := by
  have S0 := (Inv.start w).box 35 #[.slice none 0 0]
  simp only [World.size_alloc] at S0
  cases ho : histOk ds
  · have HO := hide ho
    have HE := hide (seesL_none (ds := ds) (s := s) (by rw [ho]; rfl))
    clear ho
    go_enter Try.func35, Try.ntmps35
    go_wp2_with fail
    generalize w.alloc (.cells #[.slice none 0 0] 35) = W at S0 ⊢
    refine (implHistOk_any a c ds W hn ((hd.on S0.below).up S0.base)).mono ?_
    rintro e w1 ⟨rfl, hb1⟩
    rw [HO.out]
    have S1 := S0.on hb1
    have q1 := (S1.nth 0 rfl).one
    clear S0
    go_wp2
    refine bodyPost_ret (v := .agg #[.slice none 0 0]) (by simp [results, Try.results35, go_sem, q1]) rfl ?_
    exact answer_nil HE.out (S1.below.setCell (by simp) _)
  · have HO := hide ho
    have HF := hide (histOk_form ho)
    obtain ⟨st, hst⟩ := histOk_runs ho
    have HST := hide hst
    clear ho hst
    by_cases hs : 0 ≤ s ∧ s ≤ 3
    · obtain ⟨h0, h3⟩ := hs
      have h4 : ¬ s < 0 := by omega
      have h5 : ¬ 4 ≤ s := by omega
      have HE := hide (seesL_some HO.out h0 h3 HST.out)
      go_enter Try.func35, Try.ntmps35
      go_wp2_with fail
      generalize w.alloc (.cells #[.slice none 0 0] 35) = W at S0 ⊢
      refine (implHistOk_any a c ds W hn ((hd.on S0.below).up S0.base)).mono ?_
      rintro e w1 ⟨rfl, hb1⟩
      rw [HO.out]
      have S1 := S0.on hb1
      have q1 := (S1.nth 0 rfl).one
      clear S0
      go_wp2_with fail
      refine (accountOf_any a c ds w1 HF.out ((hd.on S1.below).up S1.base)).mono ?_
      rintro e w2 ⟨b1, b2, st', rfl, hR, hV, hW, hb1', hb2', hne, hb2⟩
      have S2 := (S1.on hb2).top.box 70 #[.map (some b1), .map (some b2)]
      have hst : st' = st := by
        have h1 : farH ds = ds.length := far_all HST.out
        rw [h1, List.take_length] at hR
        have h2 := HST.out
        unfold Runs at hR h2
        rw [h2] at hR
        injection hR with hR
        exact hR.symm
      subst hst
      have hV2 := hV.on (below_alloc1 w2 (.cells #[.map (some b1), .map (some b2)] 70))
      have HLK := hide (hV2.look h0 h3)
      have q2 := (S2.nth 0 rfl).two
      obtain ⟨x0, x1, x2, x3, hx⟩ := four_len (viewOf_len (Runs.ok HST.out) s)
      have hlk := HLK.out
      rw [hx, cells4_eq] at hlk
      have HX := hide hx
      have zlt : w.heap.size + 1 ≤ w2.heap.size := by have := S1.room; have := hb2.size; omega
      clear hR hV hW HLK hV2 S1 q1 hx hb1 hb2
      go_wp2_with fail
      refine (past_any x0 x1 x2 x3 _).mono ?_
      rintro e w4 ⟨g, cap, T, cur, rfl, hg, hB, hsz, hcur, hb4⟩
      have S4 := S2.on hb4
      have q4 := (S4.nth 1 rfl).one
      have zz := S2.room
      have HC := hide hcur
      clear S2 q2 hlk hcur
      go_wp2
      refine bodyPost_ret (v := .agg #[.slice (some ⟨g, 0, none⟩) 4 cap]) (by simp [results, Try.results35, go_sem, q4]) rfl ?_
      rw [HE.out, HX.out]
      have zw := S4.base
      exact answer_four rfl (by simp at hg; omega) (hB.aside (by simp at hg ⊢; omega) _) hsz HC.out (S4.below.setCell (by simp) _)
    · have HE := hide (seesL_none (ds := ds) (s := s) (by rw [show inB s 0 3 = false from decide_eq_false hs]; simp))
      go_enter Try.func35, Try.ntmps35
      go_wp2_with fail
      generalize w.alloc (.cells #[.slice none 0 0] 35) = W at S0 ⊢
      refine (implHistOk_any a c ds W hn ((hd.on S0.below).up S0.base)).mono ?_
      rintro e w1 ⟨rfl, hb1⟩
      rw [HO.out]
      have S1 := S0.on hb1
      have q1 := (S1.nth 0 rfl).one
      clear S0
      by_cases h4 : s < 0
      · go_wp2
        refine bodyPost_ret (v := .agg #[.slice none 0 0]) (by simp [results, Try.results35, go_sem, q1]) rfl ?_
        exact answer_nil HE.out (S1.below.setCell (by simp) _)
      · have h5 : 4 ≤ s := by omega
        go_wp2
        refine bodyPost_ret (v := .agg #[.slice none 0 0]) (by simp [results, Try.results35, go_sem, q1]) rfl ?_
        exact answer_nil HE.out (S1.below.setCell (by simp) _)
end Go.Proofs.Ytjljaobmeaocjaa
