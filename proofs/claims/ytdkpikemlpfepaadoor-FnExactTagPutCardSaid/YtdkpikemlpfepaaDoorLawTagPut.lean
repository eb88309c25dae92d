/- The law FnExactTagPut holds, its card tied: for every tag the program's TagPut answers as the model's, and leaves its argument as it was. Condition: the library's tables as the program's text lays them. -/
import Derived.Test.YtdkpikemlpfepaaDoorLaidTabs
import Derived.Test.YtdkpikemlpfepaaDoorTagPutI
import Derived.Test.YtdkpikemlpfepaaDoorLift3
import Derived.Test.YtdkpikemlpfepaaDoorCards
import Derived.Test.YtdkpikemlpfepaaDoorTie
import Derived.LaidMore
import Derived.SevenTiedAt
import Derived.ProofKit
import Derived.Stop.Joined
import Derived.Stop.LaidErr
namespace Go.Proofs.YtdkpikemlpfepaaDoor.LawTagPut
open Go.ChangeShapes Go.WideShapes Go.ChangeAt Go.RowKit Go.Joins
attribute [local go_sem ↓] Go.wp_at_zero Go.wp_at_succ

set_option maxRecDepth 100000 in
set_option maxHeartbeats 2000000 in
theorem walk (t p : Int) (w : World) (hL : laidMet Tryd.prog Rows.fnExactTagPutRow.laid w) :
    Calls Tryd.prog 5 #[.agg #[.int .i64 t, .int .i64 p]] w fun e w' => e = .returned (.bool true) ∧ Below w.heap.size w w' := by
  have HT := hide (powTab_of (laidMet.tail (laidMet.tail hL)))
  have S0 := (Inv.start w).box 32 #[.int .i64 t, .int .i64 p]
  simp only [World.size_alloc] at S0
  have q0 := (S0.nth 0 rfl).two
  clear hL
  go_enter Tryd.func5, Tryd.ntmps5
  go_wp2_with fail
  refine (toTag_any t p _).mono ?_
  rintro e w1 ⟨rfl, hb1⟩
  have S1 := S0.on hb1
  have q1 := (S1.nth 0 rfl).two
  clear S0 q0 hb1
  go_wp2_with fail
  refine (specTagPut_any t p _).mono ?_
  rintro e w2 ⟨rfl, hb2⟩
  have S2 := S1.on hb2
  have q2 := (S2.nth 0 rfl).two
  clear S1 q1 hb2
  go_wp2_with fail
  refine (toTag_any t p _).mono ?_
  rintro e w3 ⟨rfl, hb3⟩
  have S3 := S2.on hb3
  clear S2 q2 hb3
  go_wp2_with fail
  refine (implTagPut_any t p _ (HT.out.on S3.below)).mono ?_
  rintro e w4 ⟨rfl, hb4⟩
  have S4 := S3.on hb4
  have hL := hide S4.below
  clear S3 S4 hb4
  generalize tagP t p = s
  go_wp2
  go_ret
  exact ⟨rfl, hL.out⟩

theorem door_met (os : Os) (args : Array Value) : laidMetH Tryd.prog Rows.fnExactTagPutRow.laid ((World.doorLaid Tryd.prog 62 os).forCall (fun _ _ => 0) ⟨#[], args, []⟩).memory :=
  laidMetH_of_parts3 (fuel := 8) (laidMet_of_run' 8 (by kernel_rfl) (by kernel_rfl)) (by kernel_rfl) (by kernel_rfl)
set_option maxRecDepth 100000 in
theorem lifted (os : Os) (started : os.Started) (H : Type) (enc : TypeId × Value → H) :
    ReturnsInHanded {} Tryd.checked os 5 .any (fun w args => (Rows.fnExactTagPutSpec.pre enc Tryd.prog Tryd.f5 [] false w args ∧ laidMetH Tryd.prog Rows.fnExactTagPutRow.laid w) ∧ sizedMet enc Tryd.prog Tryd.f5 (OpenSpec.ofChange Rows.fnExactTagPutSpec) false w args) (Rows.fnExactTagPutSpec.post enc Tryd.prog Tryd.f5 false true false false) := by
  refine returnsInHanded_of_change_and (C := Tryd.checked) (X := fun w _ => laidMetH Tryd.prog Rows.fnExactTagPutRow.laid w) (fun _ _ _ hh h => h.of_heap hh) own started (by kernel_rfl) Tryd.func5
    (ChangeSpec.witness_shaped (enc := enc) (C := Tryd.checked) (os := os) (X := fun w _ => laidMetH Tryd.prog Rows.fnExactTagPutRow.laid w) false (World.doorLaid Tryd.prog 62 os) #[.agg #[.int .i64 0, .int .i64 0]] 8 rfl (World.shaped_of_RefB (by kernel_rfl) (by kernel_rfl)) (by kernel_rfl) (by kernel_rfl) (by kernel_rfl) (door_met os _)) ?_
  intro W base args ds gs before hval0 hW hcnd _ hL _
  rw [MakeChecks.laidMetH_plain _ _ _ (by kernel_rfl)] at hL
  have hval : ∀ (j : Nat) t v, Tryd.f5.params[j]? = some t → args[j]? = some v → Value.okWide Tryd.prog W .any base t v := hval0
  have hW' := hW
  obtain ⟨p, q, hA0, hV, rfl, hfz, hnd⟩ := hW
  have hA : DataW.TrodAll enc Tryd.prog W 0 (fun _ => true) true Tryd.f5.params.toList args.toList ds p := hA0
  rw [Tryd.params5] at hA hval
  have hK := hA
  obtain ⟨v0, vs0, d0, ds0, p0, q0, hargs, rfl, rfl, h0, r0⟩ := trodAll_cons hA
  obtain ⟨rfl, rfl, rfl⟩ := trodAll_nil r0
  obtain rfl : args = #[v0] := by cases args; simp_all
  obtain ⟨rfl, rfl⟩ := trodVars_none hV
  obtain ⟨t0, u0, rfl⟩ := read_tag (hval 0 32 v0 rfl rfl) h0
  clear hA0 hval0
  refine (walk t0 u0 W hL).mono fun e W' ⟨he, hb⟩ => ?_
  subst he
  have hK' := stay_all hb (by intro t ht; simp only [List.mem_cons, List.not_mem_nil, or_false] at ht; rcases ht with rfl <;> exact ⟨by kernel_rfl, of_decide_eq_true (by kernel_rfl)⟩) hK
  exact ⟨_, rfl, _, _, _, [], _, [], hW', trodAll_mk1 (shut_bool Tryd.underlying4 _), hK', rfl, hb.frame _, fun h => by cases h⟩

theorem over : Rows.fnExactTagPutRow.holds Tryd.pinned (OpenSpec.ofChange Rows.fnExactTagPutSpec) :=
  OpenClaim.holds_of_wide 5 Tryd.f5 rfl rfl rfl rfl rfl rfl rfl ⟨rfl, rfl, rfl, rfl, rfl⟩ rfl rfl rfl rfl rfl (by kernel_rfl) Tryd.func5
    (by refine joined_of ?_; kernel_rfl) (of_decide_eq_true (by kernel_rfl)) (by unfold Func.isWrapper; first | (rw [if_pos (by decide +kernel)]; kernel_rfl) | (rw [if_neg (by decide +kernel)]; exact ⟨rfl, rfl⟩))
    (fun os started H enc _ => lifted os started H enc)
end Go.Proofs.YtdkpikemlpfepaaDoor.LawTagPut
namespace Go.Proofs.YtdkpikemlpfepaaDoor
/-- The statement itself. -/
theorem fnExactTagPutCard_holds : Rows.FnExactTagPutCardSaid :=
  Claim7.holds_tied_plain_at .later [] [.data, .data, .data] true (true, "d604b7b51d792cb05d2a01707f3782b407ed3bd368d013bec6fcf71cb6f212ca") true
    LawTagPut.over (fun _ h => by cases h) (by kernel_rfl) (fun _ h => by cases h) fnExactTagPut_row_tie rfl ⟨rfl, rfl⟩ (by kernel_rfl) rfl
    (fun f fn hf hfn => by
      obtain rfl : f = 5 := Option.some.inj ((show Tryd.prog.funcNamed "loop.example/confluence/laws.FnExactTagPut" = some 5 by kernel_rfl).symm.trans hf) |>.symm
      obtain rfl : fn = Tryd.f5 := (Option.some.inj (Tryd.func5.symm.trans hfn)).symm
      exact ⟨by kernel_rfl, fun j t ht => by
        rw [Tryd.params5] at ht
        have hm : t ∈ [32] := by simpa using Array.mem_of_getElem? ht
        have hall : ([32].all fun u => !Tryd.prog.wantsStandIn u) = true := by kernel_rfl
        exact (show Tryd.prog.wantsStandIn t = false by simpa using List.all_eq_true.1 hall t hm)⟩)
    (by kernel_rfl)
#print axioms fnExactTagPutCard_holds
end Go.Proofs.YtdkpikemlpfepaaDoor
namespace Go.Proofs.YtdkpikemlpfepaaDoor.LawTagPut
end Go.Proofs.YtdkpikemlpfepaaDoor.LawTagPut
