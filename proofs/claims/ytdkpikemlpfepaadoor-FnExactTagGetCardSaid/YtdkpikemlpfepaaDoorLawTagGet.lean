/- The law FnExactTagGet holds, its card tied: for every text the program's TagGet answers as the model's. Condition: the library's variables as the program's text lays them, and the shape of memory at the start. -/
import Derived.Test.YtdkpikemlpfepaaDoorTagGetI
import Derived.Test.YtdkpikemlpfepaaDoorTagGetS
import Derived.Test.YtdkpikemlpfepaaDoorLift3
import Derived.Test.YtdkpikemlpfepaaDoorCards
import Derived.Test.YtdkpikemlpfepaaDoorTie
import Derived.LaidMore
import Derived.SevenTiedAt
import Derived.ProofKit
import Derived.Stop.Joined
import Derived.Stop.LaidErr
import Derived.Deep.DeepHandedRow
import Derived.ChangeMaps5
namespace Go.Proofs.YtdkpikemlpfepaaDoor.LawTagGet
open Go.ChangeShapes Go.WideShapes Go.ChangeAt Go.RowKit Go.Joins Go.ChangeMaps
attribute [local go_sem ↓] Go.wp_at_zero Go.wp_at_succ

set_option maxRecDepth 100000 in
set_option maxHeartbeats 2000000 in
theorem walk (s : ByteArray) (w : World) (hL : laidMet Tryd.prog Rows.fnExactTagGetRow.laid w) (hsh : w.ShapedOpen Tryd.prog) :
    Calls Tryd.prog 6 #[.string s] w fun e w' => e = .returned (.bool true) ∧ Below w.heap.size w w' := by
  have HT := hide (libOk_of (laidMet.tail (laidMet.tail hL)) hsh)
  clear hL hsh
  by_cases hs : s.size ≤ 1048576
  · have hs' : ¬ (1048576 < (s.size : Int)) := by omega
    go_enter Tryd.func6, Tryd.ntmps6
    go_wp2_with fail
    refine (specTagGet_any s hs _).mono ?_
    rintro e w1 ⟨t, u, ok, rfl, hG, hb1⟩
    have S1 := ((Inv.start w).on hb1).top.box 24 #[.int .i64 t, .int .i64 u]
    simp only [World.size_alloc] at S1
    have HG := hide hG
    clear hG hb1
    go_wp2_with fail
    refine (implTagGet_any s hs _ (HT.out.on S1.below)).mono ?_
    rintro e w2 ⟨t', u', ok', rfl, hG, hb2⟩
    obtain ⟨rfl, rfl, rfl⟩ := getR_one HG.out hG
    have S2 := (S1.on hb2).top.box 24 #[.int .i64 t, .int .i64 u]
    have q0 := (S2.nth 0 rfl).two
    have q1 := (S2.nth 1 rfl).two
    clear hG hb2 S1
    go_wp2_with fail
    refine (eqTag_any t u t u _).mono ?_
    rw [eqB_same]
    rintro e w3 ⟨rfl, hb3⟩
    have L3 := hide (S2.on hb3).below
    clear S2 q0 q1 hb3
    have hok : (ok == ok) = true := beq_self_eq_true ok
    go_wp2
    go_ret
    exact ⟨rfl, L3.out⟩
  · have hs' : 1048576 < (s.size : Int) := by omega
    go_enter Tryd.func6, Tryd.ntmps6
    go_wp2
    go_ret
    exact ⟨rfl, Below.refl _ _⟩

theorem door_met (os : Os) (args : Array Value) : laidMetH Tryd.prog Rows.fnExactTagGetRow.laid ((World.doorLaid Tryd.prog 62 os).forCall (fun _ _ => 0) ⟨#[], args, []⟩).memory :=
  laidMetH_of_parts3 (fuel := 8) (laidMet_of_run' 8 (by kernel_rfl) (by kernel_rfl)) (by kernel_rfl) (by kernel_rfl)
set_option maxRecDepth 100000 in
theorem lifted (os : Os) (started : os.Started) (H : Type) (enc : TypeId × Value → H) :
    ReturnsInHanded {} Tryd.checked os 6 .any (fun w args => (Rows.fnExactTagGetSpec.pre enc Tryd.prog Tryd.f6 [] false w args ∧ laidMetH Tryd.prog Rows.fnExactTagGetRow.laid w) ∧ sizedMet enc Tryd.prog Tryd.f6 (OpenSpec.ofChange Rows.fnExactTagGetSpec) false w args) (Rows.fnExactTagGetSpec.post enc Tryd.prog Tryd.f6 false true false false) := by
  refine returnsInHanded_of_row (C := Tryd.checked) (s := OpenSpec.ofChange Rows.fnExactTagGetSpec) (F := default) (conds := []) (apart := false) (laid := Rows.fnExactTagGetRow.laid) own started (by kernel_rfl) Tryd.func6
    (ChangeSpec.witness_shaped (enc := enc) (C := Tryd.checked) (os := os) (X := fun w _ => laidMetH Tryd.prog Rows.fnExactTagGetRow.laid w) false (World.doorLaid Tryd.prog 62 os) #[.string ByteArray.empty] 8 rfl (World.shaped_of_RefB (by kernel_rfl) (by kernel_rfl)) (by kernel_rfl) (by kernel_rfl) (by kernel_rfl) (door_met os _)) ?_
  intro W base args ds gs before hval0 hW hcnd _ _ hL hsh _
  rw [MakeChecks.laidMetH_plain _ _ _ (by kernel_rfl)] at hL
  have hval : ∀ (j : Nat) t v, Tryd.f6.params[j]? = some t → args[j]? = some v → Value.okWide Tryd.prog W .any base t v := hval0
  have hW' := hW
  obtain ⟨p, q, hA0, hV, rfl, hfz, hnd⟩ := hW
  have hA : DataW.TrodAll enc Tryd.prog W 0 (fun _ => true) true Tryd.f6.params.toList args.toList ds p := hA0
  rw [Tryd.params6] at hA hval
  have hK := hA
  obtain ⟨v0, vs0, d0, ds0, p0, q0, hargs, rfl, rfl, h0, r0⟩ := trodAll_cons hA
  obtain ⟨rfl, rfl, rfl⟩ := trodAll_nil r0
  obtain rfl : args = #[v0] := by cases args; simp_all
  obtain ⟨rfl, rfl⟩ := trodVars_none hV
  obtain ⟨s0, rfl, rfl, rfl, w0⟩ := open_string Tryd.underlying9 (hval 0 9 v0 rfl rfl) h0
  clear hA0 hval0
  refine (walk s0 W hL hsh).mono fun e W' ⟨he, hb⟩ => ?_
  subst he
  have hK' := stay_all hb (by intro t ht; simp only [List.mem_cons, List.not_mem_nil, or_false] at ht; rcases ht with rfl <;> exact ⟨by kernel_rfl, of_decide_eq_true (by kernel_rfl)⟩) hK
  exact ⟨_, rfl, _, _, _, [], _, [], hW', trodAll_mk1 (shut_bool Tryd.underlying4 _), hK', rfl, hb.frame _, fun h => by cases h⟩

theorem over : Rows.fnExactTagGetRow.holds Tryd.pinned (OpenSpec.ofChange Rows.fnExactTagGetSpec) :=
  OpenClaim.holds_of_wide 6 Tryd.f6 rfl rfl rfl rfl rfl rfl rfl ⟨rfl, rfl, rfl, rfl, rfl⟩ rfl rfl rfl rfl rfl (by kernel_rfl) Tryd.func6
    (by refine joined_of ?_; kernel_rfl) (of_decide_eq_true (by kernel_rfl)) (by unfold Func.isWrapper; first | (rw [if_pos (by decide +kernel)]; kernel_rfl) | (rw [if_neg (by decide +kernel)]; exact ⟨rfl, rfl⟩))
    (fun os started H enc _ => lifted os started H enc)
end Go.Proofs.YtdkpikemlpfepaaDoor.LawTagGet
namespace Go.Proofs.YtdkpikemlpfepaaDoor
/-- The statement itself. -/
theorem fnExactTagGetCard_holds : Rows.FnExactTagGetCardSaid :=
  Claim7.holds_tied_plain_at .later [] [.data, .data, .data, .sentinel, .sentinel] true (true, "d604b7b51d792cb05d2a01707f3782b407ed3bd368d013bec6fcf71cb6f212ca") true
    LawTagGet.over (fun _ h => by cases h) (by kernel_rfl) (fun _ h => by cases h) fnExactTagGet_row_tie rfl ⟨rfl, rfl⟩ (by kernel_rfl) rfl
    (fun f fn hf hfn => by
      obtain rfl : f = 6 := Option.some.inj ((show Tryd.prog.funcNamed "loop.example/confluence/laws.FnExactTagGet" = some 6 by kernel_rfl).symm.trans hf) |>.symm
      obtain rfl : fn = Tryd.f6 := (Option.some.inj (Tryd.func6.symm.trans hfn)).symm
      exact ⟨by kernel_rfl, fun j t ht => by
        rw [Tryd.params6] at ht
        have hm : t ∈ [9] := by simpa using Array.mem_of_getElem? ht
        have hall : ([9].all fun u => !Tryd.prog.wantsStandIn u) = true := by kernel_rfl
        exact (show Tryd.prog.wantsStandIn t = false by simpa using List.all_eq_true.1 hall t hm)⟩)
    (by kernel_rfl)
#print axioms fnExactTagGetCard_holds
end Go.Proofs.YtdkpikemlpfepaaDoor
namespace Go.Proofs.YtdkpikemlpfepaaDoor.LawTagGet
end Go.Proofs.YtdkpikemlpfepaaDoor.LawTagGet
