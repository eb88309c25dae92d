/- The law FnExactVerPut holds: for every version the program's VerPut answers as the model's, and leaves its argument as it was: the card tied. Condition: the library's tables as the program's text lays them. -/
import Derived.Test.YtoechhbjfejmjaaDoorLift2
import Derived.Test.YtoechhbjfejmjaaDoorLift3
import Derived.Test.YtoechhbjfejmjaaDoorLaidTabs
import Derived.Test.YtoechhbjfejmjaaDoorVerPutI
import Derived.Test.YtoechhbjfejmjaaDoorVerSpec
import Derived.Test.YtoechhbjfejmjaaDoorReg
import Derived.Test.YtoechhbjfejmjaaDoorCards
import Derived.Test.YtoechhbjfejmjaaDoorTie
import Derived.LaidMore
import Derived.SevenTiedAt
import Derived.ProofKit
import Derived.Stop.Joined
import Derived.Stop.LaidErr
namespace Go.Proofs.YtoechhbjfejmjaaDoor.LawVerPut
open Go.ChangeShapes Go.WideShapes Go.ChangeAt Go.RowKit Go.Joins
attribute [local go_sem ↓] Go.wp_at_zero Go.wp_at_succ

set_option maxRecDepth 100000 in
set_option maxHeartbeats 2000000 in
theorem walk (k t u : Int) (a : Option Addr) (c : Nat) (ts : List (Int × Int)) (s : ByteArray) (g : Bool) (w : World) (ht : Tg w w.heap.size a ts) (hl : ts.length ≤ 9223372036854775807) (hs0 : s.size ≤ maxLen) (hL : laidMet Tryd.prog Rows.fnExactVerPutRow.laid w) :
    Calls Tryd.prog 3 #[.agg (verC k t u a ts.length c s g)] w fun e w' => e = .returned (.bool true) ∧ Below w.heap.size w w' := by
  have hs : s.size ≤ 9223372036854775807 := by unfold maxLen at hs0; omega
  have HT := hide (powTab_of (laidMet.tail (laidMet.tail hL)))
  clear hs0 hL
  have S0 := (Inv.start w).box 28 (verC k t u a ts.length c s g)
  simp only [World.size_alloc] at S0
  by_cases hsum : ts.length + s.size ≤ 1048576
  · have hn : ts.length ≤ 1048576 := by omega
    have hs1 : s.size ≤ 1048576 := by omega
    go_enter Tryd.func3, Tryd.ntmps3
    go_wp2_with fail
    refine (szVer_fits k t u a ts.length c s g 1048576 _ (by omega) (by omega)).mono ?_
    rintro e w1 ⟨rfl, hb1⟩
    have S1 := S0.on hb1
    have k1 := (S1.nth 0 rfl).six.1
    have hp : ¬ ((1048576 : Int) - (ts.length : Int) - (s.size : Int) < 0) := by omega
    go_wp2_with fail
    refine (toVer_any k t u a c ts s g _ hn ((ht.on S1.below).up S1.base)).mono ?_
    rintro e w2 ⟨g2, cur2, rfl, hg2, hB2, hsz2, hcur2, hb2⟩
    have S2 := S1.on hb2
    have T2 : Tg w2 w2.heap.size (some ⟨g2, 0, none⟩) ts := Tg.of hB2 hB2.inside hcur2
    clear S0 S1 k1 hcur2
    go_wp2_with fail
    refine (specVerPut_any k t u _ _ ts s g _ hn hs1 T2).mono ?_
    rintro e w3 ⟨rfl, hb3⟩
    have S3 := S2.on hb3
    have k3 := (S3.nth 0 rfl).six.1
    clear S2 T2
    go_wp2_with fail
    refine (toVer_any k t u a c ts s g _ hn ((ht.on S3.below).up S3.base)).mono ?_
    rintro e w4 ⟨g4, cur4, rfl, hg4, hB4, hsz4, hcur4, hb4⟩
    have S4 := (((S3.on hb4).add (by have := S3.base; omega) hB4)).box 36 (verC k t u (some ⟨g4, 0, none⟩) ts.length ts.length s g)
    have HC := hide hcur4
    clear S3 k3 hcur4
    go_wp2_with fail
    generalize w4.alloc (.cells (verC k t u (some ⟨g4, 0, none⟩) ts.length ts.length s g) 36) = W4 at S4 ⊢
    have T4 : Tg W4 W4.heap.size (some ⟨g4, 0, none⟩) ts := Tg.of (S4.nth 1 rfl) (S4.nth 1 rfl).inside HC.out
    refine (implVerPut_any k t u _ _ ts s g _ hn hs1 (HT.out.on S4.below) T4).mono ?_
    rintro e w5 ⟨rfl, hb5⟩
    have hss : ((verPutS k t u ts s g).toList == (verPutS k t u ts s g).toList) = true := beq_self_eq_true _
    generalize verPutS k t u ts s g = vs at hss ⊢
    have S5 := S4.on hb5
    clear S4 T4
    go_wp2_with fail
    refine wp_region_noPanic ?_
    refine wp_region_held_drew (S := (fun w' => (w'.cell? ⟨w4.heap.size, 0, none⟩ = some (.int .i64 k) ∧ w'.cell? ⟨w4.heap.size, 1, none⟩ = some (.int .i64 t) ∧ w'.cell? ⟨w4.heap.size, 2, none⟩ = some (.int .i64 u) ∧ w'.cell? ⟨w4.heap.size, 3, none⟩ = some (.slice (some ⟨g4, 0, none⟩) ts.length ts.length) ∧ w'.cell? ⟨w4.heap.size, 4, none⟩ = some (.string s) ∧ w'.cell? ⟨w4.heap.size, 5, none⟩ = some (.bool g)) ∧ (w'.cell? ⟨w.heap.size, 0, none⟩ = some (.int .i64 k) ∧ w'.cell? ⟨w.heap.size, 1, none⟩ = some (.int .i64 t) ∧ w'.cell? ⟨w.heap.size, 2, none⟩ = some (.int .i64 u) ∧ w'.cell? ⟨w.heap.size, 3, none⟩ = some (.slice a ts.length c) ∧ w'.cell? ⟨w.heap.size, 4, none⟩ = some (.string s) ∧ w'.cell? ⟨w.heap.size, 5, none⟩ = some (.bool g)) ∧ Inv w W4.heap.size [(w4.heap.size, 36, verC k t u (some ⟨g4, 0, none⟩) ts.length ts.length s g), (g4, 31, cur4), (w.heap.size, 28, verC k t u a ts.length c s g)] w')) (by kernel_rfl) (by exact ⟨(S5.nth 0 rfl).six.1, (S5.nth 2 rfl).six.1, S5.drew⟩) (fun hHeld => ?_)
    refine take_run 0 (some 22) (v := ?_) rfl rfl (by kernel_rfl) (by kernel_rfl) (by kernel_rfl) (fun _ _ _ h => h) (by rfl) ?_ hHeld ?_
    rotate_left
    · ((intro w hSw); (try dsimp only at hSw); go_simp <;> with_reducible rfl)
    simp only [Act.put, List.setIfInBounds_toArray, List.set_cons_zero, List.set_cons_succ]
    refine take_run 1 (some 23) (v := ?_) rfl rfl (by kernel_rfl) (by kernel_rfl) (by kernel_rfl) (fun _ _ _ h => h) (by rfl) ?_ hHeld ?_
    rotate_left
    · ((intro w hSw); (try dsimp only at hSw); go_simp <;> with_reducible rfl)
    simp only [Act.put, List.setIfInBounds_toArray, List.set_cons_zero, List.set_cons_succ]
    refine take_one 2 (by kernel_rfl) rfl (fun K hK => ?_)
    go_simp
    (refine (toVer_any k t u a c ts s g _ hn ((ht.on hHeld.2.2.below).up hHeld.2.2.base)).mono ?_; rintro e w6 ⟨g6, cur6, rfl, hg6, hB6, hsz6, hcur6, hb⟩; have HC6 := hide hcur6; clear hcur6)
    try go_wp2_with fail
    refine hK.out _ _ (by exact ⟨((hHeld.2.2.on hb).nth 0 rfl).six.1, ((hHeld.2.2.on hb).nth 2 rfl).six.1, hHeld.2.2.on hb⟩) (fun hHeld => ?_)
    clear hK K
    refine take_one 3 (by kernel_rfl) rfl (fun K hK => ?_)
    go_simp
    (refine (eqVer_same k t u _ _ _ _ ts s g _ hn (Tg.of (hHeld.2.2.nth 1 rfl) (hHeld.2.2.nth 1 rfl).inside HC.out) (Tg.of hB6 hB6.inside HC6.out)).mono ?_; rintro e w7 ⟨rfl, hb⟩)
    try go_wp2_with fail
    refine hK.out _ _ (by exact ⟨((hHeld.2.2.on hb).nth 0 rfl).six.1, ((hHeld.2.2.on hb).nth 2 rfl).six.1, hHeld.2.2.on hb⟩) (fun hHeld => ?_)
    clear hK K
    refine take_run 4 (some 26) (v := ?_) rfl rfl (by kernel_rfl) (by kernel_rfl) (by kernel_rfl) (fun _ _ _ h => h) (by rfl) ?_ hHeld ?_
    rotate_left
    · ((intro w hSw); (try dsimp only at hSw); go_simp <;> with_reducible rfl)
    simp only [Act.put, List.setIfInBounds_toArray, List.set_cons_zero, List.set_cons_succ]
    refine wpAnyH_done (by kernel_rfl) ?_ _
    refine NoPanic.normal ?_
    have S6 := hHeld.2.2
    clear hHeld
    go_wp2
    go_ret
    exact ⟨rfl, S6.below⟩
  · go_enter Tryd.func3, Tryd.ntmps3
    go_wp2_with fail
    refine (szVer_not k t u a ts.length c s g 1048576 _ (by omega) (by omega) hl hs (by omega)).mono ?_
    rintro e w1 ⟨rfl, hb1⟩
    have S1 := S0.on hb1
    clear S0
    go_wp2
    go_ret
    exact ⟨rfl, S1.below⟩

theorem door_met (os : Os) (args : Array Value) : laidMetH Tryd.prog Rows.fnExactVerPutRow.laid ((World.doorLaid Tryd.prog 62 os).forCall (fun _ _ => 0) ⟨#[], args, []⟩).memory :=
  laidMetH_of_parts3 (fuel := 8) (laidMet_of_run' 8 (by kernel_rfl) (by kernel_rfl)) (by kernel_rfl) (by kernel_rfl)
set_option maxRecDepth 100000 in
theorem lifted (os : Os) (started : os.Started) (H : Type) (enc : TypeId × Value → H) :
    ReturnsInHanded {} Tryd.checked os 3 .any (fun w args => (Rows.fnExactVerPutSpec.pre enc Tryd.prog Tryd.f3 [] false w args ∧ laidMetH Tryd.prog Rows.fnExactVerPutRow.laid w) ∧ sizedMet enc Tryd.prog Tryd.f3 (OpenSpec.ofChange Rows.fnExactVerPutSpec) false w args) (Rows.fnExactVerPutSpec.post enc Tryd.prog Tryd.f3 false true false false) := by
  refine returnsInHanded_of_change_and (C := Tryd.checked) (X := fun w _ => laidMetH Tryd.prog Rows.fnExactVerPutRow.laid w) (fun _ _ _ hh h => h.of_heap hh) own started (by kernel_rfl) Tryd.func3
    (ChangeSpec.witness_shaped (enc := enc) (C := Tryd.checked) (os := os) (X := fun w _ => laidMetH Tryd.prog Rows.fnExactVerPutRow.laid w) false (World.doorLaid Tryd.prog 62 os) #[.agg #[.int .i64 0, .int .i64 0, .int .i64 0, .slice none 0 0, .string ByteArray.empty, .bool false]] 8 rfl (World.shaped_of_RefB (by kernel_rfl) (by kernel_rfl)) (by kernel_rfl) (by kernel_rfl) (by kernel_rfl) (door_met os _)) ?_
  intro W base args ds gs before hval0 hW hcnd _ hL _
  rw [MakeChecks.laidMetH_plain _ _ _ (by kernel_rfl)] at hL
  have hval : ∀ (j : Nat) t v, Tryd.f3.params[j]? = some t → args[j]? = some v → Value.okWide Tryd.prog W .any base t v := hval0
  have hW' := hW
  obtain ⟨p, q, hA0, hV, rfl, hfz, hnd⟩ := hW
  have hA : DataW.TrodAll enc Tryd.prog W 0 (fun _ => true) true Tryd.f3.params.toList args.toList ds p := hA0
  rw [Tryd.params3] at hA hval
  have hK := hA
  obtain ⟨v0, vs0, d0, ds0, p0, q0, hargs, rfl, rfl, h0, r0⟩ := trodAll_cons hA
  obtain ⟨rfl, rfl, rfl⟩ := trodAll_nil r0
  obtain rfl : args = #[v0] := by cases args; simp_all
  obtain ⟨rfl, rfl⟩ := trodVars_none hV
  obtain ⟨k0, t0, u0, a0, cap0, z0, s0, g0, rfl, b0⟩ := read_ver (hval 0 28 v0 rfl rfl) h0
  clear hA0 hval0
  refine (walk k0 t0 u0 a0 cap0 z0 s0 g0 W b0.1 b0.2.1 b0.2.2 hL).mono fun e W' ⟨he, hb⟩ => ?_
  subst he
  have hK' := stay_all hb (by intro t ht; simp only [List.mem_cons, List.not_mem_nil, or_false] at ht; rcases ht with rfl <;> exact ⟨by kernel_rfl, of_decide_eq_true (by kernel_rfl)⟩) hK
  exact ⟨_, rfl, _, _, _, [], _, [], hW', trodAll_mk1 (shut_bool Tryd.underlying4 _), hK', rfl, hb.frame _, fun h => by cases h⟩

theorem over : Rows.fnExactVerPutRow.holds Tryd.pinned (OpenSpec.ofChange Rows.fnExactVerPutSpec) :=
  OpenClaim.holds_of_wide 3 Tryd.f3 rfl rfl rfl rfl rfl rfl rfl ⟨rfl, rfl, rfl, rfl, rfl⟩ rfl rfl rfl rfl rfl (by kernel_rfl) Tryd.func3
    (by refine joined_of ?_; kernel_rfl) (of_decide_eq_true (by kernel_rfl)) (by unfold Func.isWrapper; first | (rw [if_pos (by decide +kernel)]; kernel_rfl) | (rw [if_neg (by decide +kernel)]; exact ⟨rfl, rfl⟩))
    (fun os started H enc _ => lifted os started H enc)
end Go.Proofs.YtoechhbjfejmjaaDoor.LawVerPut
namespace Go.Proofs.YtoechhbjfejmjaaDoor
/-- The statement itself. -/
theorem fnExactVerPutCard_holds : Rows.FnExactVerPutCardSaid :=
  Claim7.holds_tied_plain_at .later [] [.data, .data, .data] true (true, "967cb751bef1b7079015ca3c7bb4f2a23bf11e7901829ebdd0c0fccc2fe922a2") true
    LawVerPut.over (fun _ h => by cases h) (by kernel_rfl) (fun _ h => by cases h) fnExactVerPut_row_tie rfl ⟨rfl, rfl⟩ (by kernel_rfl) rfl
    (fun f fn hf hfn => by
      obtain rfl : f = 3 := Option.some.inj ((show Tryd.prog.funcNamed "loop.example/confluence/laws.FnExactVerPut" = some 3 by kernel_rfl).symm.trans hf) |>.symm
      obtain rfl : fn = Tryd.f3 := (Option.some.inj (Tryd.func3.symm.trans hfn)).symm
      exact ⟨by kernel_rfl, fun j t ht => by
        rw [Tryd.params3] at ht
        have hm : t ∈ [28] := by simpa using Array.mem_of_getElem? ht
        have hall : ([28].all fun u => !Tryd.prog.wantsStandIn u) = true := by kernel_rfl
        exact (show Tryd.prog.wantsStandIn t = false by simpa using List.all_eq_true.1 hall t hm)⟩)
    (by kernel_rfl)
#print axioms fnExactVerPutCard_holds
end Go.Proofs.YtoechhbjfejmjaaDoor
namespace Go.Proofs.YtoechhbjfejmjaaDoor.LawVerPut
end Go.Proofs.YtoechhbjfejmjaaDoor.LawVerPut
