/- The law FnTagGet (promise 4) holds, its card tied: of a drawn text the program reads what the model reads, and what is read is written just so. Condition: the library's variables as the program's text lays them, and the shape of memory at the start. -/
import Derived.Test.YtdkpikemlpfepaaDoorTagGetI
import Derived.Test.YtdkpikemlpfepaaDoorTagGetS
import Derived.Test.YtdkpikemlpfepaaDoorBent
import Derived.Test.YtdkpikemlpfepaaDoorLift
import Derived.Test.YtdkpikemlpfepaaDoorLift3
import Derived.Test.YtdkpikemlpfepaaDoorCards
import Derived.Test.YtdkpikemlpfepaaDoorTie
import Derived.LaidMore
import Derived.SevenTiedAt
import Derived.ProofKit
import Derived.Stop.Joined
import Derived.Stop.LaidErr
import Derived.Deep.DeepHandedRow
namespace Go.Proofs.YtdkpikemlpfepaaDoor.FnTagGet
open Go.ChangeShapes Go.WideShapes Go.ChangeAt Go.RowKit Go.Joins
attribute [local go_sem ↓] Go.wp_at_zero Go.wp_at_succ

theorem tagP_size (t u : Int) : (tagP t u).size ≤ 1100 := by
  cases h : okB t u
  · rw [tagP_no h]
    show (0 : Nat) ≤ 1100
    omega
  · rw [tagP_yes h]
    obtain ⟨x, y, rfl, rfl, hx, hy⟩ := okB_low h
    have := tagS_size x y
    simp only [Int.toNat_natCast]
    omega
set_option maxHeartbeats 1000000 in
theorem drawTagGet_any (w : World) (a : Option Addr) (len cap : Nat) (hc : Code0 w a len cap) (hl : len ≤ 1048576) :
    Calls Tryd.prog 13 #[.slice a len cap] w fun e w' => ∃ s : ByteArray, s.size ≤ 1048576 ∧ e = .returned (.string s) ∧ Below w.heap.size w w' := by
  go_enter Tryd.func13, Tryd.ntmps13
  go_wp2_with fail
  refine (l20Open_any w a len cap hc hl).mono ?_
  rintro e w1 ⟨a1, len1, cap1, rfl, hb1, h1⟩
  clear hc
  go_wp2_with fail
  refine (l20AnyTag_any w1 w.heap.size a1 len1 cap1 0 h1 (by omega)).mono ?_
  rintro e w2 ⟨t, p, htp, rfl, hg2, h2⟩
  have l2 := below_grown hb1 hg2 (by omega)
  clear h1 hg2 hb1
  go_wp2_with fail
  refine (specTagPut_any t p _).mono ?_
  rintro e w3 ⟨rfl, hb3⟩
  have h3 := h2.on hb3
  have l3 := l2.trans (hb3.mono l2.size)
  have hz := tagP_size t p
  generalize tagP t p = s at hz ⊢
  clear h2 l2 hb3
  go_wp2_with fail
  refine (pick_any _ w.heap.size a1 len1 cap1 _ _ h3 (by omega) (by omega)).mono ?_
  rintro e w4 ⟨x, hx, rfl, hg4, h4⟩
  have l4 := below_grown l3 hg4 (by omega)
  clear h3 l3 hg4
  by_cases hx0 : x = 0
  · subst hx0
    have HL := hide l4
    clear l4 h4
    go_wp2
    go_ret
    exact ⟨s, by omega, rfl, HL.out⟩
  · have hxb : (x == 0) = false := beq_eq_false_iff_ne.2 hx0
    go_wp2_with fail
    refine (l20Bent_any _ w.heap.size a1 len1 cap1 _ s h4 (by omega) (by omega)).mono ?_
    rintro e w5 ⟨s', hs', rfl, hg5⟩
    have HL := hide (below_grown l4 hg5 (by omega))
    clear l4 h4 hg5
    go_wp2
    go_ret
    exact ⟨s', by omega, rfl, HL.out⟩
set_option maxRecDepth 100000 in
set_option maxHeartbeats 2000000 in
theorem walk (a : Option Addr) (len cap : Nat) (w : World) (hc : Code0 w a len cap) (hL : laidMet Tryd.prog Rows.fnTagGetRow.laid w) (hsh : w.ShapedOpen Tryd.prog) :
    Calls Tryd.prog 4 #[.slice a len cap] w fun e w' => e = .returned (.bool true) ∧ Below w.heap.size w w' := by
  have HT := hide (libOk_of (laidMet.tail (laidMet.tail hL)) hsh)
  clear hL hsh
  by_cases h1 : 1048576 < len
  · have h1' : (1048576 : Int) < (len : Int) := by omega
    go_enter Tryd.func4, Tryd.ntmps4
    go_wp2
    go_ret
    exact ⟨rfl, Below.refl _ _⟩
  have h1' : (len : Int) ≤ 1048576 := by omega
  go_enter Tryd.func4, Tryd.ntmps4
  go_wp2_with fail
  refine (drawTagGet_any w a len cap hc (by omega)).mono ?_
  rintro e w1 ⟨s, hs, rfl, hb1⟩
  clear hc
  go_wp2_with fail
  refine (implTagGet_any s hs _ (HT.out.on hb1)).mono ?_
  rintro e w2 ⟨t, u, ok, rfl, hG, hb2⟩
  have S2 := ((((Inv.start w).on hb1).on hb2).top).box 24 #[.int .i64 t, .int .i64 u]
  simp only [World.size_alloc] at S2
  have HG := hide hG
  clear hG hb1 hb2
  go_wp2_with fail
  refine (specTagGet_any s hs _).mono ?_
  rintro e w3 ⟨t', u', ok', rfl, hG, hb3⟩
  obtain ⟨rfl, rfl, rfl⟩ := getR_one HG.out hG
  have S3 := ((S2.on hb3).top).box 24 #[.int .i64 t, .int .i64 u]
  have q0 := (S3.nth 0 rfl).two
  have q1 := (S3.nth 1 rfl).two
  clear hG hb3 S2
  cases ok
  · have L3 := hide S3.below
    clear S3
    go_wp2
    go_ret
    exact ⟨rfl, L3.out⟩
  · have hok : okB t u = true := by
      rcases HG.out with ⟨_, h, _⟩ | ⟨h, _⟩
      · exact h
      · cases h
    have hst : tagP t u = s := by
      rcases HG.out with ⟨_, _, h⟩ | ⟨h, _⟩
      · rw [tagP_yes hok, h]
      · cases h
    have HOK := hide hok
    have HST := hide hst
    have hss : (s.toList == s.toList) = true := beq_self_eq_true _
    clear hok hst
    go_wp2_with fail
    refine (implTagPut_any t u _ (HT.out.on S3.below).pow).mono ?_
    rintro e w4 ⟨rfl, hb4⟩
    have S4 := S3.on hb4
    have q2 := (S4.nth 1 rfl).two
    clear S3 q0 q1 hb4
    rw [HST.out]
    go_wp2_with fail
    refine (implTagOk_any t u _).mono ?_
    rw [HOK.out]
    rintro e w5 ⟨rfl, hb5⟩
    have L5 := hide (S4.on hb5).below
    clear S4 q2 hb5
    go_wp2
    go_ret
    exact ⟨rfl, L5.out⟩
theorem door_met (os : Os) (args : Array Value) : laidMetH Tryd.prog Rows.fnTagGetRow.laid ((World.doorLaid Tryd.prog 62 os).forCall (fun _ _ => 0) ⟨#[], args, []⟩).memory :=
  laidMetH_of_parts3 (fuel := 8) (laidMet_of_run' 8 (by kernel_rfl) (by kernel_rfl)) (by kernel_rfl) (by kernel_rfl)
set_option maxRecDepth 100000 in
theorem lifted (os : Os) (started : os.Started) (H : Type) (enc : TypeId × Value → H) :
    ReturnsInHanded {} Tryd.checked os 4 .any (fun w args => (Rows.fnTagGetSpec.pre enc Tryd.prog Tryd.f4 [] false w args ∧ laidMetH Tryd.prog Rows.fnTagGetRow.laid w) ∧ sizedMet enc Tryd.prog Tryd.f4 (OpenSpec.ofChange Rows.fnTagGetSpec) false w args) (Rows.fnTagGetSpec.post enc Tryd.prog Tryd.f4 false true false false) := by
  refine returnsInHanded_of_row (C := Tryd.checked) (s := OpenSpec.ofChange Rows.fnTagGetSpec) (F := default) (conds := []) (apart := false) (laid := Rows.fnTagGetRow.laid) own started (by kernel_rfl) Tryd.func4
    (ChangeSpec.witness_shaped (enc := enc) (C := Tryd.checked) (os := os) (X := fun w _ => laidMetH Tryd.prog Rows.fnTagGetRow.laid w) false (World.doorLaid Tryd.prog 62 os) #[.slice none 0 0] 8 rfl (World.shaped_of_RefB (by kernel_rfl) (by kernel_rfl)) (by kernel_rfl) (by kernel_rfl) (by kernel_rfl) (door_met os _)) ?_
  intro W base args ds gs before hval0 hW hcnd _ _ hL hsh _
  rw [MakeChecks.laidMetH_plain _ _ _ (by kernel_rfl)] at hL
  have hval : ∀ (j : Nat) t v, Tryd.f4.params[j]? = some t → args[j]? = some v → Value.okWide Tryd.prog W .any base t v := hval0
  have hW' := hW
  obtain ⟨p, q, hA0, hV, rfl, hfz, hnd⟩ := hW
  have hA : DataW.TrodAll enc Tryd.prog W 0 (fun _ => true) true Tryd.f4.params.toList args.toList ds p := hA0
  rw [Tryd.params4] at hA hval
  have hK := hA
  obtain ⟨v0, vs0, d0, ds0, p0, q0, hargs, rfl, rfl, h0, r0⟩ := trodAll_cons hA
  obtain ⟨rfl, rfl, rfl⟩ := trodAll_nil r0
  obtain rfl : args = #[v0] := by cases args; simp_all
  obtain ⟨rfl, rfl⟩ := trodVars_none hV
  obtain ⟨a0, len0, cap0, rfl, b0⟩ := read_bytes (hval 0 22 v0 rfl rfl) h0
  clear hA0 hval0
  refine (walk a0 len0 cap0 W b0 hL hsh).mono fun e W' ⟨he, hb⟩ => ?_
  subst he
  have hK' := stay_all hb (by intro t ht; simp only [List.mem_cons, List.not_mem_nil, or_false] at ht; rcases ht with rfl <;> exact ⟨by kernel_rfl, of_decide_eq_true (by kernel_rfl)⟩) hK
  exact ⟨_, rfl, _, _, _, [], _, [], hW', trodAll_mk1 (shut_bool Tryd.underlying4 _), hK', rfl, hb.frame _, fun h => by cases h⟩

theorem over : Rows.fnTagGetRow.holds Tryd.pinned (OpenSpec.ofChange Rows.fnTagGetSpec) :=
  OpenClaim.holds_of_wide 4 Tryd.f4 rfl rfl rfl rfl rfl rfl rfl ⟨rfl, rfl, rfl, rfl, rfl⟩ rfl rfl rfl rfl rfl (by kernel_rfl) Tryd.func4
    (by refine joined_of ?_; kernel_rfl) (of_decide_eq_true (by kernel_rfl)) (by unfold Func.isWrapper; first | (rw [if_pos (by decide +kernel)]; kernel_rfl) | (rw [if_neg (by decide +kernel)]; exact ⟨rfl, rfl⟩))
    (fun os started H enc _ => lifted os started H enc)
end Go.Proofs.YtdkpikemlpfepaaDoor.FnTagGet
namespace Go.Proofs.YtdkpikemlpfepaaDoor
/-- The statement itself. -/
theorem fnTagGetCard_holds : Rows.FnTagGetCardSaid :=
  Claim7.holds_tied_plain_at .later [] [.data, .data, .data, .sentinel, .sentinel] true (true, "d604b7b51d792cb05d2a01707f3782b407ed3bd368d013bec6fcf71cb6f212ca") true
    FnTagGet.over (fun _ h => by cases h) (by kernel_rfl) (fun _ h => by cases h) fnTagGet_row_tie rfl ⟨rfl, rfl⟩ (by kernel_rfl) rfl
    (fun f fn hf hfn => by
      obtain rfl : f = 4 := Option.some.inj ((show Tryd.prog.funcNamed "loop.example/confluence/laws.FnTagGet" = some 4 by kernel_rfl).symm.trans hf) |>.symm
      obtain rfl : fn = Tryd.f4 := (Option.some.inj (Tryd.func4.symm.trans hfn)).symm
      exact ⟨by kernel_rfl, fun j t ht => by
        rw [Tryd.params4] at ht
        have hm : t ∈ [22] := by simpa using Array.mem_of_getElem? ht
        have hall : ([22].all fun u => !Tryd.prog.wantsStandIn u) = true := by kernel_rfl
        exact (show Tryd.prog.wantsStandIn t = false by simpa using List.all_eq_true.1 hall t hm)⟩)
    (by kernel_rfl)
#print axioms fnTagGetCard_holds
end Go.Proofs.YtdkpikemlpfepaaDoor
namespace Go.Proofs.YtdkpikemlpfepaaDoor.FnTagGet
end Go.Proofs.YtdkpikemlpfepaaDoor.FnTagGet
