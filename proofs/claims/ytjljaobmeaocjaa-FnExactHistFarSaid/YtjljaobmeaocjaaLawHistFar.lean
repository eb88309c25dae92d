/- The law FnExactHistFar holds: for every list of records the program's HistFar answers as the model's, and leaves its argument as it was. No condition. -/
import Derived.Test.YtjljaobmeaocjaaLiftD
import Derived.Test.YtjljaobmeaocjaaHistSpec5
import Derived.Test.YtjljaobmeaocjaaHistImpl2
namespace Go.Proofs.Ytjljaobmeaocjaa.LawHistFar
open Go.ChangeShapes Go.WideShapes Go.ChangeAt Go.RowKit Go.Joins
attribute [local go_sem ↓] Go.wp_at_zero Go.wp_at_succ

set_option maxRecDepth 100000 in
set_option maxHeartbeats 2000000 in
theorem walk (a : Option Addr) (c : Nat) (ds : List D) (w : World) (hd : Dg w w.heap.size a ds) (hl : ds.length ≤ 9223372036854775807) :
    Calls Try.prog 9 #[.slice a ds.length c] w fun e w' => e = .returned (.bool true) ∧ Below w.heap.size w w' := by
  by_cases hn : ds.length ≤ 1048576
  · have hp : ¬ ((1048576 : Int) - (ds.length : Int) < 0) := by omega
    go_enter Try.func9, Try.ntmps9
    go_wp2_with fail
    refine (szDoneS_fits a ds.length c 1048576 _ (by omega) (by omega)).mono ?_
    rintro e w1 ⟨rfl, rfl⟩
    go_wp2_with fail
    refine (toDoneS_any a c ds _ hn hd).mono ?_
    rintro e w2 ⟨g2, cur2, rfl, hg2, hB2, hsz2, hcur2, hb2⟩
    have T2 : Dg w2 w2.heap.size (some ⟨g2, 0, none⟩) ds := Dg.of hB2 hB2.inside hcur2
    clear hcur2
    go_wp2_with fail
    refine (specHistFar_any _ _ ds _ hn (Nat.le_refl _) T2).mono ?_
    rintro e w3 ⟨rfl, hb3⟩
    have L3 := hb2.trans (hb3.mono hb2.size)
    clear T2 hB2 hb2 hb3
    go_wp2_with fail
    refine (toDoneS_any a c ds _ hn ((hd.on L3).up L3.size)).mono ?_
    rintro e w4 ⟨g4, cur4, rfl, hg4, hB4, hsz4, hcur4, hb4⟩
    have T4 : Dg w4 w4.heap.size (some ⟨g4, 0, none⟩) ds := Dg.of hB4 hB4.inside hcur4
    have L4 := L3.trans (hb4.mono L3.size)
    clear hcur4 hB4 hb4
    go_wp2_with fail
    refine (implHistFar_any _ _ ds _ hn T4).mono ?_
    rintro e w5 ⟨rfl, hb5⟩
    have L5 := L4.trans (hb5.mono L4.size)
    have T5 := (T4.on hb5).up hb5.size
    clear T4 L4 hb5
    generalize histFar ds = res
    have hne : (res != res) = false := by simp
    all_goals
      go_wp2_with fail
      refine (toDoneS_any a c ds _ hn ((hd.on L5).up L5.size)).mono ?_
      rintro e w6 ⟨g6, cur6, rfl, hg6, hB6, hsz6, hcur6, hb6⟩
      have T6 : Dg w6 w6.heap.size (some ⟨g6, 0, none⟩) ds := Dg.of hB6 hB6.inside hcur6
      have T7 := (T5.on hb6).up hb6.size
      have L6 := L5.trans (hb6.mono L5.size)
      clear hcur6 hB6 hb6
      go_wp2_with fail
      refine (eqDoneS_same _ _ _ _ ds _ hn T7 T6).mono ?_
      rintro e w7 ⟨rfl, hb7⟩
      have L7 := L6.trans (hb7.mono L6.size)
      go_wp2
      go_ret
      exact ⟨rfl, L7⟩
  · go_enter Try.func9, Try.ntmps9
    go_wp2_with fail
    refine (szDoneS_not a ds.length c 1048576 _ (by omega) (by omega) hl (by omega)).mono ?_
    rintro e w1 ⟨rfl, rfl⟩
    go_wp2
    go_ret
    exact ⟨rfl, Below.refl _ _⟩

set_option maxRecDepth 100000 in
theorem lifted (os : Os) (started : os.Started) (H : Type) (enc : TypeId × Value → H) :
    ReturnsInHanded {} Try.checked os 9 .any (Rows.fnExactHistFarSpec.pre6 enc Try.prog Try.f9 Rows.fnExactHistFarRow.domain false) (Rows.fnExactHistFarSpec.post enc Try.prog Try.f9 false true false false) := by
  refine returnsInHanded_of_change (C := Try.checked) own started (by kernel_rfl) Try.func9
    (ChangeSpec.witness6 (enc := enc) (C := Try.checked) false ⟨#[], #[.slice none 0 0], []⟩ 8 (by kernel_rfl) (by kernel_rfl) (by kernel_rfl) (by kernel_rfl)) ?_
  intro W base args ds gs before hval0 hW hcnd _
  have hval : ∀ (j : Nat) t v, Try.f9.params[j]? = some t → args[j]? = some v → Value.okWide Try.prog W .any base t v := hval0
  have hW' := hW
  obtain ⟨p, q, hA0, hV, rfl, hfz, hnd⟩ := hW
  have hA : DataW.TrodAll enc Try.prog W 0 (fun _ => true) true Try.f9.params.toList args.toList ds p := hA0
  rw [Try.params9] at hA hval
  have hK := hA
  obtain ⟨v0, vs0, d0, ds0, p0, q0, hargs, rfl, rfl, h0, r0⟩ := trodAll_cons hA
  obtain ⟨rfl, rfl, rfl⟩ := trodAll_nil r0
  obtain rfl : args = #[v0] := by cases args; simp_all
  obtain ⟨rfl, rfl⟩ := trodVars_none hV
  obtain ⟨a0, cap0, z0, rfl, b0⟩ := read_dones (hval 0 22 v0 rfl rfl) h0
  clear hA0 hval0
  refine (walk a0 cap0 z0 W b0.1 b0.2).mono fun e W' ⟨he, hb⟩ => ?_
  subst he
  have hK' := stay_all hb (by intro t ht; simp only [List.mem_cons, List.not_mem_nil, or_false] at ht; rcases ht with rfl <;> exact ⟨by kernel_rfl, of_decide_eq_true (by kernel_rfl)⟩) hK
  exact ⟨_, rfl, _, _, _, [], _, [], hW', trodAll_mk1 (shut_bool Try.underlying4 _), hK', rfl, hb.frame _, fun h => by cases h⟩

theorem over : Rows.fnExactHistFarRow.holds Try.pinned (OpenSpec.ofChange Rows.fnExactHistFarSpec) :=
  OpenClaim.holds_of_wide 9 Try.f9 rfl rfl rfl rfl rfl rfl rfl ⟨rfl, rfl, rfl, rfl, rfl⟩ rfl rfl rfl rfl rfl (by kernel_rfl) Try.func9
    (by refine joined_of ?_; kernel_rfl) (of_decide_eq_true (by kernel_rfl)) (by unfold Func.isWrapper; first | (rw [if_pos (by decide +kernel)]; kernel_rfl) | (rw [if_neg (by decide +kernel)]; exact ⟨rfl, rfl⟩))
    (fun os started H enc _ => lifted os started H enc)
end Go.Proofs.Ytjljaobmeaocjaa.LawHistFar
namespace Go.Proofs.Ytjljaobmeaocjaa
/-- The statement itself. -/
theorem fnExactHistFar_holds : Rows.FnExactHistFarSaid := LawHistFar.over
#print axioms fnExactHistFar_holds
end Go.Proofs.Ytjljaobmeaocjaa
namespace Go.Proofs.Ytjljaobmeaocjaa.LawHistFar
end Go.Proofs.Ytjljaobmeaocjaa.LawHistFar
