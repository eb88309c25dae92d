/- The law FnExactTagOk holds: for every tag the program's TagOk answers as the model's. No condition. -/
import Derived.Test.YtcfhnhiodpinmaaLift3
import Derived.Test.YtcfhnhiodpinmaaTags
import Derived.Test.YtcfhnhiodpinmaaWorld
namespace Go.Proofs.Ytcfhnhiodpinmaa.LawTagOk
open Go.ChangeShapes Go.WideShapes Go.ChangeAt Go.RowKit Go.Joins

set_option maxHeartbeats 400000 in
theorem walk (t p : Int) (w : World) :
    Calls Try.prog 3 #[.agg #[.int .i64 t, .int .i64 p]] w fun e w' => e = .returned (.bool true) ∧ Below w.heap.size w w' := by
  have B0 := Blk.made w 23 #[.int .i64 t, .int .i64 p]
  have S0 := (Below.refl w.heap.size w).alloc (Nat.le_refl _) (.cells #[.int .i64 t, .int .i64 p] 23)
  go_enter Try.func3, Try.ntmps3
  go_wp2_with fail
  refine (toTag_any _ _ _).mono ?_
  rintro e w1 ⟨rfl, hb1⟩
  have B1 := B0.on hb1
  go_wp2_with fail
  refine (specTagOk_any _ _ _).mono ?_
  rintro e w2 ⟨rfl, hb2⟩
  have B2 := B1.on hb2
  have c0 := B2.at 0
  have c1 := B2.at 1
  go_wp2_with fail
  refine (toTag_any _ _ _).mono ?_
  rintro e w3 ⟨rfl, hb3⟩
  go_wp2_with fail
  refine (implTagOk_any _ _ _).mono ?_
  rintro e w4 ⟨rfl, hb4⟩
  go_wp2
  go_ret
  have h1 := B1.inside
  have z0 := S0.size
  have z1 := hb1.size
  have z2 := hb2.size
  have z3 := hb3.size
  exact ⟨rfl, S0.trans (((((hb1.mono (by omega))).trans (hb2.mono (by omega))).trans (hb3.mono (by omega))).trans (hb4.mono (by omega)))⟩

set_option maxRecDepth 100000 in
theorem lifted (os : Os) (started : os.Started) (H : Type) (enc : TypeId × Value → H) :
    ReturnsInHanded {} Try.checked os 3 .any (Rows.fnExactTagOkSpec.pre6 enc Try.prog Try.f3 Rows.fnExactTagOkRow.domain false) (Rows.fnExactTagOkSpec.post enc Try.prog Try.f3 false true false false) := by
  refine returnsInHanded_of_change (C := Try.checked) own started (by kernel_rfl) Try.func3
    (ChangeSpec.witness6 (enc := enc) (C := Try.checked) false ⟨#[], #[.agg #[.int .i64 0, .int .i64 0]], []⟩ 8 (by kernel_rfl) (by kernel_rfl) (by kernel_rfl) (by kernel_rfl)) ?_
  intro W base args ds gs before hval0 hW hcnd _
  have hval : ∀ (j : Nat) t v, Try.f3.params[j]? = some t → args[j]? = some v → Value.okWide Try.prog W .any base t v := hval0
  have hW' := hW
  obtain ⟨p, q, hA0, hV, rfl, hfz, hnd⟩ := hW
  have hA : DataW.TrodAll enc Try.prog W 0 (fun _ => true) true Try.f3.params.toList args.toList ds p := hA0
  rw [Try.params3] at hA hval
  have hK := hA
  obtain ⟨v0, vs0, d0, ds0, p0, q0, hargs, rfl, rfl, h0, r0⟩ := trodAll_cons hA
  obtain ⟨rfl, rfl, rfl⟩ := trodAll_nil r0
  obtain rfl : args = #[v0] := by cases args; simp_all
  obtain ⟨rfl, rfl⟩ := trodVars_none hV
  obtain ⟨t0, u0, rfl⟩ := read_tag (hval 0 23 v0 rfl rfl) h0
  clear hA0 hval0
  refine (walk t0 u0 W).mono fun e W' ⟨he, hb⟩ => ?_
  subst he
  have hK' := stay_all hb (by intro t ht; simp only [List.mem_cons, List.not_mem_nil, or_false] at ht; rcases ht with rfl <;> exact ⟨by kernel_rfl, of_decide_eq_true (by kernel_rfl)⟩) hK
  exact ⟨_, rfl, _, _, _, [], _, [], hW', trodAll_mk1 (shut_bool Try.underlying4 _), hK', rfl, hb.frame _, fun h => by cases h⟩

theorem over : Rows.fnExactTagOkRow.holds Try.pinned (OpenSpec.ofChange Rows.fnExactTagOkSpec) :=
  OpenClaim.holds_of_wide 3 Try.f3 rfl rfl rfl rfl rfl rfl rfl ⟨rfl, rfl, rfl, rfl, rfl⟩ rfl rfl rfl rfl rfl (by kernel_rfl) Try.func3
    (by refine joined_of ?_; kernel_rfl) (of_decide_eq_true (by kernel_rfl)) (by unfold Func.isWrapper; first | (rw [if_pos (by decide +kernel)]; kernel_rfl) | (rw [if_neg (by decide +kernel)]; exact ⟨rfl, rfl⟩))
    (fun os started H enc _ => lifted os started H enc)
end Go.Proofs.Ytcfhnhiodpinmaa.LawTagOk
namespace Go.Proofs.Ytcfhnhiodpinmaa
/-- The statement itself. -/
theorem fnExactTagOk_holds : Rows.FnExactTagOkSaid := LawTagOk.over
#print axioms fnExactTagOk_holds
end Go.Proofs.Ytcfhnhiodpinmaa
namespace Go.Proofs.Ytcfhnhiodpinmaa.LawTagOk
end Go.Proofs.Ytcfhnhiodpinmaa.LawTagOk
