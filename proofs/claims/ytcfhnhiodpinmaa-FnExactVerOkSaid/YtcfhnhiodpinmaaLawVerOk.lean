/- The law FnExactVerOk holds: for every version the program's VerOk answers as the model's, and leaves its argument as it was. No condition. -/
import Derived.Test.YtcfhnhiodpinmaaLift2
import Derived.Test.YtcfhnhiodpinmaaVerOk
import Derived.Test.YtcfhnhiodpinmaaVerSpec
import Derived.Test.YtcfhnhiodpinmaaReg
namespace Go.Proofs.Ytcfhnhiodpinmaa.LawVerOk
open Go.ChangeShapes Go.WideShapes Go.ChangeAt Go.RowKit Go.Joins
attribute [local go_sem ↓] Go.wp_at_zero Go.wp_at_succ

set_option maxRecDepth 100000 in
set_option maxHeartbeats 2000000 in
theorem walk (k t u : Int) (a : Option Addr) (c : Nat) (ts : List (Int × Int)) (s : ByteArray) (g : Bool) (w : World) (ht : Tg w w.heap.size a ts) (hl : ts.length ≤ 9223372036854775807) (hs0 : s.size ≤ maxLen) :
    Calls Try.prog 6 #[.agg (verC k t u a ts.length c s g)] w fun e w' => e = .returned (.bool true) ∧ Below w.heap.size w w' := by
  have hs : s.size ≤ 9223372036854775807 := by unfold maxLen at hs0; omega
  clear hs0
  have S0 := (Inv.start w).box 43 (verC k t u a ts.length c s g)
  simp only [World.size_alloc] at S0
  by_cases hsum : ts.length + s.size ≤ 1048576
  · have hn : ts.length ≤ 1048576 := by omega
    go_enter Try.func6, Try.ntmps6
    go_wp2_with fail
    refine (szVer_fits k t u a ts.length c s g 1048576 _ (by omega) (by omega)).mono ?_
    rintro e w1 ⟨rfl, hb1⟩
    have S1 := S0.on hb1
    have k1 := (S1.nth 0 rfl).six.1
    have hp : ¬ ((1048576 : Int) - (ts.length : Int) - (s.size : Int) < 0) := by omega
    go_wp2_with fail
    refine (toVer_any k t u a c ts s g _ hn ((ht.on S1.below).up S1.base)).mono ?_
    rintro e w2 ⟨g2, cur2, rfl, hg2, hB2, hsz2, hcur2, hb2⟩
    have S2 := S1.on hb2
    have T2 : Tg w2 w2.heap.size (some ⟨g2, 0, none⟩) ts := Tg.of hB2 hB2.inside hcur2
    clear S0 S1 k1 hcur2
    go_wp2_with fail
    refine (specVerOk_any k t u _ _ ts s g _ hn hs T2).mono ?_
    rintro e w3 ⟨rfl, hb3⟩
    have S3 := S2.on hb3
    have k3 := (S3.nth 0 rfl).six.1
    clear S2 T2
    go_wp2_with fail
    refine (toVer_any k t u a c ts s g _ hn ((ht.on S3.below).up S3.base)).mono ?_
    rintro e w4 ⟨g4, cur4, rfl, hg4, hB4, hsz4, hcur4, hb4⟩
    have S4 := (((S3.on hb4).add (by have := S3.base; omega) hB4)).box 47 (verC k t u (some ⟨g4, 0, none⟩) ts.length ts.length s g)
    have HC := hide hcur4
    clear S3 k3 hcur4
    go_wp2_with fail
    generalize w4.alloc (.cells (verC k t u (some ⟨g4, 0, none⟩) ts.length ts.length s g) 47) = W4 at S4 ⊢
    have T4 : Tg W4 W4.heap.size (some ⟨g4, 0, none⟩) ts := Tg.of (S4.nth 1 rfl) (S4.nth 1 rfl).inside HC.out
    refine (implVerOk_any k t u _ _ ts s g _ hn hs T4).mono ?_
    rintro e w5 ⟨rfl, hb5⟩
    have S5 := S4.on hb5
    clear S4 T4
    go_wp2_with fail
    refine wp_region_noPanic ?_
    refine wp_region_held_drew (S := (fun w' => (w'.cell? ⟨w4.heap.size, 0, none⟩ = some (.int .i64 k) ∧ w'.cell? ⟨w4.heap.size, 1, none⟩ = some (.int .i64 t) ∧ w'.cell? ⟨w4.heap.size, 2, none⟩ = some (.int .i64 u) ∧ w'.cell? ⟨w4.heap.size, 3, none⟩ = some (.slice (some ⟨g4, 0, none⟩) ts.length ts.length) ∧ w'.cell? ⟨w4.heap.size, 4, none⟩ = some (.string s) ∧ w'.cell? ⟨w4.heap.size, 5, none⟩ = some (.bool g)) ∧ (w'.cell? ⟨w.heap.size, 0, none⟩ = some (.int .i64 k) ∧ w'.cell? ⟨w.heap.size, 1, none⟩ = some (.int .i64 t) ∧ w'.cell? ⟨w.heap.size, 2, none⟩ = some (.int .i64 u) ∧ w'.cell? ⟨w.heap.size, 3, none⟩ = some (.slice a ts.length c) ∧ w'.cell? ⟨w.heap.size, 4, none⟩ = some (.string s) ∧ w'.cell? ⟨w.heap.size, 5, none⟩ = some (.bool g)) ∧ Inv w W4.heap.size [(w4.heap.size, 47, verC k t u (some ⟨g4, 0, none⟩) ts.length ts.length s g), (g4, 25, cur4), (w.heap.size, 43, verC k t u a ts.length c s g)] w')) (by kernel_rfl) (by exact ⟨(S5.nth 0 rfl).six.1, (S5.nth 2 rfl).six.1, S5.drew⟩) (fun hHeld => ?_)
    refine take_run 0 (some 22) (v := ?_) rfl rfl (by kernel_rfl) (by kernel_rfl) (by kernel_rfl) (fun _ _ _ h => h) (by rfl) ?_ hHeld ?_
    rotate_left
    · ((intro w hSw); (try dsimp only at hSw); go_simp <;> with_reducible rfl)
    simp only [Act.put, List.setIfInBounds_toArray, List.set_cons_zero, List.set_cons_succ]
    refine take_run 1 (some 23) (v := ?_) rfl rfl (by kernel_rfl) (by kernel_rfl) (by kernel_rfl) (fun _ _ _ h => h) (by rfl) ?_ hHeld ?_
    rotate_left
    · ((intro w hSw); (try dsimp only at hSw); go_simp <;> with_reducible rfl)
    simp only [Act.put, List.setIfInBounds_toArray, List.set_cons_zero, List.set_cons_succ]
    refine take_one 2 (by kernel_rfl) rfl (fun K hK => ?_)
    go_simp
    (refine (toVer_any k t u a c ts s g _ hn ((ht.on hHeld.2.2.below).up hHeld.2.2.base)).mono ?_; rintro e w6 ⟨g6, cur6, rfl, hg6, hB6, hsz6, hcur6, hb⟩; have HC6 := hide hcur6; clear hcur6)
    try go_wp2_with fail
    refine hK.out _ _ (by exact ⟨((hHeld.2.2.on hb).nth 0 rfl).six.1, ((hHeld.2.2.on hb).nth 2 rfl).six.1, hHeld.2.2.on hb⟩) (fun hHeld => ?_)
    clear hK K
    refine take_one 3 (by kernel_rfl) rfl (fun K hK => ?_)
    go_simp
    (refine (eqVer_same k t u _ _ _ _ ts s g _ hn (Tg.of (hHeld.2.2.nth 1 rfl) (hHeld.2.2.nth 1 rfl).inside HC.out) (Tg.of hB6 hB6.inside HC6.out)).mono ?_; rintro e w7 ⟨rfl, hb⟩)
    try go_wp2_with fail
    refine hK.out _ _ (by exact ⟨((hHeld.2.2.on hb).nth 0 rfl).six.1, ((hHeld.2.2.on hb).nth 2 rfl).six.1, hHeld.2.2.on hb⟩) (fun hHeld => ?_)
    clear hK K
    refine take_run 4 (some 26) (v := ?_) rfl rfl (by kernel_rfl) (by kernel_rfl) (by kernel_rfl) (fun _ _ _ h => h) (by rfl) ?_ hHeld ?_
    rotate_left
    · ((intro w hSw); (try dsimp only at hSw); go_simp <;> with_reducible rfl)
    simp only [Act.put, List.setIfInBounds_toArray, List.set_cons_zero, List.set_cons_succ]
    refine wpAnyH_done (by kernel_rfl) ?_ _
    refine NoPanic.normal ?_
    have S6 := hHeld.2.2
    clear hHeld
    go_wp2
    go_ret
    exact ⟨rfl, S6.below⟩
  · go_enter Try.func6, Try.ntmps6
    go_wp2_with fail
    refine (szVer_not k t u a ts.length c s g 1048576 _ (by omega) (by omega) hl hs (by omega)).mono ?_
    rintro e w1 ⟨rfl, hb1⟩
    have S1 := S0.on hb1
    clear S0
    go_wp2
    go_ret
    exact ⟨rfl, S1.below⟩

set_option maxRecDepth 100000 in
theorem lifted (os : Os) (started : os.Started) (H : Type) (enc : TypeId × Value → H) :
    ReturnsInHanded {} Try.checked os 6 .any (Rows.fnExactVerOkSpec.pre6 enc Try.prog Try.f6 Rows.fnExactVerOkRow.domain false) (Rows.fnExactVerOkSpec.post enc Try.prog Try.f6 false true false false) := by
  refine returnsInHanded_of_change (C := Try.checked) own started (by kernel_rfl) Try.func6
    (ChangeSpec.witness6 (enc := enc) (C := Try.checked) false ⟨#[], #[.agg #[.int .i64 0, .int .i64 0, .int .i64 0, .slice none 0 0, .string ByteArray.empty, .bool false]], []⟩ 8 (by kernel_rfl) (by kernel_rfl) (by kernel_rfl) (by kernel_rfl)) ?_
  intro W base args ds gs before hval0 hW hcnd _
  have hval : ∀ (j : Nat) t v, Try.f6.params[j]? = some t → args[j]? = some v → Value.okWide Try.prog W .any base t v := hval0
  have hW' := hW
  obtain ⟨p, q, hA0, hV, rfl, hfz, hnd⟩ := hW
  have hA : DataW.TrodAll enc Try.prog W 0 (fun _ => true) true Try.f6.params.toList args.toList ds p := hA0
  rw [Try.params6] at hA hval
  have hK := hA
  obtain ⟨v0, vs0, d0, ds0, p0, q0, hargs, rfl, rfl, h0, r0⟩ := trodAll_cons hA
  obtain ⟨rfl, rfl, rfl⟩ := trodAll_nil r0
  obtain rfl : args = #[v0] := by cases args; simp_all
  obtain ⟨rfl, rfl⟩ := trodVars_none hV
  obtain ⟨k0, t0, u0, a0, cap0, z0, s0, g0, rfl, b0⟩ := read_ver (hval 0 43 v0 rfl rfl) h0
  clear hA0 hval0
  refine (walk k0 t0 u0 a0 cap0 z0 s0 g0 W b0.1 b0.2.1 b0.2.2).mono fun e W' ⟨he, hb⟩ => ?_
  subst he
  have hK' := stay_all hb (by intro t ht; simp only [List.mem_cons, List.not_mem_nil, or_false] at ht; rcases ht with rfl <;> exact ⟨by kernel_rfl, of_decide_eq_true (by kernel_rfl)⟩) hK
  exact ⟨_, rfl, _, _, _, [], _, [], hW', trodAll_mk1 (shut_bool Try.underlying4 _), hK', rfl, hb.frame _, fun h => by cases h⟩

theorem over : Rows.fnExactVerOkRow.holds Try.pinned (OpenSpec.ofChange Rows.fnExactVerOkSpec) :=
  OpenClaim.holds_of_wide 6 Try.f6 rfl rfl rfl rfl rfl rfl rfl ⟨rfl, rfl, rfl, rfl, rfl⟩ rfl rfl rfl rfl rfl (by kernel_rfl) Try.func6
    (by refine joined_of ?_; kernel_rfl) (of_decide_eq_true (by kernel_rfl)) (by unfold Func.isWrapper; first | (rw [if_pos (by decide +kernel)]; kernel_rfl) | (rw [if_neg (by decide +kernel)]; exact ⟨rfl, rfl⟩))
    (fun os started H enc _ => lifted os started H enc)
end Go.Proofs.Ytcfhnhiodpinmaa.LawVerOk
namespace Go.Proofs.Ytcfhnhiodpinmaa
/-- The statement itself. -/
theorem fnExactVerOk_holds : Rows.FnExactVerOkSaid := LawVerOk.over
#print axioms fnExactVerOk_holds
end Go.Proofs.Ytcfhnhiodpinmaa
namespace Go.Proofs.Ytcfhnhiodpinmaa.LawVerOk
end Go.Proofs.Ytcfhnhiodpinmaa.LawVerOk
