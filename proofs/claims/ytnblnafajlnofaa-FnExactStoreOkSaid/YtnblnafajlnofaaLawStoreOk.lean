/- The law FnExactStoreOk holds: for every store the program's StoreOk answers as the model's, and leaves its argument as it was. No condition. -/
import Derived.Test.YtnblnafajlnofaaLift3
import Derived.Test.YtnblnafajlnofaaStoreOk
import Derived.Test.YtnblnafajlnofaaReg
namespace Go.Proofs.Ytnblnafajlnofaa.LawStoreOk
open Go.ChangeShapes Go.WideShapes Go.ChangeAt Go.RowKit Go.Joins
attribute [local go_sem ↓] Go.wp_at_zero Go.wp_at_succ

theorem like_both {us us' vs : List V} (hl : us.length = vs.length) (hl' : us'.length = vs.length) (h : Like us vs) (h' : Like us' vs) : Like us us' := fun i v v' hi hi' => by
  have hlt : i < vs.length := by have := (List.getElem?_eq_some_iff.1 hi).1; omega
  obtain ⟨a1, a2, a3, a4, a5, a6⟩ := h i v _ hi (List.getElem?_eq_getElem hlt)
  obtain ⟨b1, b2, b3, b4, b5, b6⟩ := h' i v' _ hi' (List.getElem?_eq_getElem hlt)
  exact ⟨a1.trans b1.symm, a2.trans b2.symm, a3.trans b3.symm, a4.trans b4.symm, a5.trans b5.symm, a6.trans b6.symm⟩
theorem small_like {us vs : List V} (hl : us.length = vs.length) (h : Like us vs) (hs : Small vs) : Small us := fun v hv => by
  obtain ⟨i, hi⟩ := List.getElem?_of_mem hv
  have hlt : i < vs.length := by have := (List.getElem?_eq_some_iff.1 hi).1; omega
  obtain ⟨a1, a2, a3, a4, a5, a6⟩ := h i v _ hi (List.getElem?_eq_getElem hlt)
  have := hs _ (List.getElem_mem hlt)
  rw [a4, a5]
  exact this
set_option maxRecDepth 100000 in
set_option maxHeartbeats 2000000 in
theorem walk (a : Option Addr) (c : Nat) (vs : List V) (w : World) (hv : Vg w w.heap.size a vs) (hl : vs.length ≤ 9223372036854775807) (hm0 : ∀ v ∈ vs, v.ts.length ≤ 9223372036854775807 ∧ v.s.size ≤ 9223372036854775807) :
    Calls Try.prog 15 #[.agg #[.slice a vs.length c]] w fun e w' => e = .returned (.bool true) ∧ Below w.heap.size w w' := by
  have S0 := (Inv.start w).box 65 #[.slice a vs.length c]
  simp only [World.size_alloc] at S0
  have HM := hide hm0
  clear hm0
  by_cases hsum : vs.length + tot vs ≤ 1048576
  · have hn : vs.length ≤ 1048576 := by omega
    have SM : Hid (Small vs) := fun v hv => ⟨by have := tot_mem hv; omega, (HM.out v hv).2⟩
    go_enter Try.func15, Try.ntmps15
    go_wp2_with fail
    refine (szStore_fits a c vs 1048576 _ (by omega) (by omega) ((hv.on S0.below).up S0.base)).mono ?_
    rintro e w1 ⟨rfl, hb1⟩
    have S1 := S0.on hb1
    have k1 := (S1.nth 0 rfl).one.1
    have hp : ¬ ((1048576 : Int) - (vs.length : Int) - (tot vs : Int) < 0) := by omega
    go_wp2_with fail
    refine (toStore_any a c vs _ hn (fun v hv => (SM.out v hv).1) ((hv.on S1.below).up S1.base)).mono ?_
    rintro e w2 ⟨g2, us2, cur2, rfl, hg2, hl2, hli2, hR2, hsz2, hb2⟩
    have S2 := S1.on hb2
    have V2 := hR2.vg
    have M2 := small_like hl2 hli2 SM.out
    have E2 := hide (storeB_like hl2 hli2)
    clear S0 S1 k1 hR2 hli2
    go_wp2_with fail
    rw [← hl2]
    refine (specStoreOk_any _ _ us2 _ (by omega) M2 V2).mono ?_
    rintro e w3 ⟨rfl, hb3⟩
    rw [E2.out, hl2]
    have S3 := S2.on hb3
    have k3 := (S3.nth 0 rfl).one.1
    clear S2 V2 M2
    go_wp2_with fail
    refine (toStore_any a c vs _ hn (fun v hv => (SM.out v hv).1) ((hv.on S3.below).up S3.base)).mono ?_
    rintro e w4 ⟨g4, us4, cur4, rfl, hg4, hl4, hli4, hR4, hsz4, hb4⟩
    have S4 := ((S3.on hb4).top).box 70 #[.slice (some ⟨g4, 0, none⟩) vs.length vs.length]
    have R4 := hide (hR4.on (below_alloc1 w4 (.cells #[.slice (some ⟨g4, 0, none⟩) vs.length vs.length] 70)))
    have HL4 := hide hl4
    have HI4 := hide hli4
    clear S3 k3 hR4 hl4 hli4
    go_wp2_with fail
    generalize w4.alloc (.cells #[.slice (some ⟨g4, 0, none⟩) vs.length vs.length] 70) = W4 at S4 R4 ⊢
    have C4 := (implStoreOk_any (some ⟨g4, 0, none⟩) vs.length us4 W4 (by have := HL4.out; omega) (small_like HL4.out HI4.out SM.out) R4.out.vg)
    rw [HL4.out, storeB_like HL4.out HI4.out] at C4
    refine C4.mono ?_
    rintro e w5 ⟨rfl, hb5⟩
    have S5 := S4.on hb5
    have R5 := hide (R4.out.on hb5)
    clear S4 C4 R4
    go_wp2_with fail
    refine wp_region_noPanic ?_
    refine wp_region_held_drew (S := (fun w' => w'.cell? ⟨w4.heap.size, 0, none⟩ = some (.slice (some ⟨g4, 0, none⟩) vs.length vs.length) ∧ w'.cell? ⟨w.heap.size, 0, none⟩ = some (.slice a vs.length c) ∧ Inv w W4.heap.size [(w4.heap.size, 70, #[.slice (some ⟨g4, 0, none⟩) vs.length vs.length]), (w.heap.size, 65, #[.slice a vs.length c])] w' ∧ Hid (Row w' g4 us4 cur4))) (by kernel_rfl) (by exact ⟨(S5.nth 0 rfl).at 0, (S5.nth 1 rfl).at 0, S5.drew, R5.out.on (Below.refl _ _).drew⟩) (fun hHeld => ?_)
    refine take_run 0 (some 22) (v := ?_) rfl rfl (by kernel_rfl) (by kernel_rfl) (by kernel_rfl) (fun _ _ _ h => h) (by rfl) ?_ hHeld ?_
    rotate_left
    · ((intro w hSw); (try dsimp only at hSw); go_simp <;> with_reducible rfl)
    simp only [Act.put, List.setIfInBounds_toArray, List.set_cons_zero, List.set_cons_succ]
    refine take_run 1 (some 23) (v := ?_) rfl rfl (by kernel_rfl) (by kernel_rfl) (by kernel_rfl) (fun _ _ _ h => h) (by rfl) ?_ hHeld ?_
    rotate_left
    · ((intro w hSw); (try dsimp only at hSw); go_simp <;> with_reducible rfl)
    simp only [Act.put, List.setIfInBounds_toArray, List.set_cons_zero, List.set_cons_succ]
    refine take_one 2 (by kernel_rfl) rfl (fun K hK => ?_)
    go_simp
    (refine (toStore_any a c vs _ hn (fun v hv => (SM.out v hv).1) ((hv.on hHeld.2.2.1.below).up hHeld.2.2.1.base)).mono ?_; rintro e w6 ⟨g6, us6, cur6, rfl, hg6, hl6, hli6, hR6, hsz6, hb⟩; have R6 := hide hR6; have HL6 := hide hl6; have HI6 := hide hli6; clear hR6 hl6 hli6)
    try go_wp2_with fail
    refine hK.out _ _ (by exact ⟨((hHeld.2.2.1.on hb).nth 0 rfl).at 0, ((hHeld.2.2.1.on hb).nth 1 rfl).at 0, hHeld.2.2.1.on hb, hHeld.2.2.2.out.on hb⟩) (fun hHeld => ?_)
    clear hK K
    refine take_one 3 (by kernel_rfl) rfl (fun K hK => ?_)
    go_simp
    (refine (eqStore_same _ _ _ _ vs.length us4 us6 _ hn HL4.out HL6.out (like_both HL4.out HL6.out HI4.out HI6.out) (fun v hv => ((small_like HL4.out HI4.out SM.out) v hv).1) hHeld.2.2.2.out.vg R6.out.vg).mono ?_; rintro e w7 ⟨rfl, hb⟩)
    try go_wp2_with fail
    refine hK.out _ _ (by exact ⟨((hHeld.2.2.1.on hb).nth 0 rfl).at 0, ((hHeld.2.2.1.on hb).nth 1 rfl).at 0, hHeld.2.2.1.on hb, hHeld.2.2.2.out.on hb⟩) (fun hHeld => ?_)
    clear hK K
    refine take_run 4 (some 26) (v := ?_) rfl rfl (by kernel_rfl) (by kernel_rfl) (by kernel_rfl) (fun _ _ _ h => h) (by rfl) ?_ hHeld ?_
    rotate_left
    · ((intro w hSw); (try dsimp only at hSw); go_simp <;> with_reducible rfl)
    simp only [Act.put, List.setIfInBounds_toArray, List.set_cons_zero, List.set_cons_succ]
    refine wpAnyH_done (by kernel_rfl) ?_ _
    refine NoPanic.normal ?_
    have S6 := hHeld.2.2.1
    clear hHeld
    go_wp2
    go_ret
    exact ⟨rfl, S6.below⟩
  · go_enter Try.func15, Try.ntmps15
    go_wp2_with fail
    refine (szStore_not a c vs 1048576 _ (by omega) (by omega) hl HM.out (by omega) ((hv.on S0.below).up S0.base)).mono ?_
    rintro e w1 ⟨rfl, hb1⟩
    have S1 := S0.on hb1
    clear S0
    go_wp2
    go_ret
    exact ⟨rfl, S1.below⟩

set_option maxRecDepth 100000 in
theorem lifted (os : Os) (started : os.Started) (H : Type) (enc : TypeId × Value → H) :
    ReturnsInHanded {} Try.checked os 15 .any (Rows.fnExactStoreOkSpec.pre6 enc Try.prog Try.f15 Rows.fnExactStoreOkRow.domain false) (Rows.fnExactStoreOkSpec.post enc Try.prog Try.f15 false true false false) := by
  refine returnsInHanded_of_change (C := Try.checked) own started (by kernel_rfl) Try.func15
    (ChangeSpec.witness6 (enc := enc) (C := Try.checked) false ⟨#[], #[.agg #[.slice none 0 0]], []⟩ 8 (by kernel_rfl) (by kernel_rfl) (by kernel_rfl) (by kernel_rfl)) ?_
  intro W base args ds gs before hval0 hW hcnd _
  have hval : ∀ (j : Nat) t v, Try.f15.params[j]? = some t → args[j]? = some v → Value.okWide Try.prog W .any base t v := hval0
  have hW' := hW
  obtain ⟨p, q, hA0, hV, rfl, hfz, hnd⟩ := hW
  have hA : DataW.TrodAll enc Try.prog W 0 (fun _ => true) true Try.f15.params.toList args.toList ds p := hA0
  rw [Try.params15] at hA hval
  have hK := hA
  obtain ⟨v0, vs0, d0, ds0, p0, q0, hargs, rfl, rfl, h0, r0⟩ := trodAll_cons hA
  obtain ⟨rfl, rfl, rfl⟩ := trodAll_nil r0
  obtain rfl : args = #[v0] := by cases args; simp_all
  obtain ⟨rfl, rfl⟩ := trodVars_none hV
  obtain ⟨a0, cap0, z0, rfl, b0⟩ := read_store (hval 0 65 v0 rfl rfl) h0
  clear hA0 hval0
  refine (walk a0 cap0 z0 W b0.1 b0.2.1 b0.2.2).mono fun e W' ⟨he, hb⟩ => ?_
  subst he
  have hK' := stay_all hb (by intro t ht; simp only [List.mem_cons, List.not_mem_nil, or_false] at ht; rcases ht with rfl <;> exact ⟨by kernel_rfl, of_decide_eq_true (by kernel_rfl)⟩) hK
  exact ⟨_, rfl, _, _, _, [], _, [], hW', trodAll_mk1 (shut_bool Try.underlying4 _), hK', rfl, hb.frame _, fun h => by cases h⟩

theorem over : Rows.fnExactStoreOkRow.holds Try.pinned (OpenSpec.ofChange Rows.fnExactStoreOkSpec) :=
  OpenClaim.holds_of_wide 15 Try.f15 rfl rfl rfl rfl rfl rfl rfl ⟨rfl, rfl, rfl, rfl, rfl⟩ rfl rfl rfl rfl rfl (by kernel_rfl) Try.func15
    (by refine joined_of ?_; kernel_rfl) (of_decide_eq_true (by kernel_rfl)) (by unfold Func.isWrapper; first | (rw [if_pos (by decide +kernel)]; kernel_rfl) | (rw [if_neg (by decide +kernel)]; exact ⟨rfl, rfl⟩))
    (fun os started H enc _ => lifted os started H enc)
end Go.Proofs.Ytnblnafajlnofaa.LawStoreOk
namespace Go.Proofs.Ytnblnafajlnofaa
/-- The statement itself. -/
theorem fnExactStoreOk_holds : Rows.FnExactStoreOkSaid := LawStoreOk.over
#print axioms fnExactStoreOk_holds
end Go.Proofs.Ytnblnafajlnofaa
namespace Go.Proofs.Ytnblnafajlnofaa.LawStoreOk
end Go.Proofs.Ytnblnafajlnofaa.LawStoreOk
