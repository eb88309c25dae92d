/- The law FnExactStoreNew holds: the program's StoreNew answers as the model's, in memory of its own. No condition. -/
import Derived.Test.YtcfhnhiodpinmaaLift3
import Derived.Test.YtcfhnhiodpinmaaStoreNew
import Derived.Test.YtcfhnhiodpinmaaReg
namespace Go.Proofs.Ytcfhnhiodpinmaa.LawStoreNew
open Go.ChangeShapes Go.WideShapes Go.ChangeAt Go.RowKit Go.Joins

set_option maxRecDepth 100000 in
set_option maxHeartbeats 2000000 in
theorem walk (w : World) : Calls Try.prog 7 #[] w fun e w' => e = .returned (.bool true) ∧ Below w.heap.size w w' := by
  go_enter Try.func7, Try.ntmps7
  go_wp2_with fail
  refine (specStoreNew_any w).mono ?_
  rintro e w1 ⟨g1, rfl, hg1, hB1, hb1⟩
  have S1 := ((((Inv.start w).on hb1).add hg1 hB1)).box 53 #[.slice (some ⟨g1, 0, none⟩) 4 4]
  go_wp2_with fail
  generalize w1.alloc (.cells #[.slice (some ⟨g1, 0, none⟩) 4 4] 53) = W1 at S1 ⊢
  refine (implStoreNew_any W1).mono ?_
  rintro e w2 ⟨g2, rfl, hg2, hB2, hb2⟩
  have hlt1 := (S1.blk _ (List.mem_of_getElem? (i := 0) rfl)).2.1
  have hlt2 := (S1.blk _ (List.mem_of_getElem? (i := 1) rfl)).2.1
  have hbase := S1.base
  have hroom := S1.room
  have S2 := ((((S1.on hb2)).add (by omega) hB2)).box 53 #[.slice (some ⟨g2, 0, none⟩) 4 4]
  have k1 := (S2.nth 2 rfl).one.1
  clear S1
  have hz2 := hb2.size
  have hin2 := hB2.inside
  go_wp2_with fail
  generalize hW2 : w2.alloc (.cells #[.slice (some ⟨g2, 0, none⟩) 4 4] 53) = W2 at S2 k1 ⊢
  have HW2 : w2.heap.size < W2.heap.size := by rw [← hW2]; simp
  clear hW2
  refine (eqStore_new g2 g1 W2 (S2.nth 1 rfl) (S2.nth 3 rfl)).mono ?_
  rintro e w3 ⟨rfl, hb3⟩
  have S3 := (S2.on hb3).top
  clear S2 k1
  have k3 := (S3.nth 0 rfl).one.1
  go_wp2_with fail
  refine (markStore_bare g2 4 zero24 w3 (S3.nth 1 rfl) rfl (fun j hj => by
    match j, hj with
    | 0, _ => rfl
    | 1, _ => rfl
    | 2, _ => rfl
    | 3, _ => rfl)).mono ?_
  rintro e w4 ⟨rfl, ⟨cur4, hB4, hsz4, hcur4⟩, hG4⟩
  have HC4 := hide hcur4
  have hg2w : w.heap.size ≤ g2 := by omega
  have hz3 := hb3.size
  have S4 : Inv w w3.heap.size [(w2.heap.size, 53, #[.slice (some ⟨g2, 0, none⟩) 4 4]), (g2, 47, cur4), (w1.heap.size, 53, #[.slice (some ⟨g1, 0, none⟩) 4 4]), (g1, 47, zero24)] w4 := by
    refine S3.turn hG4 hg2w (fun x hx => ?_)
    simp only [List.mem_cons, List.not_mem_nil, or_false] at hx
    rcases hx with rfl | rfl | rfl | rfl
    · exact .inl ⟨by simp, by simp only; omega⟩
    · exact .inr ⟨rfl, by omega, hB4⟩
    · exact .inl ⟨by simp, by simp only; omega⟩
    · exact .inl ⟨by simp, by simp only; omega⟩
  clear S3 k3 hcur4 hB4
  have k4 := (S4.nth 0 rfl).one.1
  go_wp2_with fail
  refine (heldStore_bare g2 4 cur4 w4 (S4.nth 1 rfl) HC4.out).mono ?_
  rintro e w5 ⟨rfl, hb5⟩
  have S5 := (S4.on hb5).top
  clear S4 k4
  go_wp2_with fail
  refine (implStoreNew_any w5).mono ?_
  rintro e w6 ⟨g6, rfl, hg6, hB6, hb6⟩
  have hbase5 := S5.base
  have S6 := ((((S5.on hb6)).add (by omega) hB6)).box 53 #[.slice (some ⟨g6, 0, none⟩) 4 4]
  have k6 := (S6.nth 4 rfl).one.1
  clear S5
  go_wp2_with fail
  generalize w6.alloc (.cells #[.slice (some ⟨g6, 0, none⟩) 4 4] 53) = W6 at S6 k6 ⊢
  refine (eqStore_new g6 g1 W6 (S6.nth 1 rfl) (S6.nth 5 rfl)).mono ?_
  rintro e w7 ⟨rfl, hb7⟩
  have S7 := (S6.on hb7).top
  clear S6 k6
  have k7 := (S7.nth 2 rfl).one.1
  go_wp2_with fail
  refine (heldStore_bare g2 4 cur4 w7 (S7.nth 3 rfl) HC4.out).mono ?_
  rintro e w8 ⟨rfl, hb8⟩
  have S8 := (S7.on hb8).top
  clear S7 k7
  go_wp2
  go_ret
  exact ⟨rfl, S8.below⟩

set_option maxRecDepth 100000 in
theorem lifted (os : Os) (started : os.Started) (H : Type) (enc : TypeId × Value → H) :
    ReturnsInHanded {} Try.checked os 7 .any (Rows.fnExactStoreNewSpec.pre6 enc Try.prog Try.f7 Rows.fnExactStoreNewRow.domain false) (Rows.fnExactStoreNewSpec.post enc Try.prog Try.f7 false true false false) := by
  refine returnsInHanded_of_change (C := Try.checked) own started (by kernel_rfl) Try.func7
    (ChangeSpec.witness6 (enc := enc) (C := Try.checked) false ⟨#[], #[], []⟩ 8 (by kernel_rfl) (by kernel_rfl) (by kernel_rfl) (by kernel_rfl)) ?_
  intro W base args ds gs before hval0 hW hcnd _
  have hval : ∀ (j : Nat) t v, Try.f7.params[j]? = some t → args[j]? = some v → Value.okWide Try.prog W .any base t v := hval0
  have hW' := hW
  obtain ⟨p, q, hA0, hV, rfl, hfz, hnd⟩ := hW
  have hA : DataW.TrodAll enc Try.prog W 0 (fun _ => true) true Try.f7.params.toList args.toList ds p := hA0
  rw [Try.params7] at hA hval
  have hK := hA
  obtain ⟨rfl, rfl, rfl⟩ := trodAll_none hA
  obtain ⟨rfl, rfl⟩ := trodVars_none hV
  clear hA0 hval0
  refine (walk W).mono fun e W' ⟨he, hb⟩ => ?_
  subst he
  exact ⟨_, rfl, _, _, _, [], _, [], hW', trodAll_mk1 (shut_bool Try.underlying4 _), trodAll_mk0, rfl, hb.frame _, fun h => by cases h⟩

theorem over : Rows.fnExactStoreNewRow.holds Try.pinned (OpenSpec.ofChange Rows.fnExactStoreNewSpec) :=
  OpenClaim.holds_of_wide 7 Try.f7 rfl rfl rfl rfl rfl rfl rfl ⟨rfl, rfl, rfl, rfl, rfl⟩ rfl rfl rfl rfl rfl (by kernel_rfl) Try.func7
    (by refine joined_of ?_; kernel_rfl) (of_decide_eq_true (by kernel_rfl)) (by unfold Func.isWrapper; first | (rw [if_pos (by decide +kernel)]; kernel_rfl) | (rw [if_neg (by decide +kernel)]; exact ⟨rfl, rfl⟩))
    (fun os started H enc _ => lifted os started H enc)
end Go.Proofs.Ytcfhnhiodpinmaa.LawStoreNew
namespace Go.Proofs.Ytcfhnhiodpinmaa
/-- The statement itself. -/
theorem fnExactStoreNew_holds : Rows.FnExactStoreNewSaid := LawStoreNew.over
#print axioms fnExactStoreNew_holds
end Go.Proofs.Ytcfhnhiodpinmaa
namespace Go.Proofs.Ytcfhnhiodpinmaa.LawStoreNew
end Go.Proofs.Ytcfhnhiodpinmaa.LawStoreNew
