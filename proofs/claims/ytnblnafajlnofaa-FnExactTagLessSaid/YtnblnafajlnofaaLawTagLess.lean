/- The law FnExactTagLess holds: for every two tags the program's TagLess answers as the model's. No condition. -/
import Derived.Test.YtnblnafajlnofaaLift
import Derived.Test.YtnblnafajlnofaaTags
import Derived.Test.YtnblnafajlnofaaWorld
import Derived.Deep.RegionHeld3
namespace Go.Proofs.Ytnblnafajlnofaa.LawTagLess
open Go.ChangeShapes Go.WideShapes Go.ChangeAt Go.RowKit Go.Joins

/-- What the law's walk knows of memory between two calls: the two boxed arguments, and that nothing old has turned. -/
structure Two (w : World) (T : TypeId) (t p t' p' : Int) (w' : World) : Prop where
  below : Below w.heap.size w w'
  one : Blk w' w.heap.size T #[.int .i64 t, .int .i64 p]
  two : Blk w' (w.heap.size + 1) T #[.int .i64 t', .int .i64 p']
theorem Two.on {w w1 w2 : World} {T : TypeId} {t p t' p' : Int} (h : Two w T t p t' p' w1) (hb : Below w1.heap.size w1 w2) : Two w T t p t' p' w2 :=
  ⟨h.below.trans (hb.mono h.below.size), h.one.on hb, h.two.on hb⟩
theorem Two.start (w : World) (T : TypeId) (t p t' p' : Int) : Two w T t p t' p' ((w.alloc (.cells #[.int .i64 t, .int .i64 p] T)).alloc (.cells #[.int .i64 t', .int .i64 p'] T)) :=
  ⟨((Below.refl _ _).alloc (Nat.le_refl _) _).alloc (by simp) _, (Blk.made w T _).more _, by have := Blk.made (w.alloc (.cells #[.int .i64 t, .int .i64 p] T)) T #[.int .i64 t', .int .i64 p']; simpa using this⟩
theorem Two.drew {w w1 : World} {T : TypeId} {t p t' p' : Int} (h : Two w T t p t' p' w1) : Two w T t p t' p' w1.drew := ⟨h.below.drew, h.one, h.two⟩

/-- The same, as a region's walk wants it: the cells that it loads, one by one. -/
abbrev Held (w : World) (T : TypeId) (t p t' p' : Int) (w' : World) : Prop :=
  w'.cell? ⟨w.heap.size, 0, none⟩ = some (.int .i64 t) ∧ w'.cell? ⟨w.heap.size, 1, none⟩ = some (.int .i64 p) ∧ w'.cell? ⟨w.heap.size + 1, 0, none⟩ = some (.int .i64 t') ∧ w'.cell? ⟨w.heap.size + 1, 1, none⟩ = some (.int .i64 p') ∧ Two w T t p t' p' w'
theorem Two.held {w w1 : World} {T : TypeId} {t p t' p' : Int} (h : Two w T t p t' p' w1) : Held w T t p t' p' w1 := ⟨h.one.at 0, h.one.at 1, h.two.at 0, h.two.at 1, h⟩
theorem Two.keep {w w1 w2 : World} {T : TypeId} {t p t' p' : Int} (hb : Below w1.heap.size w1 w2) (h : Held w T t p t' p' w1) : Held w T t p t' p' w2 := (h.2.2.2.2.on hb).held

set_option maxHeartbeats 400000 in
theorem walk (t p t' p' : Int) (w : World) :
    Calls Try.prog 8 #[.agg #[.int .i64 t, .int .i64 p], .agg #[.int .i64 t', .int .i64 p']] w fun e w' => e = .returned (.bool true) ∧ Below w.heap.size w w' := by
  have S0 := Two.start w 40 t p t' p'
  go_enter Try.func8, Try.ntmps8
  go_wp2_with fail
  go_region_held3 (fun w' => w'.cell? ⟨w.heap.size, 0, none⟩ = some (.int .i64 t) ∧ w'.cell? ⟨w.heap.size, 1, none⟩ = some (.int .i64 p) ∧ w'.cell? ⟨w.heap.size + 1, 0, none⟩ = some (.int .i64 t') ∧ w'.cell? ⟨w.heap.size + 1, 1, none⟩ = some (.int .i64 p') ∧ Two w 40 t p t' p' w')
    (first | exact S0.drew.held | exact Two.keep hb (by assumption))
    (first
      | (go_at_call 38; refine (toTag_any _ _ _).mono ?_; rintro e w1 ⟨rfl, hb⟩)
      | (go_at_call 23; refine (specTagLess_any _ _ _ _ _).mono ?_; rintro e w1 ⟨rfl, hb⟩))
  rename_i hS
  have S1 := hS.2.2.2.2
  clear hS S0
  go_wp2_with fail
  go_region_held3 (fun w' => w'.cell? ⟨w.heap.size, 0, none⟩ = some (.int .i64 t) ∧ w'.cell? ⟨w.heap.size, 1, none⟩ = some (.int .i64 p) ∧ w'.cell? ⟨w.heap.size + 1, 0, none⟩ = some (.int .i64 t') ∧ w'.cell? ⟨w.heap.size + 1, 1, none⟩ = some (.int .i64 p') ∧ Two w 40 t p t' p' w')
    (first | exact S1.drew.held | exact Two.keep hb (by assumption))
    (first
      | (go_at_call 38; refine (toTag_any _ _ _).mono ?_; rintro e w1 ⟨rfl, hb⟩)
      | (go_at_call 22; refine (implTagLess_any _ _ _ _ _).mono ?_; rintro e w1 ⟨rfl, hb⟩))
  rename_i hS
  have S2 := hS.2.2.2.2
  clear hS
  go_wp2
  go_ret
  exact ⟨rfl, S2.below⟩

set_option maxRecDepth 100000 in
theorem lifted (os : Os) (started : os.Started) (H : Type) (enc : TypeId × Value → H) :
    ReturnsInHanded {} Try.checked os 8 .any (Rows.fnExactTagLessSpec.pre6 enc Try.prog Try.f8 Rows.fnExactTagLessRow.domain false) (Rows.fnExactTagLessSpec.post enc Try.prog Try.f8 false true false false) := by
  refine returnsInHanded_of_change (C := Try.checked) own started (by kernel_rfl) Try.func8
    (ChangeSpec.witness6 (enc := enc) (C := Try.checked) false ⟨#[], #[.agg #[.int .i64 0, .int .i64 0], .agg #[.int .i64 0, .int .i64 0]], []⟩ 8 (by kernel_rfl) (by kernel_rfl) (by kernel_rfl) (by kernel_rfl)) ?_
  intro W base args ds gs before hval0 hW hcnd _
  have hval : ∀ (j : Nat) t v, Try.f8.params[j]? = some t → args[j]? = some v → Value.okWide Try.prog W .any base t v := hval0
  have hW' := hW
  obtain ⟨p, q, hA0, hV, rfl, hfz, hnd⟩ := hW
  have hA : DataW.TrodAll enc Try.prog W 0 (fun _ => true) true Try.f8.params.toList args.toList ds p := hA0
  rw [Try.params8] at hA hval
  have hK := hA
  obtain ⟨v0, vs0, d0, ds0, p0, q0, hargs, rfl, rfl, h0, r0⟩ := trodAll_cons hA
  obtain ⟨v1, vs1, d1, ds1, p1, q1, rfl, rfl, rfl, h1, r1⟩ := trodAll_cons r0
  obtain ⟨rfl, rfl, rfl⟩ := trodAll_nil r1
  obtain rfl : args = #[v0, v1] := by cases args; simp_all
  obtain ⟨rfl, rfl⟩ := trodVars_none hV
  obtain ⟨t0, u0, rfl⟩ := read_tag (hval 0 40 v0 rfl rfl) h0
  obtain ⟨t1, u1, rfl⟩ := read_tag (hval 1 40 v1 rfl rfl) h1
  clear hA0 hval0
  refine (walk t0 u0 t1 u1 W).mono fun e W' ⟨he, hb⟩ => ?_
  subst he
  have hK' := stay_all hb (by intro t ht; simp only [List.mem_cons, List.not_mem_nil, or_false] at ht; rcases ht with rfl | rfl <;> exact ⟨by kernel_rfl, of_decide_eq_true (by kernel_rfl)⟩) hK
  exact ⟨_, rfl, _, _, _, [], _, [], hW', trodAll_mk1 (shut_bool Try.underlying4 _), hK', rfl, hb.frame _, fun h => by cases h⟩

theorem over : Rows.fnExactTagLessRow.holds Try.pinned (OpenSpec.ofChange Rows.fnExactTagLessSpec) :=
  OpenClaim.holds_of_wide 8 Try.f8 rfl rfl rfl rfl rfl rfl rfl ⟨rfl, rfl, rfl, rfl, rfl⟩ rfl rfl rfl rfl rfl (by kernel_rfl) Try.func8
    (by refine joined_of ?_; kernel_rfl) (of_decide_eq_true (by kernel_rfl)) (by unfold Func.isWrapper; first | (rw [if_pos (by decide +kernel)]; kernel_rfl) | (rw [if_neg (by decide +kernel)]; exact ⟨rfl, rfl⟩))
    (fun os started H enc _ => lifted os started H enc)
end Go.Proofs.Ytnblnafajlnofaa.LawTagLess
namespace Go.Proofs.Ytnblnafajlnofaa
/-- The statement itself. -/
theorem fnExactTagLess_holds : Rows.FnExactTagLessSaid := LawTagLess.over
#print axioms fnExactTagLess_holds
end Go.Proofs.Ytnblnafajlnofaa
namespace Go.Proofs.Ytnblnafajlnofaa.LawTagLess
end Go.Proofs.Ytnblnafajlnofaa.LawTagLess
