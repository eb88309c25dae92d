/- The law FnExactTagMax holds: for every two tags the program's TagMax answers as the model's. No condition. -/
import Derived.Test.YtnblnafajlnofaaLift
import Derived.Test.YtnblnafajlnofaaTags
import Derived.Test.YtnblnafajlnofaaWorld
import Derived.Deep.RegionHeld3
import Derived.Deep.DeepCutAuto
namespace Go.Proofs.Ytnblnafajlnofaa.LawTagMax
open Go.ChangeShapes Go.WideShapes Go.ChangeAt Go.RowKit Go.Joins

abbrev two (w : World) (t p t' p' : Int) (bs : List (Nat × TypeId × Array Value)) : List (Nat × TypeId × Array Value) := (w.heap.size + 1, 40, #[.int .i64 t', .int .i64 p']) :: (w.heap.size, 40, #[.int .i64 t, .int .i64 p]) :: bs
/-- The same, as a region's walk wants it: the cells that it loads, one by one. -/
abbrev Held (w : World) (n : Nat) (t p t' p' : Int) (bs : List (Nat × TypeId × Array Value)) (w' : World) : Prop :=
  w'.cell? ⟨w.heap.size, 0, none⟩ = some (.int .i64 t) ∧ w'.cell? ⟨w.heap.size, 1, none⟩ = some (.int .i64 p) ∧ w'.cell? ⟨w.heap.size + 1, 0, none⟩ = some (.int .i64 t') ∧ w'.cell? ⟨w.heap.size + 1, 1, none⟩ = some (.int .i64 p') ∧ Inv w n (two w t p t' p' bs) w'
section
variable {w w1 w2 : World} {n : Nat} {t p t' p' : Int} {bs : List (Nat × TypeId × Array Value)}
theorem held (h : Inv w n (two w t p t' p' bs) w1) : Held w n t p t' p' bs w1 :=
  ⟨(h.nth 1 rfl).at 0, (h.nth 1 rfl).at 1, (h.nth 0 rfl).at 0, (h.nth 0 rfl).at 1, h⟩
theorem keep (hb : Below w1.heap.size w1 w2) (h : Held w n t p t' p' bs w1) : Held w n t p t' p' bs w2 := held (h.2.2.2.2.on hb)
theorem keep2 {a b : Addr} {u v : Value} (ha : n ≤ a.block) (hw : w.heap.size ≤ a.block) (hb : n ≤ b.block) (hv : w.heap.size ≤ b.block) (h : Held w n t p t' p' bs w1) : Held w n t p t' p' bs ((w1.setCell a u).setCell b v) :=
  held ((h.2.2.2.2.set ha hw u).set hb hv v)
theorem keep3 {o o' : Obj} (hn : n ≤ w1.heap.size) (hw : w.heap.size ≤ w1.heap.size) (h : Held w n t p t' p' bs (w1.alloc o)) : Held w n t p t' p' bs (w1.alloc o') :=
  held (h.2.2.2.2.swap hn hw)
end

set_option maxHeartbeats 1000000 in
theorem walk (t p t' p' : Int) (w : World) :
    Calls Try.prog 9 #[.agg #[.int .i64 t, .int .i64 p], .agg #[.int .i64 t', .int .i64 p']] w fun e w' => e = .returned (.bool true) ∧ Below w.heap.size w w' := by
  have S0 : Inv w (w.heap.size + 2) (two w t p t' p' []) ((w.alloc (.cells #[.int .i64 t, .int .i64 p] 40)).alloc (.cells #[.int .i64 t', .int .i64 p'] 40)) := by
    simpa [two] using ((Inv.start w).box 40 #[.int .i64 t, .int .i64 p]).box 40 #[.int .i64 t', .int .i64 p']
  go_enter Try.func9, Try.ntmps9
  go_wp2_with fail
  generalize ((w.alloc (.cells #[.int .i64 t, .int .i64 p] 40)).alloc (.cells #[.int .i64 t', .int .i64 p'] 40)) = W at S0 ⊢
  have hr := S0.room
  go_upto_region 1 with (fail)
  go_cut [5] (fun s wx => ∃ g : Nat, s = .pointer (some ⟨g, 0, none⟩) ∧ (w.heap.size + 2) ≤ g ∧ Blk wx g 24 #[.int .i64 (mxT t p t' p'), .int .i64 (mxP t p t' p')] ∧ Inv w (w.heap.size + 2) (two w t p t' p' []) wx)
  case first =>
    go_region_held3 (fun w' => w'.cell? ⟨w.heap.size, 0, none⟩ = some (.int .i64 t) ∧ w'.cell? ⟨w.heap.size, 1, none⟩ = some (.int .i64 p) ∧ w'.cell? ⟨w.heap.size + 1, 0, none⟩ = some (.int .i64 t') ∧ w'.cell? ⟨w.heap.size + 1, 1, none⟩ = some (.int .i64 p') ∧ Inv w (w.heap.size + 2) (two w t p t' p' []) w')
      (first | exact held S0.drew | exact keep hb (by assumption) | exact keep (below_alloc1 _ _) (by assumption) | exact keep3 (o := .cells #[.int .i64 0, .int .i64 0] 24) (by first | omega | (simp <;> omega)) (by first | omega | (simp <;> omega)) (by assumption) | exact keep2 (by first | omega | (simp <;> omega)) (by first | omega | (simp <;> omega)) (by first | omega | (simp <;> omega)) (by first | omega | (simp <;> omega)) (by assumption))
      (first
        | (go_at_call 38; refine (toTag_any _ _ _).mono ?_; rintro e w1 ⟨rfl, hb⟩; have hz := hb.size; (try simp at hz); (first | ((with_reducible have hx := Blk.on (Blk.drew (Blk.made _ _ _)) hb); (try simp at hx); obtain ⟨k0, k1, k2, k3⟩ := hx.two) | ((with_reducible have hx := Blk.on (Blk.made _ _ _) hb); obtain ⟨k0, k1, k2, k3⟩ := hx.two) | ((with_reducible have hx := Blk.on (by assumption) hb); obtain ⟨k0, k1, k2, k3⟩ := hx.two) | skip))
        | (go_at_call 26; refine (specTagMax_any _ _ _ _ _).mono ?_; rintro e w1 ⟨rfl, hb⟩; have hz := hb.size; (try simp at hz); (first | ((with_reducible have hx := Blk.on (Blk.drew (Blk.made _ _ _)) hb); (try simp at hx); obtain ⟨k0, k1, k2, k3⟩ := hx.two) | ((with_reducible have hx := Blk.on (Blk.made _ _ _) hb); obtain ⟨k0, k1, k2, k3⟩ := hx.two) | ((with_reducible have hx := Blk.on (by assumption) hb); obtain ⟨k0, k1, k2, k3⟩ := hx.two) | skip)))
    all_goals
      rename_i hS
      go_wp2_with fail
      go_meet
      first
        | exact ⟨_, rfl, by omega, Blk.made _ _ _, hS.2.2.2.2⟩
        | exact ⟨_, rfl, by omega, (hx.put 0 _).put 1 _, hS.2.2.2.2⟩
  case rest =>
  obtain ⟨g, rfl, hg, hB, S1⟩ := hcut
  have S2 : Inv w wc.heap.size (two w t p t' p' [(g, 24, #[.int .i64 (mxT t p t' p'), .int .i64 (mxP t p t' p')])]) wc := (S1.add (by omega) hB).sub (by simp [two])
  have hr2 := S1.room
  clear S0 S1 hB hr
  go_wp2_with fail
  go_upto_region 2 with (fail)
  go_cut [6] (fun s wx => ∃ k : Nat, s = .pointer (some ⟨k, 0, none⟩) ∧ wc.heap.size ≤ k ∧ Blk wx k 24 #[.int .i64 (mxT t p t' p'), .int .i64 (mxP t p t' p')] ∧ Inv w wc.heap.size (two w t p t' p' [(g, 24, #[.int .i64 (mxT t p t' p'), .int .i64 (mxP t p t' p')])]) wx)
  case first =>
    go_region_held3 (fun w' => w'.cell? ⟨w.heap.size, 0, none⟩ = some (.int .i64 t) ∧ w'.cell? ⟨w.heap.size, 1, none⟩ = some (.int .i64 p) ∧ w'.cell? ⟨w.heap.size + 1, 0, none⟩ = some (.int .i64 t') ∧ w'.cell? ⟨w.heap.size + 1, 1, none⟩ = some (.int .i64 p') ∧ Inv w wc.heap.size (two w t p t' p' [(g, 24, #[.int .i64 (mxT t p t' p'), .int .i64 (mxP t p t' p')])]) w')
      (first | exact held S2.drew | exact keep hb (by assumption) | exact keep (below_alloc1 _ _) (by assumption) | exact keep3 (o := .cells #[.int .i64 0, .int .i64 0] 24) (by first | omega | (simp <;> omega)) (by first | omega | (simp <;> omega)) (by assumption) | exact keep2 (by first | omega | (simp <;> omega)) (by first | omega | (simp <;> omega)) (by first | omega | (simp <;> omega)) (by first | omega | (simp <;> omega)) (by assumption))
      (first
        | (go_at_call 38; refine (toTag_any _ _ _).mono ?_; rintro e w1 ⟨rfl, hb⟩; have hz := hb.size; (try simp at hz); (first | ((with_reducible have hx := Blk.on (Blk.drew (Blk.made _ _ _)) hb); (try simp at hx); obtain ⟨k0, k1, k2, k3⟩ := hx.two) | ((with_reducible have hx := Blk.on (Blk.made _ _ _) hb); obtain ⟨k0, k1, k2, k3⟩ := hx.two) | ((with_reducible have hx := Blk.on (by assumption) hb); obtain ⟨k0, k1, k2, k3⟩ := hx.two) | skip))
        | (go_at_call 25; refine (implTagMax_any _ _ _ _ _).mono ?_; rintro e w1 ⟨rfl, hb⟩; have hz := hb.size; (try simp at hz); (first | ((with_reducible have hx := Blk.on (Blk.drew (Blk.made _ _ _)) hb); (try simp at hx); obtain ⟨k0, k1, k2, k3⟩ := hx.two) | ((with_reducible have hx := Blk.on (Blk.made _ _ _) hb); obtain ⟨k0, k1, k2, k3⟩ := hx.two) | ((with_reducible have hx := Blk.on (by assumption) hb); obtain ⟨k0, k1, k2, k3⟩ := hx.two) | skip)))
    all_goals
      rename_i hS
      go_wp2_with fail
      go_meet
      first
        | exact ⟨_, rfl, by omega, Blk.made _ _ _, hS.2.2.2.2⟩
        | exact ⟨_, rfl, by omega, (hx.put 0 _).put 1 _, hS.2.2.2.2⟩
  case rest =>
  obtain ⟨k, rfl, hk, hB, S3⟩ := hcut
  obtain ⟨k0, k1, _, _⟩ := hB.two
  obtain ⟨k2, k3, _, _⟩ := (S3.nth 2 rfl).two
  have S4 := S3.top
  clear S2 S3 hB
  go_wp2_with fail
  refine (eqTag_any _ _ _ _ _).mono ?_
  rintro e w1 ⟨rfl, hb⟩
  rw [eqB_same]
  have S5 := S4.on hb
  go_wp2
  go_ret
  exact ⟨rfl, S5.below⟩

set_option maxRecDepth 100000 in
theorem lifted (os : Os) (started : os.Started) (H : Type) (enc : TypeId × Value → H) :
    ReturnsInHanded {} Try.checked os 9 .any (Rows.fnExactTagMaxSpec.pre6 enc Try.prog Try.f9 Rows.fnExactTagMaxRow.domain false) (Rows.fnExactTagMaxSpec.post enc Try.prog Try.f9 false true false false) := by
  refine returnsInHanded_of_change (C := Try.checked) own started (by kernel_rfl) Try.func9
    (ChangeSpec.witness6 (enc := enc) (C := Try.checked) false ⟨#[], #[.agg #[.int .i64 0, .int .i64 0], .agg #[.int .i64 0, .int .i64 0]], []⟩ 8 (by kernel_rfl) (by kernel_rfl) (by kernel_rfl) (by kernel_rfl)) ?_
  intro W base args ds gs before hval0 hW hcnd _
  have hval : ∀ (j : Nat) t v, Try.f9.params[j]? = some t → args[j]? = some v → Value.okWide Try.prog W .any base t v := hval0
  have hW' := hW
  obtain ⟨p, q, hA0, hV, rfl, hfz, hnd⟩ := hW
  have hA : DataW.TrodAll enc Try.prog W 0 (fun _ => true) true Try.f9.params.toList args.toList ds p := hA0
  rw [Try.params9] at hA hval
  have hK := hA
  obtain ⟨v0, vs0, d0, ds0, p0, q0, hargs, rfl, rfl, h0, r0⟩ := trodAll_cons hA
  obtain ⟨v1, vs1, d1, ds1, p1, q1, rfl, rfl, rfl, h1, r1⟩ := trodAll_cons r0
  obtain ⟨rfl, rfl, rfl⟩ := trodAll_nil r1
  obtain rfl : args = #[v0, v1] := by cases args; simp_all
  obtain ⟨rfl, rfl⟩ := trodVars_none hV
  obtain ⟨t0, u0, rfl⟩ := read_tag (hval 0 40 v0 rfl rfl) h0
  obtain ⟨t1, u1, rfl⟩ := read_tag (hval 1 40 v1 rfl rfl) h1
  clear hA0 hval0
  refine (walk t0 u0 t1 u1 W).mono fun e W' ⟨he, hb⟩ => ?_
  subst he
  have hK' := stay_all hb (by intro t ht; simp only [List.mem_cons, List.not_mem_nil, or_false] at ht; rcases ht with rfl | rfl <;> exact ⟨by kernel_rfl, of_decide_eq_true (by kernel_rfl)⟩) hK
  exact ⟨_, rfl, _, _, _, [], _, [], hW', trodAll_mk1 (shut_bool Try.underlying4 _), hK', rfl, hb.frame _, fun h => by cases h⟩

theorem over : Rows.fnExactTagMaxRow.holds Try.pinned (OpenSpec.ofChange Rows.fnExactTagMaxSpec) :=
  OpenClaim.holds_of_wide 9 Try.f9 rfl rfl rfl rfl rfl rfl rfl ⟨rfl, rfl, rfl, rfl, rfl⟩ rfl rfl rfl rfl rfl (by kernel_rfl) Try.func9
    (by refine joined_of ?_; kernel_rfl) (of_decide_eq_true (by kernel_rfl)) (by unfold Func.isWrapper; first | (rw [if_pos (by decide +kernel)]; kernel_rfl) | (rw [if_neg (by decide +kernel)]; exact ⟨rfl, rfl⟩))
    (fun os started H enc _ => lifted os started H enc)
end Go.Proofs.Ytnblnafajlnofaa.LawTagMax
namespace Go.Proofs.Ytnblnafajlnofaa
/-- The statement itself. -/
theorem fnExactTagMax_holds : Rows.FnExactTagMaxSaid := LawTagMax.over
#print axioms fnExactTagMax_holds
end Go.Proofs.Ytnblnafajlnofaa
namespace Go.Proofs.Ytnblnafajlnofaa.LawTagMax
end Go.Proofs.Ytnblnafajlnofaa.LawTagMax
