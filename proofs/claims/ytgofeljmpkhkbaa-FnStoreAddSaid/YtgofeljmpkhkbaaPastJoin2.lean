/- Contracts of PastJoin and PastNone, in the program and in the model. Condition: at most 1048576 tags. -/
import Derived.Test.YtgofeljmpkhkbaaPastJoin
namespace Go.Proofs.Ytgofeljmpkhkbaa
open Go.RowKit Go.Joins

theorem tagAt_eight (z0 z1 z2 z3 : Int × Int) : ∀ i x, [z0, z1, z2, z3][i]? = some x → TagAt #[.int .i64 z0.1, .int .i64 z0.2, .int .i64 z1.1, .int .i64 z1.2, .int .i64 z2.1, .int .i64 z2.2, .int .i64 z3.1, .int .i64 z3.2] i x := by
  intro i x h
  match i with
  | 0 => simp at h; subst h; exact ⟨rfl, rfl⟩
  | 1 => simp at h; subst h; exact ⟨rfl, rfl⟩
  | 2 => simp at h; subst h; exact ⟨rfl, rfl⟩
  | 3 => simp at h; subst h; exact ⟨rfl, rfl⟩
  | n + 4 => simp at h

set_option maxHeartbeats 1000000 in
theorem past_any (z0 z1 z2 z3 : Int × Int) (w : World) :
    Calls Try.prog 39 #[.agg #[.int .i64 z0.1, .int .i64 z0.2, .int .i64 z1.1, .int .i64 z1.2, .int .i64 z2.1, .int .i64 z2.2, .int .i64 z3.1, .int .i64 z3.2]] w (JoinedP w [z0, z1, z2, z3]) := by
  have S0 := ((Inv.start w).box 69 #[.int .i64 z0.1, .int .i64 z0.2, .int .i64 z1.1, .int .i64 z1.2, .int .i64 z2.1, .int .i64 z2.2, .int .i64 z3.1, .int .i64 z3.2]).box 30 #[.slice none 0 0]
  simp only [World.size_alloc] at S0
  have L0 := S0.below
  clear S0
  go_enter Try.func39, Try.ntmps39
  go_wp2
  refine bodyPost_ret (v := .agg #[.slice (some ⟨w.heap.size, 0, none⟩) 4 4]) (by simp [results, Try.results39, go_sem]) rfl ?_
  exact ⟨w.heap.size, 4, 69, #[.int .i64 z0.1, .int .i64 z0.2, .int .i64 z1.1, .int .i64 z1.2, .int .i64 z2.1, .int .i64 z2.2, .int .i64 z3.1, .int .i64 z3.2], rfl, Nat.le_refl _, (Blk.made w 69 #[.int .i64 z0.1, .int .i64 z0.2, .int .i64 z1.1, .int .i64 z1.2, .int .i64 z2.1, .int .i64 z2.2, .int .i64 z3.1, .int .i64 z3.2]).more _, by simp, tagAt_eight z0 z1 z2 z3, below_alloc2 _ _ _⟩

set_option maxHeartbeats 2000000 in
theorem implPastJoin_ok (a a' : Option Addr) (c c' : Nat) (ts us : List (Int × Int)) (w : World) (hp : pastB ts = true) (hq : pastB us = true) (ht : Tg w w.heap.size a ts) (hu : Tg w w.heap.size a' us) :
    Calls Try.prog 19 #[.agg #[.slice a ts.length c], .agg #[.slice a' us.length c']] w (JoinedP w (mxL ts us)) := by
  obtain ⟨x0, x1, x2, x3, rfl⟩ := four_of hp
  obtain ⟨y0, y1, y2, y3, rfl⟩ := four_of hq
  have S0 := (((Inv.start w).box 30 #[.slice a 4 c]).box 30 #[.slice a' 4 c']).box 30 #[.slice none 0 0]
  simp only [World.size_alloc] at S0
  show Calls Try.prog 19 #[.agg #[.slice a 4 c], .agg #[.slice a' 4 c']] w (JoinedP w (mxL [x0, x1, x2, x3] [y0, y1, y2, y3]))
  go_enter Try.func19, Try.ntmps19
  go_wp2_with fail
  generalize ((w.alloc (.cells #[.slice a 4 c] 30)).alloc (.cells #[.slice a' 4 c'] 30)).alloc (.cells #[.slice none 0 0] 30) = W at S0 ⊢
  refine (vectorOf_any a c [x0, x1, x2, x3] W (by simp) ((ht.on S0.below).up S0.base)).mono ?_
  rintro e w1 ⟨h1, h2, hb1⟩
  have he := h1 hp
  rw [cells4_eq] at he
  subst he
  have S1 := ((S0.on hb1).top).box 69 #[.int .i64 x0.1, .int .i64 x0.2, .int .i64 x1.1, .int .i64 x1.2, .int .i64 x2.1, .int .i64 x2.2, .int .i64 x3.1, .int .i64 x3.2]
  have k1 := (S1.nth 2 rfl).one.1
  clear h1 h2 S0
  go_wp2_with fail
  generalize w1.alloc (.cells #[.int .i64 x0.1, .int .i64 x0.2, .int .i64 x1.1, .int .i64 x1.2, .int .i64 x2.1, .int .i64 x2.2, .int .i64 x3.1, .int .i64 x3.2] 69) = W1 at S1 k1 ⊢
  refine (vectorOf_any a' c' [y0, y1, y2, y3] W1 (by simp) ((hu.on S1.below).up S1.base)).mono ?_
  rintro e w2 ⟨h1, h2, hb2⟩
  have he := h1 hq
  rw [cells4_eq] at he
  subst he
  have S2 := ((S1.on hb2).top).box 69 #[.int .i64 y0.1, .int .i64 y0.2, .int .i64 y1.1, .int .i64 y1.2, .int .i64 y2.1, .int .i64 y2.2, .int .i64 y3.1, .int .i64 y3.2]
  have E1 := (S2.nth 1 rfl).eight.1
  clear h1 h2 S1 k1 hp hq
  go_wp2_with fail
  generalize w2.alloc (.cells #[.int .i64 y0.1, .int .i64 y0.2, .int .i64 y1.1, .int .i64 y1.2, .int .i64 y2.1, .int .i64 y2.2, .int .i64 y3.1, .int .i64 y3.2] 69) = W2 at S2 E1 ⊢
  refine (join_any x0 x1 x2 x3 y0 y1 y2 y3 W2).mono ?_
  rintro e w3 ⟨rfl, hb3⟩
  have S3 := S2.on hb3
  clear S2 E1
  go_wp2_with fail
  refine (past_any (mxp x0 y0) (mxp x1 y1) (mxp x2 y2) (mxp x3 y3) w3).mono ?_
  rintro e w4 ⟨g, cap, T, cur, rfl, hg, hB, hsz, hcur, hb4⟩
  have hr := S3.room
  have hbs := S3.base
  have S4 := S3.on hb4
  have q1 := (S4.nth 2 rfl).one
  have hL := S4.below
  have hz := (S3.blk _ (List.mem_of_getElem? (i := 2) rfl)).2.1
  have HC := hide hcur
  clear S3 S4 hcur
  go_wp2
  refine bodyPost_ret (v := .agg #[.slice (some ⟨g, 0, none⟩) 4 cap]) (by simp [results, Try.results19, go_sem, q1]) rfl ?_
  exact ⟨g, cap, T, cur, rfl, by omega, hB.aside (by simp at hz ⊢; omega) _, hsz, HC.out, hL.setCell (by simp; omega) _⟩

set_option maxHeartbeats 2000000 in
theorem implPastJoin_bad (a a' : Option Addr) (c c' : Nat) (ts us : List (Int × Int)) (w : World) (hn : ts.length ≤ 1048576) (hn' : us.length ≤ 1048576) (hpq : (pastB ts && pastB us) = false) (ht : Tg w w.heap.size a ts) (hu : Tg w w.heap.size a' us) :
    Calls Try.prog 19 #[.agg #[.slice a ts.length c], .agg #[.slice a' us.length c']] w fun e w' => e = .returned (.agg #[.slice none 0 0]) ∧ Below w.heap.size w w' := by
  have S0 := (((Inv.start w).box 30 #[.slice a ts.length c]).box 30 #[.slice a' us.length c']).box 30 #[.slice none 0 0]
  simp only [World.size_alloc] at S0
  have HP := hide hpq
  clear hpq
  go_enter Try.func19, Try.ntmps19
  go_wp2_with fail
  generalize ((w.alloc (.cells #[.slice a ts.length c] 30)).alloc (.cells #[.slice a' us.length c'] 30)).alloc (.cells #[.slice none 0 0] 30) = W at S0 ⊢
  refine (vectorOf_any a c ts W hn ((ht.on S0.below).up S0.base)).mono ?_
  rintro e w1 ⟨h1, h2, hb1⟩
  cases hp : pastB ts
  · have he := h2 hp
    subst he
    have S1 := ((S0.on hb1).top).box 69 zero8
    have k1 := (S1.nth 2 rfl).one.1
    clear h1 h2 hp S0
    go_wp2_with fail
    generalize w1.alloc (.cells zero8 69) = W1 at S1 k1 ⊢
    refine (vectorOf_any a' c' us W1 hn' ((hu.on S1.below).up S1.base)).mono ?_
    rintro e w2 ⟨h1, h2, hb2⟩
    have S2 := S1.on hb2
    clear k1 S1
    cases hq : pastB us
    · have he := h2 hq
      subst he
      have S3 := (S2.top).box 69 zero8
      have q1 := (S3.nth 2 rfl).one
      have hL := S3.below
      clear h1 h2 hq S2
      go_wp2_with fail
      generalize w2.alloc (.cells zero8 69) = W2 at S3 q1 hL ⊢
      clear S3
      go_wp2
      refine bodyPost_ret (v := .agg #[.slice none 0 0]) (by simp [results, Try.results19, go_sem, q1]) rfl ?_
      exact ⟨rfl, hL.setCell (by simp; omega) _⟩
    · have he := h1 hq
      obtain ⟨y0, y1, y2, y3, rfl⟩ := four_of hq
      rw [cells4_eq] at he
      subst he
      have S3 := (S2.top).box 69 #[.int .i64 y0.1, .int .i64 y0.2, .int .i64 y1.1, .int .i64 y1.2, .int .i64 y2.1, .int .i64 y2.2, .int .i64 y3.1, .int .i64 y3.2]
      have q1 := (S3.nth 2 rfl).one
      have hL := S3.below
      clear h1 h2 hq S2
      go_wp2_with fail
      generalize w2.alloc (.cells #[.int .i64 y0.1, .int .i64 y0.2, .int .i64 y1.1, .int .i64 y1.2, .int .i64 y2.1, .int .i64 y2.2, .int .i64 y3.1, .int .i64 y3.2] 69) = W2 at S3 q1 hL ⊢
      clear S3
      go_wp2
      refine bodyPost_ret (v := .agg #[.slice none 0 0]) (by simp [results, Try.results19, go_sem, q1]) rfl ?_
      exact ⟨rfl, hL.setCell (by simp; omega) _⟩
  · have he := h1 hp
    have hq : pastB us = false := by have := HP.out; rw [hp] at this; simpa using this
    obtain ⟨x0, x1, x2, x3, rfl⟩ := four_of hp
    rw [cells4_eq] at he
    subst he
    have S1 := ((S0.on hb1).top).box 69 #[.int .i64 x0.1, .int .i64 x0.2, .int .i64 x1.1, .int .i64 x1.2, .int .i64 x2.1, .int .i64 x2.2, .int .i64 x3.1, .int .i64 x3.2]
    have k1 := (S1.nth 2 rfl).one.1
    clear h1 h2 S0 hp
    go_wp2_with fail
    generalize w1.alloc (.cells #[.int .i64 x0.1, .int .i64 x0.2, .int .i64 x1.1, .int .i64 x1.2, .int .i64 x2.1, .int .i64 x2.2, .int .i64 x3.1, .int .i64 x3.2] 69) = W1 at S1 k1 ⊢
    refine (vectorOf_any a' c' us W1 hn' ((hu.on S1.below).up S1.base)).mono ?_
    rintro e w2 ⟨h1, h2, hb2⟩
    have he := h2 hq
    subst he
    have S3 := ((S1.on hb2).top).box 69 zero8
    have q1 := (S3.nth 3 rfl).one
    have q2 := (S3.nth 2 rfl).one
    have hL := S3.below
    clear h1 h2 hq S1 k1
    go_wp2_with fail
    generalize w2.alloc (.cells zero8 69) = W2 at S3 q1 q2 hL ⊢
    clear S3
    go_wp2
    refine bodyPost_ret (v := .agg #[.slice none 0 0]) (by simp [results, Try.results19, go_sem, q2]) rfl ?_
    exact ⟨rfl, hL.setCell (by simp; omega) _⟩

abbrev z4 : List (Int × Int) := [(0, 0), (0, 0), (0, 0), (0, 0)]

set_option maxHeartbeats 1000000 in
theorem l1None_any (w : World) : Calls Try.prog 64 #[] w (JoinedP w z4) := by
  have hmk : ∀ W : World, (Instr.makeSlice 28 (.int .i64 4) (.int .i64 4)).run Try.prog W = .ok (.slice (some ⟨W.heap.size, 0, none⟩) 4 4) (W.alloc (.cells zero8 27)) := fun _ => by kernel_rfl
  go_enter Try.func64, Try.ntmps64
  go_wp2
  refine bodyPost_ret (v := .agg #[.slice (some ⟨w.heap.size + 1, 0, none⟩) 4 4]) (by simp [results, Try.results64, go_sem]) rfl ?_
  have B0 := Blk.made (w.alloc (.cells #[.slice (some ⟨w.heap.size + 1, 0, none⟩) 4 4] 30)) 27 zero8
  simp only [World.size_alloc] at B0
  exact ⟨w.heap.size + 1, 4, 27, zero8, rfl, Nat.le_succ _, B0, by simp, tagAt_eight (0, 0) (0, 0) (0, 0) (0, 0), below_alloc2 _ _ _⟩

end Go.Proofs.Ytgofeljmpkhkbaa
