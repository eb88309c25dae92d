/- Contracts of PastJoin and PastNone, in the program and in the model. Condition: at most 1048576 tags. -/
import Derived.Test.YtieechelogkeoaaPastJoin
namespace Go.Proofs.Ytieechelogkeoaa
open Go.RowKit Go.Joins

theorem tagAt_eight (z0 z1 z2 z3 : Int × Int) : ∀ i x, [z0, z1, z2, z3][i]? = some x → TagAt #[.int .i64 z0.1, .int .i64 z0.2, .int .i64 z1.1, .int .i64 z1.2, .int .i64 z2.1, .int .i64 z2.2, .int .i64 z3.1, .int .i64 z3.2] i x := by
  intro i x h
  match i with
  | 0 => simp at h; subst h; exact ⟨rfl, rfl⟩
  | 1 => simp at h; subst h; exact ⟨rfl, rfl⟩
  | 2 => simp at h; subst h; exact ⟨rfl, rfl⟩
  | 3 => simp at h; subst h; exact ⟨rfl, rfl⟩
  | n + 4 => simp at h

set_option maxHeartbeats 1000000 in
theorem past_any (z0 z1 z2 z3 : Int × Int) (w : World) :
    Calls Try.prog 34 #[.agg #[.int .i64 z0.1, .int .i64 z0.2, .int .i64 z1.1, .int .i64 z1.2, .int .i64 z2.1, .int .i64 z2.2, .int .i64 z3.1, .int .i64 z3.2]] w (JoinedP w [z0, z1, z2, z3]) := by
  have S0 := ((Inv.start w).box 75 #[.int .i64 z0.1, .int .i64 z0.2, .int .i64 z1.1, .int .i64 z1.2, .int .i64 z2.1, .int .i64 z2.2, .int .i64 z3.1, .int .i64 z3.2]).box 33 #[.slice none 0 0]
  simp only [World.size_alloc] at S0
  have L0 := S0.below
  clear S0
  go_enter Try.func34, Try.ntmps34
  go_wp2
  refine bodyPost_ret (v := .agg #[.slice (some ⟨w.heap.size, 0, none⟩) 4 4]) (by simp [results, Try.results34, go_sem]) rfl ?_
  exact ⟨w.heap.size, 4, 75, #[.int .i64 z0.1, .int .i64 z0.2, .int .i64 z1.1, .int .i64 z1.2, .int .i64 z2.1, .int .i64 z2.2, .int .i64 z3.1, .int .i64 z3.2], rfl, Nat.le_refl _, (Blk.made w 75 #[.int .i64 z0.1, .int .i64 z0.2, .int .i64 z1.1, .int .i64 z1.2, .int .i64 z2.1, .int .i64 z2.2, .int .i64 z3.1, .int .i64 z3.2]).more _, by simp, tagAt_eight z0 z1 z2 z3, below_alloc2 _ _ _⟩

abbrev z4 : List (Int × Int) := [(0, 0), (0, 0), (0, 0), (0, 0)]

set_option maxHeartbeats 1000000 in
theorem l1None_any (w : World) : Calls Try.prog 58 #[] w (JoinedP w z4) := by
  have hmk : ∀ W : World, (Instr.makeSlice 31 (.int .i64 4) (.int .i64 4)).run Try.prog W = .ok (.slice (some ⟨W.heap.size, 0, none⟩) 4 4) (W.alloc (.cells zero8 70)) := fun _ => by kernel_rfl
  go_enter Try.func58, Try.ntmps58
  go_wp2
  refine bodyPost_ret (v := .agg #[.slice (some ⟨w.heap.size + 1, 0, none⟩) 4 4]) (by simp [results, Try.results58, go_sem]) rfl ?_
  have B0 := Blk.made (w.alloc (.cells #[.slice (some ⟨w.heap.size + 1, 0, none⟩) 4 4] 33)) 70 zero8
  simp only [World.size_alloc] at B0
  exact ⟨w.heap.size + 1, 4, 70, zero8, rfl, Nat.le_succ _, B0, by simp, tagAt_eight (0, 0) (0, 0) (0, 0) (0, 0), below_alloc2 _ _ _⟩

set_option maxHeartbeats 1000000 in
theorem implPastNone_any (w : World) : Calls Try.prog 13 #[] w (JoinedP w z4) := by
  have S0 := (Inv.start w).box 33 #[.slice none 0 0]
  simp only [World.size_alloc] at S0
  go_enter Try.func13, Try.ntmps13
  go_wp2_with fail
  generalize w.alloc (.cells #[.slice none 0 0] 33) = W at S0 ⊢
  refine (past_any (0, 0) (0, 0) (0, 0) (0, 0) W).mono ?_
  rintro e w3 ⟨g, cap, T, cur, rfl, hg, hB, hsz, hcur, hb3⟩
  have S3 := S0.on hb3
  have q1 := (S3.nth 0 rfl).one
  have hL := S3.below
  have hr := S0.room
  have HC := hide hcur
  clear S0 S3 hcur
  go_wp2
  refine bodyPost_ret (v := .agg #[.slice (some ⟨g, 0, none⟩) 4 cap]) (by simp [results, Try.results13, go_sem, q1]) rfl ?_
  exact ⟨g, cap, T, cur, rfl, by omega, hB.aside (by simp; omega) _, hsz, HC.out, hL.setCell (by simp) _⟩
end Go.Proofs.Ytieechelogkeoaa
