/- Contracts of the laws' functions that write marks into a vector's own memory and look whether they stand. Condition: at most 1048576 tags, marks within bounds. -/
import Derived.Test.YtpkoidbenojkmaaPastOk
namespace Go.Proofs.Ytpkoidbenojkmaa
open Go.RowKit Go.Joins

/-- The marks that n tags bear, from number k on. -/
def marksL (k : Int) (n : Nat) : List (Int × Int) := (List.range n).map fun (i : Nat) => (k + 2 * (i : Int), k + 2 * (i : Int) + 1)
theorem marksL_len (k : Int) (n : Nat) : (marksL k n).length = n := by simp [marksL]
theorem marksL_at (k : Int) (n i : Nat) (h : i < n) : (marksL k n)[i]? = some (k + 2 * (i : Int), k + 2 * (i : Int) + 1) := by simp [marksL, h]

theorem int_val {a b : Int} (h : a = b) : Value.int .i64 a = .int .i64 b := by rw [h]
theorem grown_own {w w' : World} {g i : Nat} (h : w.grownBy w' (some g)) (u : Value) : w.grownBy (w'.setCell ⟨g, i, none⟩ u) (some g) :=
  ⟨h.os, h.tape, h.output, by simpa [World.setCell] using h.size, fun k hk hne => (Below.heap_setCell w' _ u k (by rintro rfl; exact hne rfl)).trans (h.block k hk hne)⟩
/-- One known block has turned; the others are as they were. -/
theorem Inv.turn {w w1 w2 : World} {n g : Nat} {bs bs' : List (Nat × TypeId × Array Value)} (h : Inv w n bs w1) (hg : w1.grownBy w2 (some g)) (hw : w.heap.size ≤ g)
    (hs : ∀ x ∈ bs', (x ∈ bs ∧ x.1 ≠ g) ∨ (x.1 = g ∧ g < n ∧ Blk w2 g x.2.1 x.2.2)) : Inv w n bs' w2 := by
  refine ⟨h.below.grown hg h.below.size (fun k hk => by injection hk; omega), Nat.le_trans h.room hg.size, fun x hx => ?_⟩
  rcases hs x hx with ⟨hm, hne⟩ | ⟨rfl, hlt, hb⟩
  · exact ⟨(h.blk x hm).1, (h.blk x hm).2.1, (h.blk x hm).2.2.kept hg (by intro e; injection e; omega)⟩
  · exact ⟨hw, hlt, hb⟩

/-- What marking leaves: the marks in the row's own block; no other block has turned. -/
def MarkedS (w : World) (g : Nat) (T : TypeId) (size n : Nat) (k : Int) (e : Ending) (w' : World) : Prop :=
  e = .returned (.int .i64 (k + 2 * (n : Int))) ∧ (∃ cur', Blk w' g T cur' ∧ cur'.size = size ∧ ∀ i x, (marksL k n)[i]? = some x → TagAt cur' i x) ∧ w.grownBy w' (some g)

set_option maxRecDepth 100000 in
set_option maxHeartbeats 1000000 in
theorem markTagS_any (g c n : Nat) (T : TypeId) (cur : Array Value) (k : Int) (w : World) (hB : Blk w g T cur) (hs : n * 2 ≤ cur.size) (hn : n ≤ 1048576) (hk0 : 0 ≤ k) (hk : k ≤ 1000000000) :
    Calls Try.prog 46 #[.slice (some ⟨g, 0, none⟩) n c, .int .i64 k] w (MarkedS w g T cur.size n k) := by
  go_enter Try.func46, Try.ntmps46
  go_wp2
  go_loopw [1, 5] (fun v i wr => ∃ (j : Nat) (cr : Array Value), j ≤ n ∧ i = .int .i64 (j : Int) ∧ v = .int .i64 (k + 2 * (j : Int)) ∧ Blk wr g T cr ∧ cr.size = cur.size ∧ (∀ i x, i < j → (marksL k n)[i]? = some x → TagAt cr i x) ∧ w.grownBy wr (some g)) (fun _ i _ => n - (intOf i).toNat)
  case atStart => exact ⟨0, cur, Nat.zero_le _, rfl, by simp, hB, rfl, fun i x hi => absurd hi (by omega), World.grownBy.refl _ _⟩
  case round =>
    obtain ⟨j, cr, hj, rfl, rfl, hC, hsz, hall, hG⟩ := hrel
    by_cases hlt : j < n
    · have hs0 : j * 2 < cr.size := by omega
      have hs1 : j * 2 + 1 < cr.size := by omega
      have HA := hide (tagAt_step hs1 (marksL_at k n j hlt) hall)
      have HZ := hide hsz
      have d0 : wr.cell? ⟨g, j * 2, none⟩ = some cr[j * 2] := by rw [hC.at]; exact Array.getElem?_eq_getElem hs0
      have d1 : wr.cell? ⟨g, j * 2 + 1, none⟩ = some cr[j * 2 + 1] := by rw [hC.at]; exact Array.getElem?_eq_getElem hs1
      have f0 := hC.loose (j * 2)
      have f1 := hC.loose (j * 2 + 1)
      clear hall hsz
      go_wp2
      exact ⟨⟨j + 1, _, by omega, by go_num, int_val (by omega), (hC.put _ _).put _ _, by simp; exact HZ.out, HA.out, grown_own (grown_own hG _) _⟩, by simp [intOf]; omega⟩
    · have hjn : j = n := by omega
      subst hjn
      clear hlt
      have HA := hide hall
      clear hall
      go_wp2
      go_ret
      exact ⟨rfl, ⟨cr, hC, hsz, fun i x hx => HA.out i x (by have := (List.getElem?_eq_some_iff.1 hx).1; rw [marksL_len] at this; exact this) hx⟩, hG⟩

set_option maxRecDepth 100000 in
set_option maxHeartbeats 1000000 in
theorem heldTagS_any (a : Option Addr) (c n : Nat) (k : Int) (w : World) (hn : n ≤ 1048576) (hk0 : 0 ≤ k) (hk : k ≤ 1000000000) (ht : Tg w w.heap.size a (marksL k n)) :
    Calls Try.prog 49 #[.slice a n c, .int .i64 k] w fun e w' => e = .returned (.int .i64 (k + 2 * (n : Int))) ∧ w = w' := by
  go_enter Try.func49, Try.ntmps49
  go_wp2
  go_loop [1, 5] (fun v i => ∃ j : Nat, j ≤ n ∧ i = .int .i64 (j : Int) ∧ v = .int .i64 (k + 2 * (j : Int))) (fun _ i => n - (intOf i).toNat)
  case atStart => exact ⟨0, Nat.zero_le _, rfl, by simp⟩
  case round =>
    obtain ⟨j, hj, rfl, rfl⟩ := hrel
    by_cases hlt : j < n
    · rcases ht with h0 | ⟨b, off, rfl, hb, hx⟩
      · have := marksL_len k n; rw [h0] at this; simp at this; omega
      · obtain ⟨c0, c1⟩ := hx j _ (marksL_at k n j hlt)
        simp only at c0 c1
        clear hx
        go_wp2
        exact ⟨⟨j + 1, by omega, by go_num, int_val (by omega)⟩, by simp [intOf]; omega⟩
    · have hjn : j = n := by omega
      subst hjn
      clear hlt
      go_wp2
      go_ret
      exact ⟨rfl, rfl⟩

end Go.Proofs.Ytpkoidbenojkmaa
