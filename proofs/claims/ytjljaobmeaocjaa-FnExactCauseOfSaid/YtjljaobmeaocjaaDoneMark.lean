/- Contracts of the laws' functions that write marks into a row of records and look whether they stand. Condition: at most 1048576 records, marks within bounds. -/
import Derived.Test.YtjljaobmeaocjaaDones
import Derived.Test.YtjljaobmeaocjaaPastMark
namespace Go.Proofs.Ytjljaobmeaocjaa
open Go.RowKit Go.Joins

/-- The marks that n records bear, from number k on. -/
def marksD (k : Int) (n : Nat) : List D := (List.range n).map fun (i : Nat) => (k + 5 * (i : Int), k + 5 * (i : Int) + 1, k + 5 * (i : Int) + 2, k + 5 * (i : Int) + 3, k + 5 * (i : Int) + 4)
theorem marksD_len (k : Int) (n : Nat) : (marksD k n).length = n := by simp [marksD]
theorem marksD_at (k : Int) (n i : Nat) (h : i < n) : (marksD k n)[i]? = some (k + 5 * (i : Int), k + 5 * (i : Int) + 1, k + 5 * (i : Int) + 2, k + 5 * (i : Int) + 3, k + 5 * (i : Int) + 4) := by simp [marksD, h]
theorem marksD_at' (k : Int) (n i : Nat) (h : i < n) : (marksD k n)[i]? = some (k + 5 * (i : Int), k + 5 * (i : Int) + 1, k + 5 * (i : Int) + 1 + 1, k + 5 * (i : Int) + 1 + 1 + 1, k + 5 * (i : Int) + 1 + 1 + 1 + 1) := by
  rw [marksD_at k n i h]
  have e2 : k + 5 * (i : Int) + 2 = k + 5 * (i : Int) + 1 + 1 := by omega
  have e3 : k + 5 * (i : Int) + 3 = k + 5 * (i : Int) + 1 + 1 + 1 := by omega
  have e4 : k + 5 * (i : Int) + 4 = k + 5 * (i : Int) + 1 + 1 + 1 + 1 := by omega
  rw [e2, e3, e4]

/-- What marking leaves: the marks in the row's own block; no other block has turned. -/
def MarkedD (w : World) (g : Nat) (T : TypeId) (size n : Nat) (k : Int) (e : Ending) (w' : World) : Prop :=
  e = .returned (.int .i64 (k + 5 * (n : Int))) ∧ (∃ cur', Blk w' g T cur' ∧ cur'.size = size ∧ ∀ i x, (marksD k n)[i]? = some x → DoneAt cur' i x) ∧ w.grownBy w' (some g)

set_option maxRecDepth 100000 in
set_option maxHeartbeats 2000000 in
theorem markDoneS_any (g c n : Nat) (T : TypeId) (cur : Array Value) (k : Int) (w : World) (hB : Blk w g T cur) (hs : n * 5 ≤ cur.size) (hn : n ≤ 1048576) (hk0 : 0 ≤ k) (hk : k ≤ 1000000000) :
    Calls Try.prog 28 #[.slice (some ⟨g, 0, none⟩) n c, .int .i64 k] w (MarkedD w g T cur.size n k) := by
  go_enter Try.func28, Try.ntmps28
  go_wp2
  go_loopw [1, 5] (fun v i wr => ∃ (j : Nat) (cr : Array Value), j ≤ n ∧ i = .int .i64 (j : Int) ∧ v = .int .i64 (k + 5 * (j : Int)) ∧ Blk wr g T cr ∧ cr.size = cur.size ∧ (∀ i x, i < j → (marksD k n)[i]? = some x → DoneAt cr i x) ∧ w.grownBy wr (some g)) (fun _ i _ => n - (intOf i).toNat)
  case atStart => exact ⟨0, cur, Nat.zero_le _, rfl, by simp, hB, rfl, fun i x hi => absurd hi (by omega), World.grownBy.refl _ _⟩
  case round =>
    obtain ⟨j, cr, hj, rfl, rfl, hC, hsz, hall, hG⟩ := hrel
    by_cases hlt : j < n
    · have hs0 : j * 5 < cr.size := by omega
      have hs1 : j * 5 + 1 < cr.size := by omega
      have hs2 : j * 5 + 2 < cr.size := by omega
      have hs3 : j * 5 + 3 < cr.size := by omega
      have hs4 : j * 5 + 4 < cr.size := by omega
      have HA := hide (doneAt_step hs4 (marksD_at' k n j hlt) hall)
      have HZ := hide hsz
      have d0 : wr.cell? ⟨g, j * 5, none⟩ = some cr[j * 5] := by rw [hC.at]; exact Array.getElem?_eq_getElem hs0
      have d1 : wr.cell? ⟨g, j * 5 + 1, none⟩ = some cr[j * 5 + 1] := by rw [hC.at]; exact Array.getElem?_eq_getElem hs1
      have d2 : wr.cell? ⟨g, j * 5 + 2, none⟩ = some cr[j * 5 + 2] := by rw [hC.at]; exact Array.getElem?_eq_getElem hs2
      have d3 : wr.cell? ⟨g, j * 5 + 3, none⟩ = some cr[j * 5 + 3] := by rw [hC.at]; exact Array.getElem?_eq_getElem hs3
      have d4 : wr.cell? ⟨g, j * 5 + 4, none⟩ = some cr[j * 5 + 4] := by rw [hC.at]; exact Array.getElem?_eq_getElem hs4
      have f0 := hC.loose (j * 5)
      have f1 := hC.loose (j * 5 + 1)
      have f2 := hC.loose (j * 5 + 2)
      have f3 := hC.loose (j * 5 + 3)
      have f4 := hC.loose (j * 5 + 4)
      clear hall hsz
      go_wp2
      exact ⟨⟨j + 1, _, by omega, by go_num, int_val (by omega), ((((hC.put _ _).put _ _).put _ _).put _ _).put _ _, by simp; exact HZ.out, HA.out, grown_own (grown_own (grown_own (grown_own (grown_own hG _) _) _) _) _⟩, by simp [intOf]; omega⟩
    · have hjn : j = n := by omega
      subst hjn
      clear hlt
      have HA := hide hall
      clear hall
      go_wp2
      go_ret
      exact ⟨rfl, ⟨cr, hC, hsz, fun i x hx => HA.out i x (by have := (List.getElem?_eq_some_iff.1 hx).1; rw [marksD_len] at this; exact this) hx⟩, hG⟩

set_option maxRecDepth 100000 in
set_option maxHeartbeats 1000000 in
theorem heldDoneS_any (a : Option Addr) (c n : Nat) (k : Int) (w : World) (hn : n ≤ 1048576) (hk0 : 0 ≤ k) (hk : k ≤ 1000000000) (ht : Dg w w.heap.size a (marksD k n)) :
    Calls Try.prog 29 #[.slice a n c, .int .i64 k] w fun e w' => e = .returned (.int .i64 (k + 5 * (n : Int))) ∧ w = w' := by
  go_enter Try.func29, Try.ntmps29
  go_wp2
  go_loop [1, 5] (fun v i => ∃ j : Nat, j ≤ n ∧ i = .int .i64 (j : Int) ∧ v = .int .i64 (k + 5 * (j : Int))) (fun _ i => n - (intOf i).toNat)
  case atStart => exact ⟨0, Nat.zero_le _, rfl, by simp⟩
  case round =>
    obtain ⟨j, hj, rfl, rfl⟩ := hrel
    by_cases hlt : j < n
    · rcases ht with h0 | ⟨b, off, rfl, hb, hx⟩
      · have := marksD_len k n; rw [h0] at this; simp at this; omega
      · obtain ⟨c0, c1, c2, c3, c4⟩ := hx j _ (marksD_at' k n j hlt)
        simp only at c0 c1 c2 c3 c4
        clear hx
        go_wp2
        exact ⟨⟨j + 1, by omega, by go_num, int_val (by omega)⟩, by simp [intOf]; omega⟩
    · have hjn : j = n := by omega
      subst hjn
      clear hlt
      go_wp2
      go_ret
      exact ⟨rfl, rfl⟩
end Go.Proofs.Ytjljaobmeaocjaa
