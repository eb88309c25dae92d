/- Contracts of StoreNew, in the model, and of the laws' marks on a store without causes. No condition. -/
import Derived.Test.YtcfhnhiodpinmaaStoreNew0
import Derived.Test.YtcfhnhiodpinmaaMarkVers
namespace Go.Proofs.Ytcfhnhiodpinmaa
open Go.RowKit Go.Joins

set_option maxRecDepth 100000 in
set_option maxHeartbeats 1000000 in
theorem specStoreNew_any (w : World) : Calls Try.prog 25 #[] w (NewSt w) := by
  have S0 := (Inv.start w).box 53 #[.slice none 0 0]
  go_enter Try.func25, Try.ntmps25
  go_wp2_with fail
  refine (l2New_any _).mono ?_
  rintro e w1 ⟨g, rfl, hg, hB, hb1⟩
  have S1 := S0.on hb1
  have q1 := (S1.nth 0 rfl).one
  have hL := S1.below
  simp at hg
  clear S0 S1
  go_wp2
  refine bodyPost_ret (v := .agg #[.slice (some ⟨g, 0, none⟩) 4 4]) (by simp [results, Try.results25, go_sem, q1]) rfl ?_
  exact ⟨g, rfl, by omega, hB.aside (by simp; omega) _, hL.setCell (by simp) _⟩
set_option maxHeartbeats 1000000 in
theorem markStore_bare (G c : Nat) (cur : Array Value) (w : World) (hB : Blk w G 47 cur) (hs : cur.size = 24) (hbare : ∀ j, j < 4 → cur[j * 6 + 3]? = some (.slice none 0 0)) :
    Calls Try.prog 28 #[.agg #[.slice (some ⟨G, 0, none⟩) 4 c], .int .i64 1] w (MarkedVS w G 4 1) := by
  have L0 := below_alloc1 w (.cells #[.slice (some ⟨G, 0, none⟩) 4 c] 53)
  have HBA := hide hbare
  clear hbare
  go_enter Try.func28, Try.ntmps28
  go_wp2_with fail
  refine (markVerS_bare G c 4 cur 1 _ (hB.on L0) hs (by omega) (by omega) (by omega) HBA.out).mono ?_
  rintro e w1 ⟨rfl, hm, hG⟩
  have G0 := (World.grownBy_alloc w (.cells #[.slice (some ⟨G, 0, none⟩) 4 c] 53) (some G)).trans hG
  have HM := hide hm
  clear hm
  go_wp2
  go_ret
  exact ⟨rfl, HM.out, G0⟩
set_option maxHeartbeats 1000000 in
theorem heldStore_bare (G c : Nat) (cur : Array Value) (w : World) (hB : Blk w G 47 cur) (hm : ∀ j, j < 4 → VerAt cur j (markV 1 j 0)) :
    Calls Try.prog 29 #[.agg #[.slice (some ⟨G, 0, none⟩) 4 c], .int .i64 1] w fun e w' => e = .returned (.int .i64 21) ∧ Below w.heap.size w w' := by
  have L0 := below_alloc1 w (.cells #[.slice (some ⟨G, 0, none⟩) 4 c] 53)
  have HM := hide hm
  clear hm
  go_enter Try.func29, Try.ntmps29
  go_wp2_with fail
  refine (heldVerS_bare G c 4 cur 1 _ (hB.on L0) (by omega) (by omega) (by omega) HM.out).mono ?_
  rintro e w1 ⟨rfl, hb1⟩
  have hl := L0.trans (hb1.mono L0.size)
  go_wp2
  go_ret
  exact ⟨rfl, hl⟩
end Go.Proofs.Ytcfhnhiodpinmaa
