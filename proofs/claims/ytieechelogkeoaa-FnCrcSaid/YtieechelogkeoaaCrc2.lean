/- The table that Crc makes, by a deferred closure. No condition. -/
import Derived.Test.YtieechelogkeoaaCrc
namespace Go.Proofs.Ytieechelogkeoaa
open Go.RowKit Go.Joins
attribute [local go_sem ↓] Go.wp_at_zero Go.wp_at_succ

abbrev zero16 : Array Value := #[.int .u32 0, .int .u32 0, .int .u32 0, .int .u32 0, .int .u32 0, .int .u32 0, .int .u32 0, .int .u32 0, .int .u32 0, .int .u32 0, .int .u32 0, .int .u32 0, .int .u32 0, .int .u32 0, .int .u32 0, .int .u32 0]
abbrev tab16 : Array Value := #[.int .u32 (tab 0 : Int), .int .u32 (tab 1 : Int), .int .u32 (tab 2 : Int), .int .u32 (tab 3 : Int), .int .u32 (tab 4 : Int), .int .u32 (tab 5 : Int), .int .u32 (tab 6 : Int), .int .u32 (tab 7 : Int), .int .u32 (tab 8 : Int), .int .u32 (tab 9 : Int), .int .u32 (tab 10 : Int), .int .u32 (tab 11 : Int), .int .u32 (tab 12 : Int), .int .u32 (tab 13 : Int), .int .u32 (tab 14 : Int), .int .u32 (tab 15 : Int)]
theorem tabA_zero : tabA 0 = zero16 := rfl
theorem tabA_full : tabA 16 = tab16 := rfl
theorem c16 {w : World} {g : Nat} {T : TypeId} (h : Blk w g T (tabA 16)) : (w.cell? ⟨g, 0, none⟩ = some (.int .u32 (tab 0 : Int)) ∧ w.cell? ⟨g, 1, none⟩ = some (.int .u32 (tab 1 : Int)) ∧ w.cell? ⟨g, 2, none⟩ = some (.int .u32 (tab 2 : Int)) ∧ w.cell? ⟨g, 3, none⟩ = some (.int .u32 (tab 3 : Int)) ∧ w.cell? ⟨g, 4, none⟩ = some (.int .u32 (tab 4 : Int)) ∧ w.cell? ⟨g, 5, none⟩ = some (.int .u32 (tab 5 : Int)) ∧ w.cell? ⟨g, 6, none⟩ = some (.int .u32 (tab 6 : Int)) ∧ w.cell? ⟨g, 7, none⟩ = some (.int .u32 (tab 7 : Int))) ∧ (w.cell? ⟨g, 8, none⟩ = some (.int .u32 (tab 8 : Int)) ∧ w.cell? ⟨g, 9, none⟩ = some (.int .u32 (tab 9 : Int)) ∧ w.cell? ⟨g, 10, none⟩ = some (.int .u32 (tab 10 : Int)) ∧ w.cell? ⟨g, 11, none⟩ = some (.int .u32 (tab 11 : Int)) ∧ w.cell? ⟨g, 12, none⟩ = some (.int .u32 (tab 12 : Int)) ∧ w.cell? ⟨g, 13, none⟩ = some (.int .u32 (tab 13 : Int)) ∧ w.cell? ⟨g, 14, none⟩ = some (.int .u32 (tab 14 : Int)) ∧ w.cell? ⟨g, 15, none⟩ = some (.int .u32 (tab 15 : Int))) := by
  rw [tabA_full] at h
  exact ⟨⟨h.at 0, h.at 1, h.at 2, h.at 3, h.at 4, h.at 5, h.at 6, h.at 7⟩, h.at 8, h.at 9, h.at 10, h.at 11, h.at 12, h.at 13, h.at 14, h.at 15⟩
set_option maxRecDepth 100000 in
set_option maxHeartbeats 2000000 in
theorem newHalfSums_any (w : World) : Calls Try.prog 38 #[] w fun e w' => e = .returned (.agg (tabA 16)) ∧ Below w.heap.size w w' := by
  have hmf : ∀ (fn : Fn) (first cap : Array Value) (w : World), (Instr.makeFunc fn first cap).run Try.prog w = .ok (.func fn first cap) w := fun _ _ _ _ => rfl
  go_enter_defers Try.func38, Try.ntmps38
  go_wp2
  refine leaves_cons (f := 61) (args := #[.pointer (some ⟨w.heap.size, 0, none⟩)]) (by simp) (by simp [go_sem]) ?_
  refine (half_deferred w.heap.size 83 w _ .returning (Nat.le_refl _) (below_alloc1 _ _) (Blk.made _ _ _)).mono ?_
  rintro e u' w'' ⟨rfl, rfl, hB, hL⟩
  have q := c16 hB
  simp [Leaves, settle, results, Try.results38, go_sem, q]
  exact ⟨rfl, hL⟩
end Go.Proofs.Ytieechelogkeoaa
