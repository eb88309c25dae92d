/- Contracts of how the program writes what a version has beside its tags. Condition: at most 1048576 letters. -/
import Derived.Test.YtoechhbjfejmjaaDoorPutPure2
import Derived.Test.YtoechhbjfejmjaaDoorVerOk
namespace Go.Proofs.YtoechhbjfejmjaaDoor
open Go.RowKit Go.Joins
attribute [local go_sem ↓] Go.wp_at_zero Go.wp_at_succ

set_option maxRecDepth 100000 in
set_option maxHeartbeats 1000000 in
theorem valueRest_any (s : ByteArray) (hs : s.size ≤ 1048576) (w : World) :
    Calls Tryd.prog 131 #[.agg #[.string s]] w fun e w' => e = .returned (.string (restS s false)) ∧ Below w.heap.size w w' := by
  have L0 := below_alloc1 w (.cells #[.string s] 82)
  have q0 := (Blk.made w 82 #[.string s]).one
  have hz : ¬ (9223372036854775807 < 1 + s.size) := by omega
  have HS : Hid (restS s false = ⟨#[61]⟩ ++ s) := rfl
  go_enter Tryd.func131, Tryd.ntmps131
  go_wp2
  go_ret
  exact ⟨by rw [HS.out]; rfl, L0⟩
set_option maxRecDepth 100000 in
set_option maxHeartbeats 1000000 in
theorem tombRest_any (s : ByteArray) (w : World) :
    Calls Tryd.prog 128 #[.agg #[.string s]] w fun e w' => e = .returned (.string (restS s true)) ∧ Below w.heap.size w w' := by
  have L0 := below_alloc1 w (.cells #[.string s] 81)
  go_enter Tryd.func128, Tryd.ntmps128
  go_wp2
  go_ret
  exact ⟨rfl, L0⟩
end Go.Proofs.YtoechhbjfejmjaaDoor
