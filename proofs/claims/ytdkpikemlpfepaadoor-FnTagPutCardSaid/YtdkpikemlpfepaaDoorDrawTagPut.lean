/- Contract of the draw of one tag. Condition: as in Draw. -/
import Derived.Test.YtdkpikemlpfepaaDoorDrawTags
namespace Go.Proofs.YtdkpikemlpfepaaDoor
open Go.RowKit Go.Joins

set_option maxHeartbeats 1000000 in
theorem drawTagPut_any (w : World) (a : Option Addr) (len cap : Nat) (hc : Code0 w a len cap) (hl : len ≤ 1048576) :
    Calls Tryd.prog 7 #[.slice a len cap] w fun e w' => ∃ t p : Int, e = .returned (.agg #[.int .i64 t, .int .i64 p]) ∧ Below w.heap.size w w' := by
  have S0 := (Inv.start w).box 24 #[.int .i64 0, .int .i64 0]
  have C0 := hc.on (below_alloc1 w (.cells #[.int .i64 0, .int .i64 0] 24))
  go_enter Tryd.func7, Tryd.ntmps7
  go_wp2_with fail
  simp at S0
  generalize w.alloc (.cells #[.int .i64 0, .int .i64 0] 24) = W at S0 C0 ⊢
  have hr := S0.room
  refine (l20Open_any W a len cap C0 hl).mono ?_
  rintro e w1 ⟨a1, len1, cap1, rfl, hb1, h1⟩
  have S1 := S0.on hb1
  go_wp2_with fail
  refine (l20AnyTag_any w1 W.heap.size a1 len1 cap1 0 h1 (by omega)).mono ?_
  rintro e w2 ⟨t, p, htp, rfl, hg2, h2⟩
  have b0 := (S1.nth 0 rfl).kept hg2 (by intro e; injection e; omega)
  have l2 := below_grown S1.below hg2 (by omega)
  clear S0 S1 h1 h2 hg2 hb1 C0
  obtain ⟨k0, k1, k2, k3⟩ := b0.two
  go_wp2
  refine bodyPost_ret (v := .agg #[.int .i64 t, .int .i64 p]) (by simp [results, Tryd.results7, go_sem, k0, k1]) rfl ?_
  exact ⟨t, p, rfl, (l2.setCell (Nat.le_refl _) _).setCell (Nat.le_refl _) _⟩
end Go.Proofs.YtdkpikemlpfepaaDoor
