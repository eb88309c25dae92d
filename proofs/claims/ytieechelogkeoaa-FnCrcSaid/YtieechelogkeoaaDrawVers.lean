/- Contracts of the draws of texts. Condition: as in Draw. -/
import Derived.Test.YtieechelogkeoaaDrawPasts2
import Derived.Test.YtieechelogkeoaaVerRows
namespace Go.Proofs.Ytieechelogkeoaa
open Go.RowKit Go.Joins
attribute [local go_sem ↓] Go.wp_at_zero Go.wp_at_succ

/-- What the draw of a text leaves. -/
def DrawnStr (w : World) (g : Nat) (a : Option Addr) (len cap m d : Nat) (e : Ending) (w' : World) : Prop :=
  ∃ s : ByteArray, s.size ≤ 16 ∧ e = .returned (.string s) ∧ w.grownBy w' (some g) ∧ Rd w' g a len cap (m + d)
set_option maxHeartbeats 1000000 in
theorem of_any (w : World) (g : Nat) (a : Option Addr) (len cap m c n : Nat) (h : Rd w g a len cap m) (hm : m + 1 ≤ 1000000) (hne : c ≠ g) (hc : c < w.heap.size) (hn : 1 ≤ n) (hn' : n ≤ 1000)
    (hx : ∀ i : Nat, i < n → ∃ s : ByteArray, s.size ≤ 16 ∧ w.cell? ⟨c, i, none⟩ = some (.string s)) :
    Calls Try.prog 35 #[.pointer (some ⟨g, 0, none⟩), .slice (some ⟨c, 0, none⟩) n n] w (DrawnStr w g a len cap m 1) := by
  go_enter Try.func35, Try.ntmps35
  go_wp2_with fail
  refine (pick_any _ g a len cap m _ h (by omega) (by omega)).mono ?_
  rintro e w1 ⟨x, hxx, rfl, hg1, h1⟩
  have hxa := hxx.1
  have hxb := hxx.2 (by omega)
  obtain ⟨k, rfl⟩ := Int.eq_ofNat_of_zero_le hxa
  obtain ⟨s, hs, hcell⟩ := hx k (by omega)
  have c0 : w1.cell? ⟨c, k, none⟩ = some (.string s) := (World.cell?_of_block (hg1.block c hc (fun e => hne (by injection e)))).trans hcell
  have HS := hide hs
  have HG := hide hg1
  have HR := hide h1
  clear hx hg1 h1 hcell h hxx hs
  go_wp2
  go_ret
  exact ⟨s, HS.out, rfl, HG.out, HR.out⟩
set_option maxRecDepth 100000 in
set_option maxHeartbeats 1000000 in
theorem l20Text_any (w : World) (g : Nat) (a : Option Addr) (len cap m : Nat) (h : Rd w g a len cap m) (hm : m + 1 ≤ 1000000) :
    Calls Try.prog 59 #[.pointer (some ⟨g, 0, none⟩)] w (DrawnStr w g a len cap m 1) := by
  have hgw := h.inside
  go_enter Try.func59, Try.ntmps59
  go_wp2_with fail
  refine (of_any _ g a len cap m w.heap.size 8 (h.alloc _) hm (by omega) (by simp) (by omega) (by omega) (fun i hi => ?_)).mono ?_
  · rw [Blk.at (Blk.made _ _ _)]
    match i, hi with
    | 0, _ => exact ⟨_, by decide, rfl⟩
    | 1, _ => exact ⟨_, by decide, rfl⟩
    | 2, _ => exact ⟨_, by decide, rfl⟩
    | 3, _ => exact ⟨_, by decide, rfl⟩
    | 4, _ => exact ⟨_, by decide, rfl⟩
    | 5, _ => exact ⟨_, by decide, rfl⟩
    | 6, _ => exact ⟨_, by decide, rfl⟩
    | 7, _ => exact ⟨_, by decide, rfl⟩
    | n + 8, hi => omega
  · rintro e w1 ⟨s, hs, rfl, hg1, h1⟩
    have HG := hide ((grown_none (row := some g) (below_alloc1 w _)).trans hg1)
    have HR := hide h1
    clear h hg1 h1
    go_wp2
    go_ret
    exact ⟨s, hs, rfl, HG.out, HR.out⟩
end Go.Proofs.Ytieechelogkeoaa
