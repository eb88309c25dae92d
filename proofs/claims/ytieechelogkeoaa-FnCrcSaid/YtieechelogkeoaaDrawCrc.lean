/- Contract of the draw of a text for sums, whatever the code. Condition: at most 1048576 bytes. -/
import Derived.Test.YtieechelogkeoaaVerPut
import Derived.Test.YtieechelogkeoaaDrawVers2
namespace Go.Proofs.Ytieechelogkeoaa
open Go.RowKit Go.Joins
attribute [local go_sem ↓] Go.wp_at_zero Go.wp_at_succ

set_option maxHeartbeats 1000000 in
theorem ofM_any (w : World) (g : Nat) (a : Option Addr) (len cap m c n M : Nat) (h : Rd w g a len cap m) (hm : m + 1 ≤ 1000000) (hne : c ≠ g) (hc : c < w.heap.size) (hn : 1 ≤ n) (hn' : n ≤ 1000)
    (hx : ∀ i : Nat, i < n → ∃ s : ByteArray, s.size ≤ M ∧ w.cell? ⟨c, i, none⟩ = some (.string s)) :
    Calls Try.prog 35 #[.pointer (some ⟨g, 0, none⟩), .slice (some ⟨c, 0, none⟩) n n] w fun e w' => ∃ s : ByteArray, s.size ≤ M ∧ e = .returned (.string s) ∧ w.grownBy w' (some g) := by
  go_enter Try.func35, Try.ntmps35
  go_wp2_with fail
  refine (pick_any _ g a len cap m _ h (by omega) (by omega)).mono ?_
  rintro e w1 ⟨x, hxx, rfl, hg1, h1⟩
  have hxa := hxx.1
  have hxb := hxx.2 (by omega)
  obtain ⟨k, rfl⟩ := Int.eq_ofNat_of_zero_le hxa
  obtain ⟨s, hs, hcell⟩ := hx k (by omega)
  have c0 : w1.cell? ⟨c, k, none⟩ = some (.string s) := (World.cell?_of_block (hg1.block c hc (fun e => hne (by injection e)))).trans hcell
  have HS := hide hs
  have HG := hide hg1
  clear hx hg1 h1 hcell h hxx hs
  go_wp2
  go_ret
  exact ⟨s, HS.out, rfl, HG.out⟩
set_option maxRecDepth 100000 in
set_option maxHeartbeats 2000000 in
theorem drawCrc_any (w : World) (a : Option Addr) (len cap : Nat) (hc : Code0 w a len cap) (hl : len ≤ 1048576) :
    Calls Try.prog 14 #[.slice a len cap] w fun e w' => ∃ s : ByteArray, s.size ≤ 20000 ∧ e = .returned (.string s) ∧ Below w.heap.size w w' := by
  go_enter Try.func14, Try.ntmps14
  go_wp2_with fail
  refine (l20Open_any w a len cap hc hl).mono ?_
  rintro e w1 ⟨ra, rl, rc, rfl, hb1, h1⟩
  have z1 := h1.inside
  obtain ⟨g, eg⟩ : ∃ g, g = w.heap.size := ⟨_, rfl⟩
  rw [← eg] at h1 z1 ⊢
  have hg2 : w.heap.size ≤ g := by omega
  have HEG := hide eg
  clear hc eg
  go_wp2_with fail
  refine (l20Ver_any w1 g ra rl rc 0 h1 (by omega)).mono ?_
  rintro e w2 ⟨k, t, u, gb, ts, s, b, rfl, hk, hs, hF, hgb, hg1, h2⟩
  have L2 := below_grown hb1 hg1 hg2
  have T2 := (hF.past (lo := 0) (g := w2.heap.size) (Nat.zero_le _) (by have := hF.inside; omega)).tg
  have l4 : ts.length = 4 := by obtain ⟨_, _, _, e, _⟩ := hF; exact e
  clear h1 hb1 hg1 hF hgb
  go_wp2_with fail
  have CT := specVerPut_any k t u (some ⟨gb, 0, none⟩) 4 ts s b w2 (by omega) (by omega) T2
  rw [l4] at CT
  with_reducible refine CT.mono ?_
  clear CT
  have Z1 := hide (verPutS_size k t u ts s b (by omega))
  generalize verPutS k t u ts s b = r1 at Z1 ⊢
  rintro e w3 ⟨rfl, hb3⟩
  have L3 := L2.trans (hb3.mono L2.size)
  have h3 := h2.on hb3
  clear L2 h2 hb3 T2 l4 hs hk
  go_wp2_with fail
  refine (l20Ver_any w3 g ra rl rc _ h3 (by omega)).mono ?_
  rintro e w4 ⟨k, t, u, gb, ts, s, b, rfl, hk, hs, hF, hgb, hg1, h4⟩
  have L4 := below_grown L3 hg1 hg2
  have T4 := (hF.past (lo := 0) (g := w4.heap.size) (Nat.zero_le _) (by have := hF.inside; omega)).tg
  have l4 : ts.length = 4 := by obtain ⟨_, _, _, e, _⟩ := hF; exact e
  clear h3 L3 hg1 hF hgb
  go_wp2_with fail
  have CT := specVerPut_any k t u (some ⟨gb, 0, none⟩) 4 ts s b w4 (by omega) (by omega) T4
  rw [l4] at CT
  with_reducible refine CT.mono ?_
  clear CT
  have Z2 := hide (verPutS_size k t u ts s b (by omega))
  generalize verPutS k t u ts s b = r2 at Z2 ⊢
  rintro e w5 ⟨rfl, hb5⟩
  have L5 := L4.trans (hb5.mono L4.size)
  have h5 := h4.on hb5
  have z5 := h5.inside
  clear L4 h4 hb5 T4 l4 hs hk
  go_wp2_with fail
  refine (ofM_any _ g ra rl rc _ w5.heap.size 5 20000 (h5.alloc _) (by omega) (by omega) (by simp) (by omega) (by omega) (fun i hi => ?_)).mono ?_
  · rw [Blk.at (Blk.made _ _ _)]
    match i, hi with
    | 0, _ => exact ⟨_, by decide, rfl⟩
    | 1, _ => exact ⟨_, by decide, rfl⟩
    | 2, _ => exact ⟨_, by decide, rfl⟩
    | 3, _ => exact ⟨_, Z1.out, rfl⟩
    | 4, _ => exact ⟨_, Z2.out, rfl⟩
    | n + 5, hi => omega
  · rintro e w6 ⟨s, hs, rfl, hg6⟩
    have HL := hide (below_grown (L5.trans ((below_alloc1 w5 _).mono L5.size)) hg6 hg2)
    have HS := hide hs
    clear h5 hg6 L5 hs
    go_wp2
    go_ret
    exact ⟨s, HS.out, rfl, by first | exact HL.out | (rw [HEG.out]; exact HL.out)⟩
end Go.Proofs.Ytieechelogkeoaa
