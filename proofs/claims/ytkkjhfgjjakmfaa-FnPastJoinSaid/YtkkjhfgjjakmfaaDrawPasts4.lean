/- Contract of the draw of two vectors that are to be joined, whatever the code. Condition: at most 1048576 bytes. -/
import Derived.Test.YtkkjhfgjjakmfaaDrawPasts3
namespace Go.Proofs.Ytkkjhfgjjakmfaa
open Go.RowKit Go.Joins
attribute [local go_sem ↓] Go.wp_at_zero Go.wp_at_succ

set_option maxRecDepth 100000 in
set_option maxHeartbeats 1000000 in
theorem drawPastJoin_any (w : World) (a : Option Addr) (len cap : Nat) (hc : Code0 w a len cap) (hl : len ≤ 1048576) :
    Calls Try.prog 9 #[.slice a len cap] w (TwoPasts w) := by
  have S0 := ((Inv.start w).box 25 #[.slice none 0 0]).box 25 #[.slice none 0 0]
  simp only [World.size_alloc] at S0
  have C0 := hc.on S0.below
  go_enter Try.func9, Try.ntmps9
  go_wp2_with fail
  generalize hW : (w.alloc (.cells #[.slice none 0 0] 25)).alloc (.cells #[.slice none 0 0] 25) = W at S0 C0 ⊢
  have zW : W.heap.size = w.heap.size + 1 + 1 := by rw [← hW]; simp
  clear hW
  refine (l20Open_any W a len cap C0 hl).mono ?_
  rintro e w1 ⟨ra, rl, rc, rfl, hb1, h1⟩
  have S1 := S0.on hb1
  have z1 := h1.inside
  obtain ⟨g, eg⟩ : ∃ g, g = W.heap.size := ⟨_, rfl⟩
  rw [← eg] at h1 z1 ⊢
  have hg2 : w.heap.size + 2 ≤ g := by omega
  have hgS : ∀ x ∈ [(w.heap.size + 1, (25 : TypeId), (#[.slice none 0 0] : Array Value)), (w.heap.size, (25 : TypeId), (#[.slice none 0 0] : Array Value))], x.1 ≠ g := by
    intro x hx
    simp only [List.mem_cons, List.not_mem_nil, or_false] at hx
    rcases hx with rfl | rfl <;> simp only <;> omega
  have HGS := hide hgS
  clear S0 C0 hb1 hc eg zW hgS
  go_wp2_with fail
  refine (l20Past_any w1 g ra rl rc 0 h1 (by omega)).mono ?_
  rintro e w2 ⟨a1, c1, ts, rfl, hts, hp1, hg1, h2⟩
  have S2 := (S1.part hg1 (fun k e => by injection e; omega) (fun x hx k e => by injection e with e; rw [← e]; exact HGS.out x hx)).top.box 25 #[.slice a1 ts.length c1]
  have P1 := (hp1.low (show w.heap.size + 2 ≤ w1.heap.size by omega)).on (below_alloc1 w2 (.cells #[.slice a1 ts.length c1] 25))
  have R2 := h2.alloc (.cells #[.slice a1 ts.length c1] 25)
  have z2 := h2.inside
  have zg1 := hg1.size
  clear S1 h1 hp1 hg1 h2
  go_wp2_with fail
  generalize hW2 : w2.alloc (.cells #[.slice a1 ts.length c1] 25) = W2 at S2 P1 R2 ⊢
  have zW2 : w2.heap.size < W2.heap.size := by rw [← hW2]; simp
  clear hW2
  have B5 := S2.nth 0 rfl
  have q5 := B5.one
  have h5 : w2.heap.size ≠ g := by omega
  generalize w2.heap.size = p5 at *
  have HSP := hide (fun (w3 : World) (hg3 : W2.drew.grownBy w3 (some g)) => S2.drew.part hg3 (fun k e => by injection e; omega) (fun x hx k e => by
    injection e with e
    simp only [List.mem_cons] at hx
    rcases hx with rfl | hx
    · simp only; omega
    · rw [← e]; exact HGS.out x (by simpa using hx)))
  refine wp_region_noPanic ?_
  refine wp_region_held_drew (S := (fun w' => w'.cell? ⟨p5, 0, none⟩ = some (.slice a1 ts.length c1) ∧ Blk w' p5 25 #[.slice a1 ts.length c1])) (by kernel_rfl) (by exact ⟨B5.drew.at 0, B5.drew⟩) (fun hHeld => ?_)
  refine take_run 0 (some 10) (v := ?_) rfl rfl (by kernel_rfl) (by kernel_rfl) (by kernel_rfl) (fun _ _ _ h => h) (by rfl) ?_ hHeld ?_
  rotate_left
  · ((intro w hSw); (try dsimp only at hSw); go_simp <;> with_reducible rfl)
  simp only [Act.put, List.setIfInBounds_toArray, List.set_cons_zero, List.set_cons_succ]
  refine take_run 1 (some 11) (v := ?_) rfl rfl (by kernel_rfl) (by kernel_rfl) (by kernel_rfl) (fun _ _ _ h => h) (by rfl) ?_ hHeld ?_
  rotate_left
  · ((intro w hSw); (try dsimp only at hSw); go_simp <;> with_reducible rfl)
  simp only [Act.put, List.setIfInBounds_toArray, List.set_cons_zero, List.set_cons_succ]
  refine take_one 2 (by kernel_rfl) rfl (fun K hK => ?_)
  go_simp
  (refine (l20Past_any _ g ra rl rc _ (R2.on (Below.refl _ _).drew) (by omega)).mono ?_; rintro e w3 ⟨a2, c2, us, rfl, hus, hp2, hg3, h3⟩; have S3 := HSP.out w3 hg3; have P1' := (P1.on (Below.refl _ _).drew).kept hg3; have zg3 := hg3.size; have q2 := (S3.nth 2 rfl).one; have q3 := ((S3.nth 1 rfl).aside (p := ⟨w.heap.size, 0, none⟩) (by simp only; omega) (.slice a1 ts.length c1)).one)
  try go_wp2_with fail
  refine hK.out _ _ (by exact ⟨(S3.nth 0 rfl).at 0, S3.nth 0 rfl⟩) (fun hHeld => ?_)
  clear hK K
  refine take_one 3 (by kernel_rfl) rfl (fun K hK => ?_)
  go_simp
  refine hK.out _ _ (by exact ⟨(hHeld.2.aside (p := ⟨w.heap.size, 0, none⟩) (by simp only; omega) (.slice a1 ts.length c1)).at 0, hHeld.2.aside (p := ⟨w.heap.size, 0, none⟩) (by simp only; omega) (.slice a1 ts.length c1)⟩) (fun hHeld => ?_)
  clear hK K
  refine take_one 4 (by kernel_rfl) rfl (fun K hK => ?_)
  go_simp
  refine hK.out _ _ (by exact ⟨(hHeld.2.aside (p := ⟨w.heap.size + 1, 0, none⟩) (by simp only; omega) (.slice a2 us.length c2)).at 0, hHeld.2.aside (p := ⟨w.heap.size + 1, 0, none⟩) (by simp only; omega) (.slice a2 us.length c2)⟩) (fun hHeld => ?_)
  clear hK K
  refine wpAnyH_done (by kernel_rfl) ?_ _
  refine NoPanic.normal ?_
  clear hHeld q5
  have F2 := ((S3.nth 2 rfl).put 0 (.slice a1 ts.length c1)).aside (p := ⟨w.heap.size + 1, 0, none⟩) (by simp) (.slice a2 us.length c2)
  have F3 := ((S3.nth 1 rfl).aside (p := ⟨w.heap.size, 0, none⟩) (by simp) (.slice a1 ts.length c1)).put 0 (.slice a2 us.length c2)
  simp only [List.setIfInBounds_toArray, List.set_cons_zero] at F2 F3
  have q6 := F2.one.1
  have q7 := F3.one.1
  have hL := S3.below
  have HP1 := hide P1'
  have HP2 := hide (hp2.low (show w.heap.size + 2 ≤ W2.heap.size by omega))
  clear S2 S3 P1 P1' R2 B5 hp2 hg3 h3 F2 F3 q2 q3
  go_wp2
  refine bodyPost_ret (v := .tuple #[.agg #[.slice a1 ts.length c1], .agg #[.slice a2 us.length c2]]) (by simp [results, Try.results9, go_sem, q6, q7]) rfl ?_
  exact ⟨a1, a2, c1, c2, ts, us, rfl, by omega, by omega, ((HP1.out.aside (p := ⟨w.heap.size, 0, none⟩) (by simp only; omega) _).aside (p := ⟨w.heap.size + 1, 0, none⟩) (by simp only; omega) _).tg, ((HP2.out.aside (p := ⟨w.heap.size, 0, none⟩) (by simp only; omega) _).aside (p := ⟨w.heap.size + 1, 0, none⟩) (by simp only; omega) _).tg, (hL.setCell (p := ⟨w.heap.size, 0, none⟩) (Nat.le_refl _) _).setCell (p := ⟨w.heap.size + 1, 0, none⟩) (by simp) _⟩
end Go.Proofs.Ytkkjhfgjjakmfaa
