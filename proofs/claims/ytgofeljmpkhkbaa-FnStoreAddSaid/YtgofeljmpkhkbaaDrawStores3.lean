/- Contracts of the draws for the promises on stores, whatever the code. Condition: at most 1048576 bytes. -/
import Derived.Test.YtgofeljmpkhkbaaDrawStores2
namespace Go.Proofs.Ytgofeljmpkhkbaa
open Go.RowKit Go.Joins
attribute [local go_sem ↓] Go.wp_at_zero Go.wp_at_succ

/-- What is drawn: a store and a version. -/
def StoreVer (w : World) (e : Ending) (w' : World) : Prop :=
  ∃ (a : Option Addr) (c : Nat) (vs : List V) (v : V), e = .returned (.tuple #[.agg #[.slice a vs.length c], .agg (verC v.k v.t v.u v.a v.ts.length v.c v.s v.g)]) ∧ vs.length ≤ 4 ∧ FewV vs ∧ v.ts.length ≤ 4 ∧ v.s.size ≤ 16 ∧ Vg w' w'.heap.size a vs ∧ Tg w' w'.heap.size v.a v.ts ∧ Below w.heap.size w w'
/-- What is drawn: two stores. -/
def TwoStores (w : World) (e : Ending) (w' : World) : Prop :=
  ∃ (a a2 : Option Addr) (c c2 : Nat) (vs us : List V), e = .returned (.tuple #[.agg #[.slice a vs.length c], .agg #[.slice a2 us.length c2]]) ∧ vs.length ≤ 4 ∧ FewV vs ∧ us.length ≤ 4 ∧ FewV us ∧ Vg w' w'.heap.size a vs ∧ Vg w' w'.heap.size a2 us ∧ Below w.heap.size w w'
theorem VgIn.aside6 {w : World} {lo g b : Nat} {a : Option Addr} {vs : List V} (h : VgIn w lo g a vs) (hp : b < lo) (x0 x1 x2 x3 x4 x5 : Value) : VgIn ((((((w.setCell ⟨b, 0, none⟩ x0).setCell ⟨b, 1, none⟩ x1).setCell ⟨b, 2, none⟩ x2).setCell ⟨b, 3, none⟩ x3).setCell ⟨b, 4, none⟩ x4).setCell ⟨b, 5, none⟩ x5) lo g a vs :=
  (((((h.aside (p := ⟨b, 0, none⟩) hp _).aside (p := ⟨b, 1, none⟩) hp _).aside (p := ⟨b, 2, none⟩) hp _).aside (p := ⟨b, 3, none⟩) hp _).aside (p := ⟨b, 4, none⟩) hp _).aside (p := ⟨b, 5, none⟩) hp _
theorem PastIn.aside6 {w : World} {lo g b : Nat} {a : Option Addr} {ts : List (Int × Int)} (h : PastIn w lo g a ts) (hp : b < lo) (x0 x1 x2 x3 x4 x5 : Value) : PastIn ((((((w.setCell ⟨b, 0, none⟩ x0).setCell ⟨b, 1, none⟩ x1).setCell ⟨b, 2, none⟩ x2).setCell ⟨b, 3, none⟩ x3).setCell ⟨b, 4, none⟩ x4).setCell ⟨b, 5, none⟩ x5) lo g a ts :=
  (((((h.aside1 (p := ⟨b, 0, none⟩) hp _).aside1 (p := ⟨b, 1, none⟩) hp _).aside1 (p := ⟨b, 2, none⟩) hp _).aside1 (p := ⟨b, 3, none⟩) hp _).aside1 (p := ⟨b, 4, none⟩) hp _).aside1 (p := ⟨b, 5, none⟩) hp _

theorem blk_aside6' {w : World} {g b : Nat} {T : TypeId} {cs : Array Value} (h : Blk w g T cs) (hg : g ≠ b) (x0 x1 x2 x3 x4 x5 : Value) :
    Blk ((((((w.setCell ⟨b, 0, none⟩ x0).setCell ⟨b, 1, none⟩ x1).setCell ⟨b, 2, none⟩ x2).setCell ⟨b, 3, none⟩ x3).setCell ⟨b, 4, none⟩ x4).setCell ⟨b, 5, none⟩ x5) g T cs :=
  (((((h.aside (p := ⟨b, 0, none⟩) hg _).aside (p := ⟨b, 1, none⟩) hg _).aside (p := ⟨b, 2, none⟩) hg _).aside (p := ⟨b, 3, none⟩) hg _).aside (p := ⟨b, 4, none⟩) hg _).aside (p := ⟨b, 5, none⟩) hg _
theorem blk_put6 {w : World} {b : Nat} {T : TypeId} {y0 y1 y2 y3 y4 y5 : Value} (h : Blk w b T #[y0, y1, y2, y3, y4, y5]) (x0 x1 x2 x3 x4 x5 : Value) :
    Blk ((((((w.setCell ⟨b, 0, none⟩ x0).setCell ⟨b, 1, none⟩ x1).setCell ⟨b, 2, none⟩ x2).setCell ⟨b, 3, none⟩ x3).setCell ⟨b, 4, none⟩ x4).setCell ⟨b, 5, none⟩ x5) b T #[x0, x1, x2, x3, x4, x5] :=
  (((((h.put 0 x0).put 1 x1).put 2 x2).put 3 x3).put 4 x4).put 5 x5

set_option maxRecDepth 100000 in
set_option maxHeartbeats 2000000 in
theorem drawStoreAdd_any (w : World) (a : Option Addr) (len cap : Nat) (hc : Code0 w a len cap) (hl : len ≤ 1048576) :
    Calls Try.prog 6 #[.slice a len cap] w (StoreVer w) := by
  have S0 := ((Inv.start w).box 25 #[.slice none 0 0]).box 32 (verC 0 0 0 none 0 0 ⟨#[]⟩ false)
  simp only [World.size_alloc] at S0
  have C0 := hc.on S0.below
  go_enter Try.func6, Try.ntmps6
  go_wp2_with fail
  generalize hW : (w.alloc (.cells #[.slice none 0 0] 25)).alloc (.cells (verC 0 0 0 none 0 0 ⟨#[]⟩ false) 32) = W at S0 C0 ⊢
  have zW : W.heap.size = w.heap.size + 1 + 1 := by rw [← hW]; simp
  clear hW
  refine (l20Open_any W a len cap C0 hl).mono ?_
  rintro e w1 ⟨ra, rl, rc, rfl, hb1, h1⟩
  have S1 := S0.on hb1
  have z1 := h1.inside
  obtain ⟨g, eg⟩ : ∃ g, g = W.heap.size := ⟨_, rfl⟩
  rw [← eg] at h1 z1 ⊢
  have hg2 : w.heap.size + 2 ≤ g := by omega
  have hgS : ∀ x ∈ [(w.heap.size + 1, (32 : TypeId), (verC 0 0 0 none 0 0 ⟨#[]⟩ false)), (w.heap.size, (25 : TypeId), (#[.slice none 0 0] : Array Value))], x.1 ≠ g := by
    intro x hx
    simp only [List.mem_cons, List.not_mem_nil, or_false] at hx
    rcases hx with rfl | rfl <;> simp only <;> omega
  have HGS := hide hgS
  clear S0 C0 hb1 hc eg zW hgS
  go_wp2_with fail
  refine (l20AnyStore_any w1 g ra rl rc 0 h1 (by omega)).mono ?_
  rintro e w2 ⟨a1, c1, vs, rfl, h4, hf, hv1, hg1, h2⟩
  have S2 := (S1.part hg1 (fun k e => by injection e; omega) (fun x hx k e => by injection e with e; rw [← e]; exact HGS.out x hx)).top.box 25 #[.slice a1 vs.length c1]
  have P1 := (hv1.low (show w.heap.size + 2 ≤ w1.heap.size by omega)).on (below_alloc1 w2 (.cells #[.slice a1 vs.length c1] 25))
  have R2 := h2.alloc (.cells #[.slice a1 vs.length c1] 25)
  have z2 := h2.inside
  have zg1 := hg1.size
  clear S1 h1 hv1 hg1 h2
  go_wp2_with fail
  generalize hW2 : w2.alloc (.cells #[.slice a1 vs.length c1] 25) = W2 at S2 P1 R2 ⊢
  have zW2 : w2.heap.size < W2.heap.size := by rw [← hW2]; simp
  clear hW2
  obtain ⟨p5, e5⟩ : ∃ p5, p5 = w2.heap.size := ⟨_, rfl⟩
  rw [← e5] at S2 zW2 ⊢
  have h5 : p5 ≠ g := by omega
  have lo5 : w.heap.size + 1 < p5 := by omega
  clear e5
  have S3 := S2.drew
  have R3 := R2.on (Below.refl _ _).drew
  have P3 := P1.on (Below.refl _ _).drew
  have b5 := S3.nth 0 rfl
  clear S2 R2 P1
  refine wp_region_noPanic ?_
  refine wp_region_held_drew (S := (fun w' => w'.cell? ⟨p5, 0, none⟩ = some (.slice a1 vs.length c1) ∧ Blk w' p5 25 #[.slice a1 vs.length c1])) (by kernel_rfl) (by exact ⟨b5.at 0, b5⟩) (fun hHeld => ?_)
  refine take_run 0 (some 10) (v := ?_) rfl rfl (by kernel_rfl) (by kernel_rfl) (by kernel_rfl) (fun _ _ _ h => h) (by rfl) ?_ hHeld ?_
  rotate_left
  · ((intro w hSw); (try dsimp only at hSw); go_simp <;> with_reducible rfl)
  simp only [Act.put, List.setIfInBounds_toArray, List.set_cons_zero, List.set_cons_succ]
  refine take_run 1 (some 11) (v := ?_) rfl rfl (by kernel_rfl) (by kernel_rfl) (by kernel_rfl) (fun _ _ _ h => h) (by rfl) ?_ hHeld ?_
  rotate_left
  · ((intro w hSw); (try dsimp only at hSw); go_simp <;> with_reducible rfl)
  simp only [Act.put, List.setIfInBounds_toArray, List.set_cons_zero, List.set_cons_succ]
  refine take_one 2 (by kernel_rfl) rfl (fun K hK => ?_)
  go_simp
  (refine (l20AnyVer_any _ g ra rl rc _ R3 (by omega)).mono ?_; rintro e w4 ⟨v, rfl, hv4, hv16, hp4, hg4, h4'⟩; have S4 := S3.part hg4 (fun k e => (by injection e; omega)) (fun x hx k e => (by injection e with e; simp only [List.mem_cons] at hx; rcases hx with rfl | hx; (simp only; omega); (rw [← e]; exact HGS.out x (by simpa using hx)))); have P4 := P3.kept hg4; have Q4 := hp4.low (show w.heap.size + 2 ≤ W2.drew.heap.size by (show w.heap.size + 2 ≤ W2.heap.size; omega)); have c5 := S4.nth 0 rfl; have q1 := (S4.nth 1 rfl); have q2 := (S4.nth 2 rfl); have k2 := q2.one; have k3 := (q1.aside (p := ⟨w.heap.size, 0, none⟩) (by simp only; omega) (.slice a1 vs.length c1)).six)
  try go_wp2_with fail
  refine hK.out _ _ (by exact ⟨c5.at 0, c5⟩) (fun hHeld => ?_)
  clear hK K
  refine take_one 3 (by kernel_rfl) rfl (fun K hK => ?_)
  go_simp
  refine hK.out _ _ (by exact ⟨(hHeld.2.aside (p := ⟨w.heap.size, 0, none⟩) (by simp only; omega) _).at 0, hHeld.2.aside (p := ⟨w.heap.size, 0, none⟩) (by simp only; omega) _⟩) (fun hHeld => ?_)
  clear hK K
  refine take_one 4 (by kernel_rfl) rfl (fun K hK => ?_)
  go_simp
  refine hK.out _ _ (by exact ⟨(blk_aside6' hHeld.2 (by omega) _ _ _ _ _ _).at 0, blk_aside6' hHeld.2 (by omega) _ _ _ _ _ _⟩) (fun hHeld => ?_)
  clear hK K
  refine wpAnyH_done (by kernel_rfl) ?_ _
  refine NoPanic.normal ?_
  have r2 := (blk_aside6' (q2.put 0 (.slice a1 vs.length c1)) (by omega : w.heap.size ≠ w.heap.size + 1) (.int .i64 v.k) (.int .i64 v.t) (.int .i64 v.u) (.slice v.a v.ts.length v.c) (.string v.s) (.bool v.g)).one
  have r3 := (blk_put6 (q1.aside (p := ⟨w.heap.size, 0, none⟩) (by simp only; omega) (.slice a1 vs.length c1)) (.int .i64 v.k) (.int .i64 v.t) (.int .i64 v.u) (.slice v.a v.ts.length v.c) (.string v.s) (.bool v.g)).six
  have HB := hide S4.below
  have HP := hide P4
  have HQ := hide Q4
  clear hHeld S3 S4 P3 R3 P4 Q4 c5 q1 q2 k2 k3 hg4 h4' hp4 b5
  go_wp2
  refine bodyPost_ret (v := .tuple #[.agg #[.slice a1 vs.length c1], .agg (verC v.k v.t v.u v.a v.ts.length v.c v.s v.g)]) (by simp [results, Try.results6, go_sem, r2, r3]) rfl ?_
  refine ⟨a1, c1, vs, v, rfl, h4, hf, hv4, hv16, ?_, ?_, below_set6 (HB.out.setCell (p := ⟨w.heap.size, 0, none⟩) (Nat.le_refl _) _) (by omega) _ _ _ _ _ _⟩
  · exact ((HP.out.aside (p := ⟨w.heap.size, 0, none⟩) (by simp only; omega) _).aside6 (by omega) _ _ _ _ _ _).vg
  · exact ((HQ.out.aside1 (p := ⟨w.heap.size, 0, none⟩) (by simp only; omega) _).aside6 (by omega) _ _ _ _ _ _).tg
set_option maxRecDepth 100000 in
set_option maxHeartbeats 2000000 in
theorem drawStoreJoin_any (w : World) (a : Option Addr) (len cap : Nat) (hc : Code0 w a len cap) (hl : len ≤ 1048576) :
    Calls Try.prog 15 #[.slice a len cap] w (TwoStores w) := by
  have S0 := ((Inv.start w).box 25 #[.slice none 0 0]).box 25 #[.slice none 0 0]
  simp only [World.size_alloc] at S0
  have C0 := hc.on S0.below
  go_enter Try.func15, Try.ntmps15
  go_wp2_with fail
  generalize hW : (w.alloc (.cells #[.slice none 0 0] 25)).alloc (.cells #[.slice none 0 0] 25) = W at S0 C0 ⊢
  have zW : W.heap.size = w.heap.size + 1 + 1 := by rw [← hW]; simp
  clear hW
  refine (l20Open_any W a len cap C0 hl).mono ?_
  rintro e w1 ⟨ra, rl, rc, rfl, hb1, h1⟩
  have S1 := S0.on hb1
  have z1 := h1.inside
  obtain ⟨g, eg⟩ : ∃ g, g = W.heap.size := ⟨_, rfl⟩
  rw [← eg] at h1 z1 ⊢
  have hg2 : w.heap.size + 2 ≤ g := by omega
  have hgS : ∀ x ∈ [(w.heap.size + 1, (25 : TypeId), (#[.slice none 0 0] : Array Value)), (w.heap.size, (25 : TypeId), (#[.slice none 0 0] : Array Value))], x.1 ≠ g := by
    intro x hx
    simp only [List.mem_cons, List.not_mem_nil, or_false] at hx
    rcases hx with rfl | rfl <;> simp only <;> omega
  have HGS := hide hgS
  clear S0 C0 hb1 hc eg zW hgS
  go_wp2_with fail
  refine (l20AnyStore_any w1 g ra rl rc 0 h1 (by omega)).mono ?_
  rintro e w2 ⟨a1, c1, vs, rfl, h4, hf, hv1, hg1, h2⟩
  have S2 := (S1.part hg1 (fun k e => by injection e; omega) (fun x hx k e => by injection e with e; rw [← e]; exact HGS.out x hx)).top.box 25 #[.slice a1 vs.length c1]
  have P1 := (hv1.low (show w.heap.size + 2 ≤ w1.heap.size by omega)).on (below_alloc1 w2 (.cells #[.slice a1 vs.length c1] 25))
  have R2 := h2.alloc (.cells #[.slice a1 vs.length c1] 25)
  have z2 := h2.inside
  have zg1 := hg1.size
  clear S1 h1 hv1 hg1 h2
  go_wp2_with fail
  generalize hW2 : w2.alloc (.cells #[.slice a1 vs.length c1] 25) = W2 at S2 P1 R2 ⊢
  have zW2 : w2.heap.size < W2.heap.size := by rw [← hW2]; simp
  clear hW2
  obtain ⟨p5, e5⟩ : ∃ p5, p5 = w2.heap.size := ⟨_, rfl⟩
  rw [← e5] at S2 zW2 ⊢
  have h5 : p5 ≠ g := by omega
  have lo5 : w.heap.size + 1 < p5 := by omega
  clear e5
  have S3 := S2.drew
  have R3 := R2.on (Below.refl _ _).drew
  have P3 := P1.on (Below.refl _ _).drew
  have b5 := S3.nth 0 rfl
  clear S2 R2 P1
  refine wp_region_noPanic ?_
  refine wp_region_held_drew (S := (fun w' => w'.cell? ⟨p5, 0, none⟩ = some (.slice a1 vs.length c1) ∧ Blk w' p5 25 #[.slice a1 vs.length c1])) (by kernel_rfl) (by exact ⟨b5.at 0, b5⟩) (fun hHeld => ?_)
  refine take_run 0 (some 10) (v := ?_) rfl rfl (by kernel_rfl) (by kernel_rfl) (by kernel_rfl) (fun _ _ _ h => h) (by rfl) ?_ hHeld ?_
  rotate_left
  · ((intro w hSw); (try dsimp only at hSw); go_simp <;> with_reducible rfl)
  simp only [Act.put, List.setIfInBounds_toArray, List.set_cons_zero, List.set_cons_succ]
  refine take_run 1 (some 11) (v := ?_) rfl rfl (by kernel_rfl) (by kernel_rfl) (by kernel_rfl) (fun _ _ _ h => h) (by rfl) ?_ hHeld ?_
  rotate_left
  · ((intro w hSw); (try dsimp only at hSw); go_simp <;> with_reducible rfl)
  simp only [Act.put, List.setIfInBounds_toArray, List.set_cons_zero, List.set_cons_succ]
  refine take_one 2 (by kernel_rfl) rfl (fun K hK => ?_)
  go_simp
  (refine (l20AnyStore_any _ g ra rl rc _ R3 (by omega)).mono ?_; rintro e w4 ⟨a2, c2, us, rfl, hu4, hfu, hv2, hg4, h4'⟩; have S4 := S3.part hg4 (fun k e => (by injection e; omega)) (fun x hx k e => (by injection e with e; simp only [List.mem_cons] at hx; rcases hx with rfl | hx; (simp only; omega); (rw [← e]; exact HGS.out x (by simpa using hx)))); have P4 := P3.kept hg4; have Q4 := hv2.low (show w.heap.size + 2 ≤ W2.drew.heap.size by (show w.heap.size + 2 ≤ W2.heap.size; omega)); have c5 := S4.nth 0 rfl; have q1 := (S4.nth 1 rfl); have q2 := (S4.nth 2 rfl); have k2 := q2.one; have k3 := (q1.aside (p := ⟨w.heap.size, 0, none⟩) (by simp only; omega) (.slice a1 vs.length c1)).one)
  try go_wp2_with fail
  refine hK.out _ _ (by exact ⟨c5.at 0, c5⟩) (fun hHeld => ?_)
  clear hK K
  refine take_one 3 (by kernel_rfl) rfl (fun K hK => ?_)
  go_simp
  refine hK.out _ _ (by exact ⟨(hHeld.2.aside (p := ⟨w.heap.size, 0, none⟩) (by simp only; omega) _).at 0, hHeld.2.aside (p := ⟨w.heap.size, 0, none⟩) (by simp only; omega) _⟩) (fun hHeld => ?_)
  clear hK K
  refine take_one 4 (by kernel_rfl) rfl (fun K hK => ?_)
  go_simp
  refine hK.out _ _ (by exact ⟨(hHeld.2.aside (p := ⟨w.heap.size + 1, 0, none⟩) (by simp only; omega) _).at 0, hHeld.2.aside (p := ⟨w.heap.size + 1, 0, none⟩) (by simp only; omega) _⟩) (fun hHeld => ?_)
  clear hK K
  refine wpAnyH_done (by kernel_rfl) ?_ _
  refine NoPanic.normal ?_
  have r2 := ((q2.put 0 (.slice a1 vs.length c1)).aside (p := ⟨w.heap.size + 1, 0, none⟩) (by simp only; omega) (.slice a2 us.length c2)).one
  have r3 := ((q1.aside (p := ⟨w.heap.size, 0, none⟩) (by simp only; omega) (.slice a1 vs.length c1)).put 0 (.slice a2 us.length c2)).one
  have HB := hide S4.below
  have HP := hide P4
  have HQ := hide Q4
  clear hHeld S3 S4 P3 R3 P4 Q4 c5 q1 q2 k2 k3 hg4 h4' hv2 b5
  go_wp2
  refine bodyPost_ret (v := .tuple #[.agg #[.slice a1 vs.length c1], .agg #[.slice a2 us.length c2]]) (by simp [results, Try.results15, go_sem, r2, r3]) rfl ?_
  refine ⟨a1, a2, c1, c2, vs, us, rfl, h4, hf, hu4, hfu, ?_, ?_, (HB.out.setCell (p := ⟨w.heap.size, 0, none⟩) (Nat.le_refl _) _).setCell (p := ⟨w.heap.size + 1, 0, none⟩) (by simp only; omega) _⟩
  · exact ((HP.out.aside (p := ⟨w.heap.size, 0, none⟩) (by simp only; omega) _).aside (p := ⟨w.heap.size + 1, 0, none⟩) (by simp only; omega) _).vg
  · exact ((HQ.out.aside (p := ⟨w.heap.size, 0, none⟩) (by simp only; omega) _).aside (p := ⟨w.heap.size + 1, 0, none⟩) (by simp only; omega) _).vg
end Go.Proofs.Ytgofeljmpkhkbaa
