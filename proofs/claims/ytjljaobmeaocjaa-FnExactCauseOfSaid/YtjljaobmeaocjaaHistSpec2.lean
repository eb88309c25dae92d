/- Contract of the model's function that adds a tag to a vector; rows of vectors, as the model's walk through a history keeps them. -/
import Derived.Test.YtjljaobmeaocjaaHistSpec1
namespace Go.Proofs.Ytjljaobmeaocjaa
open Go.RowKit Go.Joins
attribute [local go_sem ↓] Go.wp_at_zero Go.wp_at_succ

theorem flat_tags {cur : Array Value} {p : T4} {m : Nat} (h : cur.toList.take m = flatT p) : ∀ i x, p[i]? = some x → TagAt cur i x := by
  intro i x hx
  obtain ⟨h0, h1⟩ := flatT_at p i x hx
  rw [← h] at h0 h1
  refine ⟨?_, ?_⟩
  · have := (List.getElem?_eq_some_iff.1 h0)
    obtain ⟨hl, _⟩ := this
    rw [List.length_take] at hl
    rw [List.getElem?_take_of_lt (by omega)] at h0
    simpa using h0
  · have := (List.getElem?_eq_some_iff.1 h1)
    obtain ⟨hl, _⟩ := this
    rw [List.length_take] at hl
    rw [List.getElem?_take_of_lt (by omega)] at h1
    simpa using h1
theorem with_tags {cur : Array Value} {p : T4} {yn : Nat} {x : Int × Int} {t u : Int} (h4 : p.length = 4) (hy : yn < 4) (h8 : 8 ≤ cur.size) (hx : p[yn]? = some x) (hc : ∀ i y, p[i]? = some y → TagAt cur i y) :
    ∀ i y, (withT p (yn : Int) t u)[i]? = some y → TagAt ((cur.setIfInBounds (yn * 2) (.int .i64 (mxT x.1 x.2 t u))).setIfInBounds (yn * 2 + 1) (.int .i64 (mxP x.1 x.2 t u))) i y := by
  intro i y hiy
  have e : withT p (yn : Int) t u = p.set yn (mxp x (t, u)) := by
    unfold withT tagAt
    rw [Int.toNat_natCast, List.getD_eq_getElem?_getD, hx]
    rfl
  rw [e] at hiy
  by_cases hi : i = yn
  · subst hi
    rw [List.getElem?_set_self (by omega)] at hiy
    injection hiy with hiy
    subst hiy
    exact tagAt_put (x := mxp x (t, u)) (by omega)
  · rw [List.getElem?_set_ne (fun e => hi e.symm)] at hiy
    exact tagAt_other hi (hc i y hiy)
theorem withT_len (p : T4) (y t u : Int) : (withT p y t u).length = p.length := by unfold withT; simp

set_option maxRecDepth 100000 in
set_option maxHeartbeats 4000000 in
theorem l1With_any (a : Option Addr) (c yn : Nat) (p : T4) (t u : Int) (w : World) (h4 : p.length = 4) (hy : yn < 4) (ht : Tg w w.heap.size a p) :
    Calls Try.prog 96 #[.agg #[.slice a 4 c], .int .i64 (yn : Int), .agg #[.int .i64 t, .int .i64 u]] w (NewT w (withT p (yn : Int) t u)) := by
  rcases ht with h0 | ⟨b, off, rfl, hb, hx⟩
  · subst h0; simp at h4
  obtain ⟨i0, hi0, hz0, hz1, hz2⟩ := info_parts tag_info
  have I0 := hide hi0
  have I1 := hide hz0
  have I2 := hide hz1
  have I3 := hide hz2
  clear hi0 hz0 hz1 hz2
  have S0 := (((Inv.start w).box 35 #[.slice (some ⟨b, off, none⟩) 4 c]).box 43 #[.int .i64 t, .int .i64 u]).box 35 #[.slice none 0 0]
  have BE := Blk.made (((w.alloc (.cells #[.slice (some ⟨b, off, none⟩) 4 c] 35)).alloc (.cells #[.int .i64 t, .int .i64 u] 43)).alloc (.cells #[.slice none 0 0] 35)) 43 #[]
  simp only [World.size_alloc] at BE
  have O0 : ((((w.alloc (.cells #[.slice (some ⟨b, off, none⟩) 4 c] 35)).alloc (.cells #[.int .i64 t, .int .i64 u] 43)).alloc (.cells #[.slice none 0 0] 35)).alloc (.cells #[] 43)).ownsRow (w.heap.size + 1 + 1 + 1) 43 2 (.slice (some ⟨w.heap.size + 1 + 1 + 1, 0, none⟩) 0 0) 0 [] :=
    ⟨rfl, .inr ⟨w.heap.size + 1 + 1 + 1, 0, #[], rfl, Nat.le_refl _, BE, Nat.le_refl _, Nat.zero_le _, rfl, rfl⟩⟩
  have S1 := S0.alloc (.cells #[] 43)
  simp only [World.size_alloc] at S1
  have hnews : ∀ (j : Nat) u', (flatT p)[j]? = some u' → ((((w.alloc (.cells #[.slice (some ⟨b, off, none⟩) 4 c] 35)).alloc (.cells #[.int .i64 t, .int .i64 u] 43)).alloc (.cells #[.slice none 0 0] 35)).alloc (.cells #[] 43)).cell? ((⟨b, off, none⟩ : Addr).add j) = some u' := by
    intro j u' hj
    have hadd : (⟨b, off, none⟩ : Addr).add j = ⟨b, off + j, none⟩ := by unfold Addr.add; split <;> simp_all
    rw [hadd]
    refine (S1.below.cell (p := ⟨b, off + j, none⟩) hb).trans ?_
    obtain ⟨x0, x1, x2, x3, rfl⟩ : ∃ x0 x1 x2 x3 : Int × Int, p = [x0, x1, x2, x3] := by
      match p, h4 with
      | [x0, x1, x2, x3], _ => exact ⟨x0, x1, x2, x3, rfl⟩
    have g0 := hx 0 x0 rfl
    have g1 := hx 1 x1 rfl
    have g2 := hx 2 x2 rfl
    have g3 := hx 3 x3 rfl
    match j, hj with
    | 0, hj => simp [flatT] at hj; subst hj; simpa using g0.1
    | 1, hj => simp [flatT] at hj; subst hj; simpa using g0.2
    | 2, hj => simp [flatT] at hj; subst hj; simpa using g1.1
    | 3, hj => simp [flatT] at hj; subst hj; simpa using g1.2
    | 4, hj => simp [flatT] at hj; subst hj; simpa using g2.1
    | 5, hj => simp [flatT] at hj; subst hj; simpa using g2.2
    | 6, hj => simp [flatT] at hj; subst hj; simpa using g3.1
    | 7, hj => simp [flatT] at hj; subst hj; simpa using g3.2
    | n + 8, hj => simp [flatT] at hj
  have hfl : (flatT p).length = 4 * 2 := by
    match p, h4 with
    | [x0, x1, x2, x3], _ => rfl
  have HO0 := hide O0
  have HNEWS := hide hnews
  have HFL := hide hfl
  obtain ⟨x, hpx⟩ : ∃ x, p[yn]? = some x := ⟨_, List.getElem?_eq_getElem (by omega)⟩
  have HPX := hide hpx
  have H4 := hide h4
  clear S0 O0 hnews hfl hpx h4 hx BE
  go_enter Try.func96, Try.ntmps96
  go_wp2_with (at_builtin; refine wpList_append_lies _ rfl (.tmp 8) (.tmp 10) 33 rfl (w.heap.size + 1 + 1 + 1) 43 i0 _ 2 16 Try.underlying33 I0.out I1.out I2.out I3.out rfl (by omega) (.slice (some ⟨w.heap.size + 1 + 1 + 1, 0, none⟩) 0 0) 0 [] rfl HO0.out ⟨b, off, none⟩ 4 c (flatT p) rfl HFL.out HNEWS.out (flatT_one p) (by omega) (by unfold maxLen; omega) (by omega) (by simp) _ rfl ?_; intro g cap w2 hown hgrow hat hlt2; have S2 := S1.part hgrow (fun g' e => by simp [Value.ownBlock] at e; omega) (fun x hx g' e => by { simp [Value.ownBlock] at e; have := (S1.blk x hx).2.1; omega }); have OW := hide hown; have S3 := S2.top.box 35 #[.slice (some ⟨g, 0, none⟩) 4 cap]; have zr := S2.room; clear hown hgrow hat S1 S2)
  obtain ⟨cur, hblk, hcsz, htk⟩ : ∃ cur, Blk w2 g 43 cur ∧ 8 ≤ cur.size ∧ cur.toList.take (4 * 2) = flatT p := by
    rcases OW.out.2 with ⟨h, _⟩ | ⟨g', cap', cur, h, hg', hb', hn', _, hs', ht'⟩
    · cases h
    · injection h with h1 h2 h3
      injection h1 with h1
      injection h1 with h1
      subst h1
      exact ⟨cur, hb', by omega, by simpa using ht'⟩
  have hg0 : w.heap.size + 1 + 1 + 1 ≤ g := by
    rcases OW.out.2 with ⟨h, _⟩ | ⟨g', cap', cur, h, hg', _⟩
    · cases h
    · injection h with h1 h2 h3
      injection h1 with h1
      injection h1 with h1
      omega
  have HT := hide (flat_tags htk)
  obtain ⟨c0, c1⟩ := HT.out yn x HPX.out
  have V1 := (hblk.more (.cells #[.slice (some ⟨g, 0, none⟩) 4 cap] 35)).drew
  have d0 := (V1.at (yn * 2)).trans c0
  have d1 := (V1.at (yn * 2 + 1)).trans c1
  have hin := hblk.inside
  have i1 : (0 : Int) ≤ (yn : Int) := by omega
  have i2 : (yn : Int) < 4 := by omega
  clear htk c0 c1 OW
  have S4 : Inv w (w.heap.size + 1 + 1 + 1) [(w.heap.size + 1 + 1, 35, #[.slice none 0 0]), (w.heap.size + 1, 43, #[.int .i64 t, .int .i64 u]), (w.heap.size, 35, #[.slice (some ⟨b, off, none⟩) 4 c])] (w2.alloc (.cells #[.slice (some ⟨g, 0, none⟩) 4 cap] 35)) := ⟨S3.below, by have := S3.room; simp at this ⊢; omega, fun x hx => by
    simp only [List.mem_cons, List.not_mem_nil, or_false] at hx
    rcases hx with rfl | rfl | rfl
    · exact ⟨by simp only; omega, by simp, S3.nth 1 rfl⟩
    · exact ⟨by simp only; omega, by simp only; omega, S3.nth 2 rfl⟩
    · exact ⟨Nat.le_refl _, by simp only; omega, S3.nth 3 rfl⟩⟩
  generalize w2.alloc (.cells #[.slice (some ⟨g, 0, none⟩) 4 cap] 35) = W at S3 S4 V1 d0 d1 ⊢
  refine wp_region_noPanic ?_
  refine wp_region_held_drew (S := (fun w' => (w'.cell? ⟨w2.heap.size, 0, none⟩ = some (.slice (some ⟨g, 0, none⟩) 4 cap) ∧ w'.cell? ⟨w.heap.size + 1, 0, none⟩ = some (.int .i64 t) ∧ w'.cell? ⟨w.heap.size + 1, 1, none⟩ = some (.int .i64 u)) ∧ Inv w (w.heap.size + 1 + 1 + 1) [(w.heap.size + 1 + 1, 35, #[.slice none 0 0]), (w.heap.size + 1, 43, #[.int .i64 t, .int .i64 u]), (w.heap.size, 35, #[.slice (some ⟨b, off, none⟩) 4 c])] w' ∧ Blk w' w2.heap.size 35 #[.slice (some ⟨g, 0, none⟩) 4 cap])) (by kernel_rfl) (by exact ⟨⟨(S3.nth 0 rfl).at 0, (S3.nth 2 rfl).at 0, (S3.nth 2 rfl).at 1⟩, S4.drew, (S3.nth 0 rfl).drew⟩) (fun hHeld => ?_)
  refine take_run 0 (some 13) (v := ?_) rfl rfl (by kernel_rfl) (by kernel_rfl) (by kernel_rfl) (fun _ _ _ h => h) (by rfl) ?_ hHeld ?_
  rotate_left
  · ((intro w hSw); (try dsimp only at hSw); go_simp <;> with_reducible rfl)
  simp only [Act.put, List.setIfInBounds_toArray, List.set_cons_zero, List.set_cons_succ]
  refine take_run 1 (some 14) (v := ?_) rfl rfl (by kernel_rfl) (by kernel_rfl) (by kernel_rfl) (fun _ _ _ h => h) (by rfl) ?_ hHeld ?_
  rotate_left
  · ((intro w hSw); (try dsimp only at hSw); go_simp <;> with_reducible rfl)
  simp only [Act.put, List.setIfInBounds_toArray, List.set_cons_zero, List.set_cons_succ]
  refine take_run 2 (some 15) (v := ?_) rfl rfl (by kernel_rfl) (by kernel_rfl) (by kernel_rfl) (fun _ _ _ h => h) (by rfl) ?_ hHeld ?_
  rotate_left
  · ((intro w hSw); (try dsimp only at hSw); go_simp <;> with_reducible rfl)
  simp only [Act.put, List.setIfInBounds_toArray, List.set_cons_zero, List.set_cons_succ]
  refine take_run 3 (some 16) (v := ?_) rfl rfl (by kernel_rfl) (by kernel_rfl) (by kernel_rfl) (fun _ _ _ h => h) (by rfl) ?_ hHeld ?_
  rotate_left
  · ((intro w hSw); (try dsimp only at hSw); go_simp <;> with_reducible rfl)
  simp only [Act.put, List.setIfInBounds_toArray, List.set_cons_zero, List.set_cons_succ]
  refine take_run 4 (some 17) (v := ?_) rfl rfl (by kernel_rfl) (by kernel_rfl) (by kernel_rfl) (fun _ _ _ h => h) (by rfl) ?_ hHeld ?_
  rotate_left
  · ((intro w hSw); (try dsimp only at hSw); go_simp <;> with_reducible rfl)
  simp only [Act.put, List.setIfInBounds_toArray, List.set_cons_zero, List.set_cons_succ]
  refine take_run 5 (some 18) (v := ?_) rfl rfl (by kernel_rfl) (by kernel_rfl) (by kernel_rfl) (fun _ _ _ h => h) (by rfl) ?_ hHeld ?_
  rotate_left
  · ((intro w hSw); (try dsimp only at hSw); go_simp <;> with_reducible rfl)
  simp only [Act.put, List.setIfInBounds_toArray, List.set_cons_zero, List.set_cons_succ]
  refine take_run 6 (some 19) (v := ?_) rfl rfl (by kernel_rfl) (by kernel_rfl) (by kernel_rfl) (fun _ _ _ h => h) (by rfl) ?_ hHeld ?_
  rotate_left
  · ((intro w hSw); (try dsimp only at hSw); go_simp <;> with_reducible rfl)
  simp only [Act.put, List.setIfInBounds_toArray, List.set_cons_zero, List.set_cons_succ]
  refine take_run 8 (some 21) (v := ?_) rfl rfl (by kernel_rfl) (by kernel_rfl) (by kernel_rfl) (fun _ _ _ h => h) (by rfl) ?_ hHeld ?_
  rotate_left
  · ((intro w hSw); (try dsimp only at hSw); go_simp <;> with_reducible rfl)
  simp only [Act.put, List.setIfInBounds_toArray, List.set_cons_zero, List.set_cons_succ]
  refine take_one 7 (by kernel_rfl) rfl (fun K hK => ?_)
  go_simp
  refine hK.out _ _ (by exact hHeld) (fun hHeld => ?_)
  clear hK K
  refine take_one 9 (by kernel_rfl) rfl (fun K hK => ?_)
  go_simp
  (refine (l1Max_any _ _ _ _ _).mono ?_; rintro e w3 ⟨rfl, hb3⟩; have V3 := V1.on hb3; have hs0 : yn * 2 < cur.size := (by omega); have hs1 : yn * 2 + 1 < cur.size := (by omega); have e0 : w3.cell? ⟨g, yn * 2, none⟩ = some cur[yn * 2] := (V3.at _).trans (Array.getElem?_eq_getElem hs0); have e1 : w3.cell? ⟨g, yn * 2 + 1, none⟩ = some cur[yn * 2 + 1] := (V3.at _).trans (Array.getElem?_eq_getElem hs1); have f0 := V3.loose (yn * 2); have f1 := V3.loose (yn * 2 + 1))
  try go_wp2_with fail
  refine hK.out _ _ (by exact ⟨⟨(hHeld.2.2.on hb3).at 0, ((hHeld.2.1.on hb3).nth 1 rfl).at 0, ((hHeld.2.1.on hb3).nth 1 rfl).at 1⟩, hHeld.2.1.on hb3, hHeld.2.2.on hb3⟩) (fun hHeld => ?_)
  clear hK K
  refine take_run 10 (some 23) (v := ?_) rfl rfl (by kernel_rfl) (by kernel_rfl) (by kernel_rfl) (fun _ _ _ h => h) (by rfl) ?_ hHeld ?_
  rotate_left
  · ((intro w hSw); (try dsimp only at hSw); go_simp <;> with_reducible rfl)
  simp only [Act.put, List.setIfInBounds_toArray, List.set_cons_zero, List.set_cons_succ]
  refine take_one 11 (by kernel_rfl) rfl (fun K hK => ?_)
  go_simp
  refine hK.out _ _ (by exact ⟨⟨((hHeld.2.2.aside (p := ⟨g, yn * 2, none⟩) (by simp; omega) _).aside (p := ⟨g, yn * 2 + 1, none⟩) (by simp; omega) _).at 0, (((hHeld.2.1.set (p := ⟨g, yn * 2, none⟩) (by simp; omega) (by simp; omega) _).set (p := ⟨g, yn * 2 + 1, none⟩) (by simp; omega) (by simp; omega) _).nth 1 rfl).at 0, (((hHeld.2.1.set (p := ⟨g, yn * 2, none⟩) (by simp; omega) (by simp; omega) _).set (p := ⟨g, yn * 2 + 1, none⟩) (by simp; omega) (by simp; omega) _).nth 1 rfl).at 1⟩, (hHeld.2.1.set (p := ⟨g, yn * 2, none⟩) (by simp; omega) (by simp; omega) _).set (p := ⟨g, yn * 2 + 1, none⟩) (by simp; omega) (by simp; omega) _, (hHeld.2.2.aside (p := ⟨g, yn * 2, none⟩) (by simp; omega) _).aside (p := ⟨g, yn * 2 + 1, none⟩) (by simp; omega) _⟩) (fun hHeld => ?_)
  clear hK K
  refine wpAnyH_done (by kernel_rfl) ?_ _
  refine NoPanic.normal ?_
  have I9 := hHeld.2.1
  have q9 := hHeld.2.2.one
  have V9 := (V3.put (yn * 2) (.int .i64 (mxT x.1 x.2 t u))).put (yn * 2 + 1) (.int .i64 (mxP x.1 x.2 t u))
  have HW9 := hide (with_tags (t := t) (u := u) H4.out hy hcsz HPX.out HT.out)
  clear hHeld d0 d1 e0 e1 f0 f1 V1 V3 S3
  generalize (w3.setCell ⟨g, yn * 2, none⟩ (.int .i64 (mxT x.1 x.2 t u))).setCell ⟨g, yn * 2 + 1, none⟩ (.int .i64 (mxP x.1 x.2 t u)) = W9 at I9 q9 V9 ⊢
  have r9 := (I9.nth 0 rfl).one
  have B9 := I9.nth 0 rfl
  go_wp2
  refine bodyPost_ret (v := .agg #[.slice (some ⟨g, 0, none⟩) 4 cap]) (by simp [results, Try.results96, go_sem, r9]) rfl ?_
  exact ⟨g, cap, rfl, by omega, ⟨_, V9.aside (by simp; omega) _, by simp; omega, by rw [withT_len]; exact H4.out, HW9.out⟩, I9.below.setCell (by simp; omega) _⟩
end Go.Proofs.Ytjljaobmeaocjaa
