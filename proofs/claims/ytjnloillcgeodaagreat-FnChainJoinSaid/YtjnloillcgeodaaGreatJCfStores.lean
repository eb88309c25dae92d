/- Contract of the draw of a chain, valid or not: the walk. Condition: as in Draw. -/
import Derived.Test.YtjnloillcgeodaaGreatJDrawChains2
import Derived.Test.YtjnloillcgeodaaGreatJDrawChPure
import Derived.Test.YtjnloillcgeodaaGreatJDrawVers3
import Derived.Test.YtjnloillcgeodaaGreatJVerOk0
namespace Go.Proofs.YtjnloillcgeodaaGreat
open Go.RowKit Go.Joins
attribute [local go_sem ↓] Go.wp_at_zero Go.wp_at_succ

theorem CgIn.take {w : World} {lo g : Nat} {A : Option Addr} {ns : List Nd} (h : CgIn w lo g A ns) (k : Nat) : CgIn w lo g A (ns.take k) := by
  have hk : ∀ (i : Nat) n, (ns.take k)[i]? = some n → ns[i]? = some n := fun i n hi => by
    rw [List.getElem?_take] at hi
    split at hi
    · exact hi
    · cases hi
  rcases h with h | ⟨G, cur, h1, h2, h3, h4, h5, h6⟩
  · exact .inl (by rw [h]; simp)
  · exact .inr ⟨G, cur, h1, h2, h3, h4, fun i n hi => h5 i n (hk i n hi), fun i n hi => h6 i n (hk i n hi)⟩
theorem FewN.take {ns : List Nd} (h : FewN ns) (k : Nat) : FewN (ns.take k) := ⟨by rw [List.length_take]; have := h.1; omega, fun n hn => h.2 n (List.mem_of_mem_take hn)⟩
set_option maxRecDepth 100000 in
set_option maxHeartbeats 8000000 in
theorem l20AnyChain_any (w : World) (g : Nat) (a : Option Addr) (len cap m : Nat) (h : Rd w g a len cap m) (hm : m + 800 ≤ 1000000) :
    Calls Tryz.prog 30 #[.pointer (some ⟨g, 0, none⟩)] w (DrawnC w g a len cap m 800) := by
  obtain ⟨j0, hj0, hy0, hy1, hy2⟩ := info_parts ver_info
  have J0 := hide hj0
  have J1 := hide hy0
  have J2 := hide hy1
  have J3 := hide hy2
  clear hj0 hy0 hy1 hy2
  have hgw := h.inside
  have HBY := hide h.bytes
  have B0 := Blk.made w 25 #[.slice none 0 0]
  have L0 := below_alloc1 w (.cells #[.slice none 0 0] 25)
  have G0 := grown_none (row := some g) L0
  go_enter Tryz.func30, Tryz.ntmps30
  go_wp2_with fail
  refine (l20Chain_any _ g a len cap m (h.on L0) (by omega)).mono ?_
  rintro e w1 ⟨G, xc, us, rfl, hsh, hgr, hg1, h1⟩
  simp only [World.size_alloc] at hgr
  have LA := below_alloc1 w1 (.cells #[.slice (some ⟨G, 0, none⟩) us.length xc] 25)
  have z1 : w.heap.size + 1 ≤ w1.heap.size := by have := hg1.size; simpa using this
  have hpb : w.heap.size < w1.heap.size := by omega
  have HD : Hid (DC w g a len cap (m + 400) w1.heap.size G xc us (w1.alloc (.cells #[.slice (some ⟨G, 0, none⟩) us.length xc] 25))) :=
    ⟨(B0.kept hg1 (by intro e; injection e; omega)).on LA, Blk.made _ _ _, (hgr.down (by omega)).on LA, hsh, (G0.trans hg1).trans (grown_none LA), h1.on LA⟩
  clear B0 L0 G0 h hg1 h1 hgr LA hsh
  go_wp2_with fail
  generalize w1.alloc (.cells #[.slice (some ⟨G, 0, none⟩) us.length xc] 25) = W1 at HD ⊢
  obtain ⟨pb, epb⟩ : ∃ pb, pb = w1.heap.size := ⟨_, rfl⟩
  rw [← epb] at HD hpb ⊢
  clear epb z1
  have k0 := HD.out.box.one.1
  go_wp2_with fail
  refine (pick_any _ g a len cap _ _ HD.out.rd (by omega) (by have := HD.out.sh.1; omega)).mono ?_
  rintro e w2 ⟨y, hy, rfl, hg2, h2⟩
  have hy0 := hy.1
  have hy1 := hy.2 (by have := HD.out.sh.1; omega)
  obtain ⟨yn, rfl⟩ := Int.eq_ofNat_of_zero_le hy0
  have hyn : yn < us.length := by omega
  have HD2 := hide (HD.out.kept hgw hpb hg2 h2)
  clear HD hg2 h2 hy hy0 hy1 k0
  go_wp2_with fail
  refine (pick_any _ g a len cap _ _ HD2.out.rd (by omega) (by omega)).mono ?_
  rintro e w3 ⟨x, hx, rfl, hg3, h3⟩
  have HD3 := hide (HD2.out.kept hgw hpb hg3 h3)
  clear HD2 hg3 h3 hx
  obtain ⟨n, hn⟩ : ∃ n, us[yn]? = some n := ⟨_, List.getElem?_eq_getElem hyn⟩
  have HN := hide hn
  clear hn
  have hGt : w.heap.size + 1 ≤ G ∧ G < w3.heap.size := by
    obtain ⟨_, _, q1, q2⟩ := HD3.out.row.typed G rfl
    exact ⟨q1, q2⟩
  have hGb : G ≠ pb := fun e => by
    obtain ⟨cs, q1, _⟩ := HD3.out.row.typed G rfl
    subst e
    exact absurd (blk_one q1 HD3.out.box) (by decide)
  have hcap := HD3.out.row.caps.1
  have hus := HD3.out.sh.1.2
  have i1 : (0 : Int) ≤ (yn : Int) := by omega
  have i2 : (yn : Int) < (us.length : Int) := by omega
  have i3 : (yn : Int) ≤ (xc : Int) := by omega
  by_cases hx0 : x = 0
  · subst hx0
    have D4 := HD3.out.drew hgw hpb
    go_wp2_with fail
    refine wp_region_noPanic ?_
    refine wp_region_held_drew (S := (fun w' => w'.cell? ⟨pb, 0, none⟩ = some (.slice (some ⟨G, 0, none⟩) us.length xc) ∧ Blk w' pb 25 #[.slice (some ⟨G, 0, none⟩) us.length xc])) (by kernel_rfl) (by exact ⟨D4.box.at 0, D4.box⟩) (fun hHeld => ?_)
    refine take_run 0 (some 16) (v := ?_) rfl rfl (by kernel_rfl) (by kernel_rfl) (by kernel_rfl) (fun _ _ _ h => h) (by rfl) ?_ hHeld ?_
    rotate_left
    · ((intro w hSw); (try dsimp only at hSw); go_simp <;> with_reducible rfl)
    simp only [Act.put, List.setIfInBounds_toArray, List.set_cons_zero, List.set_cons_succ]
    refine take_run 1 (some 17) (v := ?_) rfl rfl (by kernel_rfl) (by kernel_rfl) (by kernel_rfl) (fun _ _ _ h => h) (by rfl) ?_ hHeld ?_
    rotate_left
    · ((intro w hSw); (try dsimp only at hSw); go_simp <;> with_reducible rfl)
    simp only [Act.put, List.setIfInBounds_toArray, List.set_cons_zero, List.set_cons_succ]
    refine take_run 2 (some 18) (v := ?_) rfl rfl (by kernel_rfl) (by kernel_rfl) (by kernel_rfl) (fun _ _ _ h => h) (by rfl) ?_ hHeld ?_
    rotate_left
    · ((intro w hSw); (try dsimp only at hSw); go_simp <;> with_reducible rfl)
    simp only [Act.put, List.setIfInBounds_toArray, List.set_cons_zero, List.set_cons_succ]
    refine take_run 3 (some 19) (v := ?_) rfl rfl (by kernel_rfl) (by kernel_rfl) (by kernel_rfl) (fun _ _ _ h => h) (by rfl) ?_ hHeld ?_
    rotate_left
    · ((intro w hSw); (try dsimp only at hSw); go_simp <;> with_reducible rfl)
    simp only [Act.put, List.setIfInBounds_toArray, List.set_cons_zero, List.set_cons_succ]
    refine take_one 4 (by kernel_rfl) rfl (fun K hK => ?_)
    go_simp
    (refine (l20AnyStore_any _ g a len cap _ D4.rd (by omega)).mono ?_; rintro e w5 ⟨a1, c1, vs, rfl, hv4, hfv, hvg, hg5, h5⟩; have D5 := D4.kept hgw hpb hg5 h5; obtain ⟨cur5, hcg5⟩ := D5.row.cgs (by omega); have q5 := (hcg5.blk.at (yn * 2)).trans (hcg5.at' yn n HN.out).1; have f5 := hcg5.blk.loose (yn * 2); have HVG := hide hvg; clear hcg5 hvg)
    try go_wp2_with fail
    refine hK.out _ _ (by exact ⟨D5.box.at 0, D5.box⟩) (fun hHeld => ?_)
    clear hK K
    refine take_run 5 (some 21) (v := ?_) rfl rfl (by kernel_rfl) (by kernel_rfl) (by kernel_rfl) (fun _ _ _ h => h) (by rfl) ?_ hHeld ?_
    rotate_left
    · ((intro w hSw); (try dsimp only at hSw); go_simp <;> with_reducible rfl)
    simp only [Act.put, List.setIfInBounds_toArray, List.set_cons_zero, List.set_cons_succ]
    refine take_run 6 (some 22) (v := ?_) rfl rfl (by kernel_rfl) (by kernel_rfl) (by kernel_rfl) (fun _ _ _ h => h) (by rfl) ?_ hHeld ?_
    rotate_left
    · ((intro w hSw); (try dsimp only at hSw); go_simp <;> with_reducible rfl)
    simp only [Act.put, List.setIfInBounds_toArray, List.set_cons_zero, List.set_cons_succ]
    refine take_one 7 (by kernel_rfl) rfl (fun K hK => ?_)
    go_simp
    refine hK.out _ _ (by exact ⟨(D5.box.aside (by simp only; omega) _).at 0, D5.box.aside (by simp only; omega) _⟩) (fun hHeld => ?_)
    clear hK K
    refine wpAnyH_done (by kernel_rfl) ?_ _
    refine NoPanic.normal ?_
    have B9 := D5.box.aside (p := ⟨G, yn * 2, none⟩) (by simp only; omega) (.slice a1 vs.length c1)
    have R9 := D5.res.aside (p := ⟨G, yn * 2, none⟩) (by simp only; omega) (.slice a1 vs.length c1)
    have HC9 := hide (D5.row.anyStore (lo := w.heap.size + 1) (g := g) (B0 := w3.drew.heap.size) (c := c1) HN.out (Nat.le_refl _) (by omega) (by have e : w3.drew.heap.size = w3.heap.size := rfl; omega) (by have e : w3.drew.heap.size = w3.heap.size := rfl; omega) HVG.out)
    have HG9 := hide (grown_set D5.grown (p := ⟨G, yn * 2, none⟩) (by simp only; omega) (.slice a1 vs.length c1))
    have HR9 := hide (D5.rd.set HBY.out hgw D5.grown (p := ⟨G, yn * 2, none⟩) (by simp only; omega) (.slice a1 vs.length c1))
    have HF9 := hide (fewN_set (k := yn) (n := ⟨a1, c1, vs, n.wa, n.wc, n.ws⟩) (fewN_of D5.sh) ⟨⟨hv4, hfv⟩, ((fewN_of D5.sh).2 n (List.mem_of_getElem? HN.out)).2⟩)
    have k9 := B9.one.1
    have r9 := R9.one
    clear hHeld D4 D5 B9 R9 q5 f5 hg5 h5
    go_wp2
    refine bodyPost_ret (v := .agg #[.slice (some ⟨G, 0, none⟩) us.length xc]) (by simp [results, Tryz.results30, go_sem, r9]) rfl ?_
    have F := drawnC_fin (m := m) (d := 800) (c := xc) hgw HBY.out HF9.out HC9.out HG9.out HR9.out (by omega) hm (.slice (some ⟨G, 0, none⟩) us.length xc)
    rw [List.length_set] at F
    exact F
  have hb0 : (x == 0) = false := by simpa using hx0
  by_cases hx1 : x = 1
  · subst hx1
    obtain ⟨cur3, hcg3⟩ := HD3.out.row.cgs (by omega)
    have q3 := (hcg3.blk.at (yn * 2 + 1)).trans (hcg3.at' yn n HN.out).2
    have hW : Hid (∀ y, (Value.slice n.wa n.ws.length n.wc).ownBlock = some y → w.heap.size + 1 ≤ y ∧ y < w3.heap.size) := fun y e => by
      obtain ⟨_, _, q⟩ := (HD3.out.row.own yn n HN.out).typed y e
      exact q
    have D4 := HD3.out.drew hgw hpb
    have hnw := (HD3.out.sh.2 yn n HN.out).2.2.1
    clear hcg3
    go_wp2_with fail
    refine wp_region_noPanic ?_
    refine wp_region_held_drew (S := (fun w' => w'.cell? ⟨pb, 0, none⟩ = some (.slice (some ⟨G, 0, none⟩) us.length xc) ∧ Blk w' pb 25 #[.slice (some ⟨G, 0, none⟩) us.length xc])) (by kernel_rfl) (by exact ⟨D4.box.at 0, D4.box⟩) (fun hHeld => ?_)
    refine take_run 0 (some 25) (v := ?_) rfl rfl (by kernel_rfl) (by kernel_rfl) (by kernel_rfl) (fun _ _ _ h => h) (by rfl) ?_ hHeld ?_
    rotate_left
    · ((intro w hSw); (try dsimp only at hSw); go_simp <;> with_reducible rfl)
    simp only [Act.put, List.setIfInBounds_toArray, List.set_cons_zero, List.set_cons_succ]
    refine take_run 1 (some 26) (v := ?_) rfl rfl (by kernel_rfl) (by kernel_rfl) (by kernel_rfl) (fun _ _ _ h => h) (by rfl) ?_ hHeld ?_
    rotate_left
    · ((intro w hSw); (try dsimp only at hSw); go_simp <;> with_reducible rfl)
    simp only [Act.put, List.setIfInBounds_toArray, List.set_cons_zero, List.set_cons_succ]
    refine take_run 2 (some 27) (v := ?_) rfl rfl (by kernel_rfl) (by kernel_rfl) (by kernel_rfl) (fun _ _ _ h => h) (by rfl) ?_ hHeld ?_
    rotate_left
    · ((intro w hSw); (try dsimp only at hSw); go_simp <;> with_reducible rfl)
    simp only [Act.put, List.setIfInBounds_toArray, List.set_cons_zero, List.set_cons_succ]
    refine take_run 3 (some 28) (v := ?_) rfl rfl (by kernel_rfl) (by kernel_rfl) (by kernel_rfl) (fun _ _ _ h => h) (by rfl) ?_ hHeld ?_
    rotate_left
    · ((intro w hSw); (try dsimp only at hSw); go_simp <;> with_reducible rfl)
    simp only [Act.put, List.setIfInBounds_toArray, List.set_cons_zero, List.set_cons_succ]
    refine take_run 4 (some 29) (v := ?_) rfl rfl (by kernel_rfl) (by kernel_rfl) (by kernel_rfl) (fun _ _ _ h => h) (by rfl) ?_ hHeld ?_
    rotate_left
    · ((intro w hSw); (try dsimp only at hSw); go_simp <;> with_reducible rfl)
    simp only [Act.put, List.setIfInBounds_toArray, List.set_cons_zero, List.set_cons_succ]
    refine take_run 5 (some 30) (v := ?_) rfl rfl (by kernel_rfl) (by kernel_rfl) (by kernel_rfl) (fun _ _ _ h => h) (by rfl) ?_ hHeld ?_
    rotate_left
    · ((intro w hSw); (try dsimp only at hSw); go_simp <;> with_reducible rfl)
    simp only [Act.put, List.setIfInBounds_toArray, List.set_cons_zero, List.set_cons_succ]
    refine take_run 6 (some 31) (v := ?_) rfl rfl (by kernel_rfl) (by kernel_rfl) (by kernel_rfl) (fun _ _ _ h => h) (by rfl) ?_ hHeld ?_
    rotate_left
    · ((intro w hSw); (try dsimp only at hSw); go_simp <;> with_reducible rfl)
    simp only [Act.put, List.setIfInBounds_toArray, List.set_cons_zero, List.set_cons_succ]
    refine take_run 7 (some 32) (v := ?_) rfl rfl (by kernel_rfl) (by kernel_rfl) (by kernel_rfl) (fun _ _ _ h => h) (by rfl) ?_ hHeld ?_
    rotate_left
    · ((intro w hSw); (try dsimp only at hSw); go_simp <;> with_reducible rfl)
    simp only [Act.put, List.setIfInBounds_toArray, List.set_cons_zero, List.set_cons_succ]
    refine take_run 9 (some 34) (v := ?_) rfl rfl (by kernel_rfl) (by kernel_rfl) (by kernel_rfl) (fun _ _ _ h => h) (by rfl) ?_ hHeld ?_
    rotate_left
    · ((intro w hSw); (try dsimp only at hSw); go_simp <;> with_reducible rfl)
    simp only [Act.put, List.setIfInBounds_toArray, List.set_cons_zero, List.set_cons_succ]
    refine wpAnyH_ready (rs := [8, 10]) (by kernel_rfl) (by simp) ?_
    refine AllReadyH.cons rfl (fun K hK => ?_) (AllReadyH.cons rfl (fun K hK => ?_) AllReadyH.nil)
    · skip
      go_simp
      refine hK.out _ _ (by exact hHeld) (fun hHeld => ?_)
      clear hK K
      refine take_one 10 (by kernel_rfl) rfl (fun K hK => ?_)
      go_simp
      (refine (l20AnyVer_any _ g a len cap _ D4.rd (by omega)).mono ?_; rintro e w5 ⟨v, rfl, hv4, hv16, hpast, hg5, h5⟩; have D5 := D4.kept hgw hpb hg5 h5; obtain ⟨cur5, hcg5⟩ := D5.row.cgs (by omega); have q5 := (hcg5.blk.at (yn * 2 + 1)).trans (hcg5.at' yn n HN.out).2; have q6 := ((hcg5.blk.more (.cells (verC v.k v.t v.u v.a v.ts.length v.c v.s v.g) 51)).at (yn * 2 + 1)).trans (hcg5.at' yn n HN.out).2; have HCG5 := hide hcg5; have HPA := hide hpast; have HR := hide (D5.row.own yn n HN.out).row; have z5 := hg5.size; clear hcg5 hpast)
      try go_wp2_with fail
      refine hK.out _ _ (by exact ⟨D5.box.at 0, D5.box⟩) (fun hHeld => ?_)
      clear hK K
      refine take_one 11 (by kernel_rfl) rfl (fun K hK => ?_)
      go_simp
      refine hK.out _ _ (by exact ⟨(D5.box.more _).at 0, D5.box.more _⟩) (fun hHeld => ?_)
      clear hK K
      refine take_one 12 (by kernel_rfl) rfl (fun K hK => ?_)
      (refine step_append_lies _ (by rfl) _ _ _ (by rfl) (w.heap.size + 1) 51 j0 _ 6 72 Tryz.underlying33 J0.out J1.out J2.out J3.out rfl (by omega) (.slice n.wa n.ws.length n.wc) n.ws.length (flat6 n.ws) (by rfl) (HR.out.alloc _) ⟨w5.heap.size, 0, none⟩ 1 1 (cells6 v) (by rfl) (by rfl) (World.news_of_block (cs := verC v.k v.t v.u v.a v.ts.length v.c v.s v.g) (t := 51) (fr := (0, 0)) (heap_alloc_new w5 _)) (by simp [cells6, Value.oneCell']) (by omega) (by unfold maxLen; omega) (by omega) (by have e : w3.drew.heap.size = w3.heap.size := rfl; simp; omega) _ rfl ?_; intro g2 cap2 w6 hown2 hgrow hat hlt2; have hbk := hgrow.block; have q7 := ((HCG5.out.blk.more (.cells (verC v.k v.t v.u v.a v.ts.length v.c v.s v.g) 51)).kept hgrow (by intro e; obtain ⟨cs, b1, _⟩ := (D5.row.own yn n HN.out).typed _ e; exact absurd (blk_one b1 HCG5.out.blk) (by decide))); have B7 := (D5.box.more (.cells (verC v.k v.t v.u v.a v.ts.length v.c v.s v.g) 51)).kept hgrow (by intro e; obtain ⟨cs, b1, _⟩ := (D5.row.own yn n HN.out).typed _ e; exact absurd (blk_one b1 D5.box) (by decide)); have c7 := (q7.at (yn * 2 + 1)).trans (HCG5.out.at' yn n HN.out).2; have f7 := q7.loose (yn * 2 + 1); have OW := hide hown2; have GW := hide hgrow; clear hown2 hat hbk)
      simp only [List.getElem_toArray, List.getElem_cons_zero, List.getElem_cons_succ, Act.put, List.setIfInBounds_toArray, List.set_cons_zero, List.set_cons_succ]
      refine hK.out _ _ (by exact ⟨B7.at 0, B7⟩) (fun hHeld => ?_)
      clear hK K
      refine take_run 13 (some 38) (v := ?_) rfl rfl (by kernel_rfl) (by kernel_rfl) (by kernel_rfl) (fun _ _ _ h => h) (by rfl) ?_ hHeld ?_
      rotate_left
      · ((intro w hSw); (try dsimp only at hSw); go_simp <;> with_reducible rfl)
      simp only [Act.put, List.setIfInBounds_toArray, List.set_cons_zero, List.set_cons_succ]
      refine take_run 14 (some 39) (v := ?_) rfl rfl (by kernel_rfl) (by kernel_rfl) (by kernel_rfl) (fun _ _ _ h => h) (by rfl) ?_ hHeld ?_
      rotate_left
      · ((intro w hSw); (try dsimp only at hSw); go_simp <;> with_reducible rfl)
      simp only [Act.put, List.setIfInBounds_toArray, List.set_cons_zero, List.set_cons_succ]
      refine take_one 15 (by kernel_rfl) rfl (fun K hK => ?_)
      go_simp
      refine hK.out _ _ (by exact ⟨(B7.aside (by simp only; omega) _).at 0, B7.aside (by simp only; omega) _⟩) (fun hHeld => ?_)
      clear hK K
      refine wpAnyH_done (by kernel_rfl) ?_ _
      refine NoPanic.normal ?_
      have hz3 : w3.drew.heap.size = w3.heap.size := rfl
      have B9 := B7.aside (p := ⟨G, yn * 2 + 1, none⟩) (by simp only; omega) (.slice (some ⟨g2, 0, none⟩) (n.ws.length + 1) cap2)
      have GA := D5.grown.trans (grown_none (row := some g) (below_alloc1 w5 (.cells (verC v.k v.t v.u v.a v.ts.length v.c v.s v.g) 51)))
      have TA := Turn.of (P := fun y => (Value.slice n.wa n.ws.length n.wc).ownBlock = some y) GW.out (fun y e => e)
      have GB := grown_turnP GA TA (fun y e => by have := hW.out y e; omega)
      have RB := (D5.rd.alloc (.cells (verC v.k v.t v.u v.a v.ts.length v.c v.s v.g) 51)).turnedP HBY.out GB TA (fun e => by have := hW.out _ e; omega)
      have R7 := (D5.res.more (.cells (verC v.k v.t v.u v.a v.ts.length v.c v.s v.g) 51)).turned TA (fun e => by have := hW.out _ e; omega)
      have R9 := R7.aside (p := ⟨G, yn * 2 + 1, none⟩) (by simp only; omega) (.slice (some ⟨g2, 0, none⟩) (n.ws.length + 1) cap2)
      have HC9 := hide ((D5.row.on (below_alloc1 w5 (.cells (verC v.k v.t v.u v.a v.ts.length v.c v.s v.g) 51))).anyWait (lo := w.heap.size + 1) (g := g) (B0 := w3.drew.heap.size) HN.out (Nat.le_refl _) (by omega) (by omega) (fun y e => (hW.out y e).2) (by omega) (HPA.out.on (below_alloc1 w5 _)) OW.out GW.out)
      have HG9 := hide (grown_set GB (p := ⟨G, yn * 2 + 1, none⟩) (by simp only; omega) (.slice (some ⟨g2, 0, none⟩) (n.ws.length + 1) cap2))
      have HR9 := hide (RB.set HBY.out hgw GB (p := ⟨G, yn * 2 + 1, none⟩) (by simp only; omega) (.slice (some ⟨g2, 0, none⟩) (n.ws.length + 1) cap2))
      have hfn := (fewN_of D5.sh).2 n (List.mem_of_getElem? HN.out)
      have HF9 := hide (fewN_set (k := yn) (n := ⟨n.sa, n.sc, n.ss, some ⟨g2, 0, none⟩, cap2, n.ws ++ [v]⟩) (fewN_of D5.sh) ⟨hfn.1, by simp only [List.length_append, List.length_singleton]; omega, fun x hx => by
        rw [List.mem_append, List.mem_singleton] at hx
        rcases hx with hx | rfl
        · exact hfn.2.2 x hx
        · exact ⟨hv4, hv16⟩⟩)
      have k9 := B9.one.1
      have r9 := R9.one
      clear hHeld D4 D5 B7 B9 R7 R9 q3 q5 q6 q7 c7 f7 hg5 h5 GA TA GB RB hfn hgrow
      go_wp2
      refine bodyPost_ret (v := .agg #[.slice (some ⟨G, 0, none⟩) us.length xc]) (by simp [results, Tryz.results30, go_sem, r9]) rfl ?_
      have F := drawnC_fin (m := m) (d := 800) (c := xc) hgw HBY.out HF9.out HC9.out HG9.out HR9.out (by omega) hm (.slice (some ⟨G, 0, none⟩) us.length xc)
      rw [List.length_set] at F
      exact F
    · skip
      go_simp
      (refine (l20AnyVer_any _ g a len cap _ D4.rd (by omega)).mono ?_; rintro e w5 ⟨v, rfl, hv4, hv16, hpast, hg5, h5⟩; have D5 := D4.kept hgw hpb hg5 h5; obtain ⟨cur5, hcg5⟩ := D5.row.cgs (by omega); have q5 := (hcg5.blk.at (yn * 2 + 1)).trans (hcg5.at' yn n HN.out).2; have q6 := ((hcg5.blk.more (.cells (verC v.k v.t v.u v.a v.ts.length v.c v.s v.g) 51)).at (yn * 2 + 1)).trans (hcg5.at' yn n HN.out).2; have HCG5 := hide hcg5; have HPA := hide hpast; have HR := hide (D5.row.own yn n HN.out).row; have z5 := hg5.size; clear hcg5 hpast)
      try go_wp2_with fail
      refine hK.out _ _ (by exact ⟨D5.box.at 0, D5.box⟩) (fun hHeld => ?_)
      clear hK K
      refine wpAnyH_ready (rs := [8, 11]) (by kernel_rfl) (by simp) ?_
      refine AllReadyH.cons rfl (fun K hK => ?_) (AllReadyH.cons rfl (fun K hK => ?_) AllReadyH.nil)
      · skip
        go_simp
        refine hK.out _ _ (by exact hHeld) (fun hHeld => ?_)
        clear hK K
        refine take_one 11 (by kernel_rfl) rfl (fun K hK => ?_)
        go_simp
        refine hK.out _ _ (by exact ⟨(D5.box.more _).at 0, D5.box.more _⟩) (fun hHeld => ?_)
        clear hK K
        refine take_one 12 (by kernel_rfl) rfl (fun K hK => ?_)
        (refine step_append_lies _ (by rfl) _ _ _ (by rfl) (w.heap.size + 1) 51 j0 _ 6 72 Tryz.underlying33 J0.out J1.out J2.out J3.out rfl (by omega) (.slice n.wa n.ws.length n.wc) n.ws.length (flat6 n.ws) (by rfl) (HR.out.alloc _) ⟨w5.heap.size, 0, none⟩ 1 1 (cells6 v) (by rfl) (by rfl) (World.news_of_block (cs := verC v.k v.t v.u v.a v.ts.length v.c v.s v.g) (t := 51) (fr := (0, 0)) (heap_alloc_new w5 _)) (by simp [cells6, Value.oneCell']) (by omega) (by unfold maxLen; omega) (by omega) (by have e : w3.drew.heap.size = w3.heap.size := rfl; simp; omega) _ rfl ?_; intro g2 cap2 w6 hown2 hgrow hat hlt2; have hbk := hgrow.block; have q7 := ((HCG5.out.blk.more (.cells (verC v.k v.t v.u v.a v.ts.length v.c v.s v.g) 51)).kept hgrow (by intro e; obtain ⟨cs, b1, _⟩ := (D5.row.own yn n HN.out).typed _ e; exact absurd (blk_one b1 HCG5.out.blk) (by decide))); have B7 := (D5.box.more (.cells (verC v.k v.t v.u v.a v.ts.length v.c v.s v.g) 51)).kept hgrow (by intro e; obtain ⟨cs, b1, _⟩ := (D5.row.own yn n HN.out).typed _ e; exact absurd (blk_one b1 D5.box) (by decide)); have c7 := (q7.at (yn * 2 + 1)).trans (HCG5.out.at' yn n HN.out).2; have f7 := q7.loose (yn * 2 + 1); have OW := hide hown2; have GW := hide hgrow; clear hown2 hat hbk)
        simp only [List.getElem_toArray, List.getElem_cons_zero, List.getElem_cons_succ, Act.put, List.setIfInBounds_toArray, List.set_cons_zero, List.set_cons_succ]
        refine hK.out _ _ (by exact ⟨B7.at 0, B7⟩) (fun hHeld => ?_)
        clear hK K
        refine take_run 13 (some 38) (v := ?_) rfl rfl (by kernel_rfl) (by kernel_rfl) (by kernel_rfl) (fun _ _ _ h => h) (by rfl) ?_ hHeld ?_
        rotate_left
        · ((intro w hSw); (try dsimp only at hSw); go_simp <;> with_reducible rfl)
        simp only [Act.put, List.setIfInBounds_toArray, List.set_cons_zero, List.set_cons_succ]
        refine take_run 14 (some 39) (v := ?_) rfl rfl (by kernel_rfl) (by kernel_rfl) (by kernel_rfl) (fun _ _ _ h => h) (by rfl) ?_ hHeld ?_
        rotate_left
        · ((intro w hSw); (try dsimp only at hSw); go_simp <;> with_reducible rfl)
        simp only [Act.put, List.setIfInBounds_toArray, List.set_cons_zero, List.set_cons_succ]
        refine take_one 15 (by kernel_rfl) rfl (fun K hK => ?_)
        go_simp
        refine hK.out _ _ (by exact ⟨(B7.aside (by simp only; omega) _).at 0, B7.aside (by simp only; omega) _⟩) (fun hHeld => ?_)
        clear hK K
        refine wpAnyH_done (by kernel_rfl) ?_ _
        refine NoPanic.normal ?_
        have hz3 : w3.drew.heap.size = w3.heap.size := rfl
        have B9 := B7.aside (p := ⟨G, yn * 2 + 1, none⟩) (by simp only; omega) (.slice (some ⟨g2, 0, none⟩) (n.ws.length + 1) cap2)
        have GA := D5.grown.trans (grown_none (row := some g) (below_alloc1 w5 (.cells (verC v.k v.t v.u v.a v.ts.length v.c v.s v.g) 51)))
        have TA := Turn.of (P := fun y => (Value.slice n.wa n.ws.length n.wc).ownBlock = some y) GW.out (fun y e => e)
        have GB := grown_turnP GA TA (fun y e => by have := hW.out y e; omega)
        have RB := (D5.rd.alloc (.cells (verC v.k v.t v.u v.a v.ts.length v.c v.s v.g) 51)).turnedP HBY.out GB TA (fun e => by have := hW.out _ e; omega)
        have R7 := (D5.res.more (.cells (verC v.k v.t v.u v.a v.ts.length v.c v.s v.g) 51)).turned TA (fun e => by have := hW.out _ e; omega)
        have R9 := R7.aside (p := ⟨G, yn * 2 + 1, none⟩) (by simp only; omega) (.slice (some ⟨g2, 0, none⟩) (n.ws.length + 1) cap2)
        have HC9 := hide ((D5.row.on (below_alloc1 w5 (.cells (verC v.k v.t v.u v.a v.ts.length v.c v.s v.g) 51))).anyWait (lo := w.heap.size + 1) (g := g) (B0 := w3.drew.heap.size) HN.out (Nat.le_refl _) (by omega) (by omega) (fun y e => (hW.out y e).2) (by omega) (HPA.out.on (below_alloc1 w5 _)) OW.out GW.out)
        have HG9 := hide (grown_set GB (p := ⟨G, yn * 2 + 1, none⟩) (by simp only; omega) (.slice (some ⟨g2, 0, none⟩) (n.ws.length + 1) cap2))
        have HR9 := hide (RB.set HBY.out hgw GB (p := ⟨G, yn * 2 + 1, none⟩) (by simp only; omega) (.slice (some ⟨g2, 0, none⟩) (n.ws.length + 1) cap2))
        have hfn := (fewN_of D5.sh).2 n (List.mem_of_getElem? HN.out)
        have HF9 := hide (fewN_set (k := yn) (n := ⟨n.sa, n.sc, n.ss, some ⟨g2, 0, none⟩, cap2, n.ws ++ [v]⟩) (fewN_of D5.sh) ⟨hfn.1, by simp only [List.length_append, List.length_singleton]; omega, fun x hx => by
          rw [List.mem_append, List.mem_singleton] at hx
          rcases hx with hx | rfl
          · exact hfn.2.2 x hx
          · exact ⟨hv4, hv16⟩⟩)
        have k9 := B9.one.1
        have r9 := R9.one
        clear hHeld D4 D5 B7 B9 R7 R9 q3 q5 q6 q7 c7 f7 hg5 h5 GA TA GB RB hfn hgrow
        go_wp2
        refine bodyPost_ret (v := .agg #[.slice (some ⟨G, 0, none⟩) us.length xc]) (by simp [results, Tryz.results30, go_sem, r9]) rfl ?_
        have F := drawnC_fin (m := m) (d := 800) (c := xc) hgw HBY.out HF9.out HC9.out HG9.out HR9.out (by omega) hm (.slice (some ⟨G, 0, none⟩) us.length xc)
        rw [List.length_set] at F
        exact F
      · skip
        go_simp
        refine hK.out _ _ (by exact ⟨(D5.box.more _).at 0, D5.box.more _⟩) (fun hHeld => ?_)
        clear hK K
        refine take_one 8 (by kernel_rfl) rfl (fun K hK => ?_)
        go_simp
        refine hK.out _ _ (by exact hHeld) (fun hHeld => ?_)
        clear hK K
        refine take_one 12 (by kernel_rfl) rfl (fun K hK => ?_)
        (refine step_append_lies _ (by rfl) _ _ _ (by rfl) (w.heap.size + 1) 51 j0 _ 6 72 Tryz.underlying33 J0.out J1.out J2.out J3.out rfl (by omega) (.slice n.wa n.ws.length n.wc) n.ws.length (flat6 n.ws) (by rfl) (HR.out.alloc _) ⟨w5.heap.size, 0, none⟩ 1 1 (cells6 v) (by rfl) (by rfl) (World.news_of_block (cs := verC v.k v.t v.u v.a v.ts.length v.c v.s v.g) (t := 51) (fr := (0, 0)) (heap_alloc_new w5 _)) (by simp [cells6, Value.oneCell']) (by omega) (by unfold maxLen; omega) (by omega) (by have e : w3.drew.heap.size = w3.heap.size := rfl; simp; omega) _ rfl ?_; intro g2 cap2 w6 hown2 hgrow hat hlt2; have hbk := hgrow.block; have q7 := ((HCG5.out.blk.more (.cells (verC v.k v.t v.u v.a v.ts.length v.c v.s v.g) 51)).kept hgrow (by intro e; obtain ⟨cs, b1, _⟩ := (D5.row.own yn n HN.out).typed _ e; exact absurd (blk_one b1 HCG5.out.blk) (by decide))); have B7 := (D5.box.more (.cells (verC v.k v.t v.u v.a v.ts.length v.c v.s v.g) 51)).kept hgrow (by intro e; obtain ⟨cs, b1, _⟩ := (D5.row.own yn n HN.out).typed _ e; exact absurd (blk_one b1 D5.box) (by decide)); have c7 := (q7.at (yn * 2 + 1)).trans (HCG5.out.at' yn n HN.out).2; have f7 := q7.loose (yn * 2 + 1); have OW := hide hown2; have GW := hide hgrow; clear hown2 hat hbk)
        simp only [List.getElem_toArray, List.getElem_cons_zero, List.getElem_cons_succ, Act.put, List.setIfInBounds_toArray, List.set_cons_zero, List.set_cons_succ]
        refine hK.out _ _ (by exact ⟨B7.at 0, B7⟩) (fun hHeld => ?_)
        clear hK K
        refine take_run 13 (some 38) (v := ?_) rfl rfl (by kernel_rfl) (by kernel_rfl) (by kernel_rfl) (fun _ _ _ h => h) (by rfl) ?_ hHeld ?_
        rotate_left
        · ((intro w hSw); (try dsimp only at hSw); go_simp <;> with_reducible rfl)
        simp only [Act.put, List.setIfInBounds_toArray, List.set_cons_zero, List.set_cons_succ]
        refine take_run 14 (some 39) (v := ?_) rfl rfl (by kernel_rfl) (by kernel_rfl) (by kernel_rfl) (fun _ _ _ h => h) (by rfl) ?_ hHeld ?_
        rotate_left
        · ((intro w hSw); (try dsimp only at hSw); go_simp <;> with_reducible rfl)
        simp only [Act.put, List.setIfInBounds_toArray, List.set_cons_zero, List.set_cons_succ]
        refine take_one 15 (by kernel_rfl) rfl (fun K hK => ?_)
        go_simp
        refine hK.out _ _ (by exact ⟨(B7.aside (by simp only; omega) _).at 0, B7.aside (by simp only; omega) _⟩) (fun hHeld => ?_)
        clear hK K
        refine wpAnyH_done (by kernel_rfl) ?_ _
        refine NoPanic.normal ?_
        have hz3 : w3.drew.heap.size = w3.heap.size := rfl
        have B9 := B7.aside (p := ⟨G, yn * 2 + 1, none⟩) (by simp only; omega) (.slice (some ⟨g2, 0, none⟩) (n.ws.length + 1) cap2)
        have GA := D5.grown.trans (grown_none (row := some g) (below_alloc1 w5 (.cells (verC v.k v.t v.u v.a v.ts.length v.c v.s v.g) 51)))
        have TA := Turn.of (P := fun y => (Value.slice n.wa n.ws.length n.wc).ownBlock = some y) GW.out (fun y e => e)
        have GB := grown_turnP GA TA (fun y e => by have := hW.out y e; omega)
        have RB := (D5.rd.alloc (.cells (verC v.k v.t v.u v.a v.ts.length v.c v.s v.g) 51)).turnedP HBY.out GB TA (fun e => by have := hW.out _ e; omega)
        have R7 := (D5.res.more (.cells (verC v.k v.t v.u v.a v.ts.length v.c v.s v.g) 51)).turned TA (fun e => by have := hW.out _ e; omega)
        have R9 := R7.aside (p := ⟨G, yn * 2 + 1, none⟩) (by simp only; omega) (.slice (some ⟨g2, 0, none⟩) (n.ws.length + 1) cap2)
        have HC9 := hide ((D5.row.on (below_alloc1 w5 (.cells (verC v.k v.t v.u v.a v.ts.length v.c v.s v.g) 51))).anyWait (lo := w.heap.size + 1) (g := g) (B0 := w3.drew.heap.size) HN.out (Nat.le_refl _) (by omega) (by omega) (fun y e => (hW.out y e).2) (by omega) (HPA.out.on (below_alloc1 w5 _)) OW.out GW.out)
        have HG9 := hide (grown_set GB (p := ⟨G, yn * 2 + 1, none⟩) (by simp only; omega) (.slice (some ⟨g2, 0, none⟩) (n.ws.length + 1) cap2))
        have HR9 := hide (RB.set HBY.out hgw GB (p := ⟨G, yn * 2 + 1, none⟩) (by simp only; omega) (.slice (some ⟨g2, 0, none⟩) (n.ws.length + 1) cap2))
        have hfn := (fewN_of D5.sh).2 n (List.mem_of_getElem? HN.out)
        have HF9 := hide (fewN_set (k := yn) (n := ⟨n.sa, n.sc, n.ss, some ⟨g2, 0, none⟩, cap2, n.ws ++ [v]⟩) (fewN_of D5.sh) ⟨hfn.1, by simp only [List.length_append, List.length_singleton]; omega, fun x hx => by
          rw [List.mem_append, List.mem_singleton] at hx
          rcases hx with hx | rfl
          · exact hfn.2.2 x hx
          · exact ⟨hv4, hv16⟩⟩)
        have k9 := B9.one.1
        have r9 := R9.one
        clear hHeld D4 D5 B7 B9 R7 R9 q3 q5 q6 q7 c7 f7 hg5 h5 GA TA GB RB hfn hgrow
        go_wp2
        refine bodyPost_ret (v := .agg #[.slice (some ⟨G, 0, none⟩) us.length xc]) (by simp [results, Tryz.results30, go_sem, r9]) rfl ?_
        have F := drawnC_fin (m := m) (d := 800) (c := xc) hgw HBY.out HF9.out HC9.out HG9.out HR9.out (by omega) hm (.slice (some ⟨G, 0, none⟩) us.length xc)
        rw [List.length_set] at F
        exact F
  have hb1 : (x == 1) = false := by simpa using hx1
  by_cases hx2 : x = 2
  · subst hx2
    have k3 := HD3.out.box.one
    have B9 := HD3.out.box.put 0 (.slice (some ⟨G, 0, none⟩) yn xc)
    simp only [List.setIfInBounds_toArray, List.set_cons_zero] at B9
    have R9 := HD3.out.res.aside (p := ⟨pb, 0, none⟩) (by simp only; omega) (.slice (some ⟨G, 0, none⟩) yn xc)
    have HC9 := hide ((HD3.out.row.asideT (p := ⟨pb, 0, none⟩) HD3.out.box (.slice (some ⟨G, 0, none⟩) yn xc)).cgIn (lo := w.heap.size + 1) (g := g) (Nat.le_refl _) (by omega))
    have HG9 := hide (grown_set HD3.out.grown (p := ⟨pb, 0, none⟩) (by simp only; omega) (.slice (some ⟨G, 0, none⟩) yn xc))
    have HR9 := hide (HD3.out.rd.set HBY.out hgw HD3.out.grown (p := ⟨pb, 0, none⟩) (by simp only; omega) (.slice (some ⟨G, 0, none⟩) yn xc))
    have k9 := B9.one.1
    have r9 := R9.one
    clear B9 R9
    go_wp2
    refine bodyPost_ret (v := .agg #[.slice (some ⟨G, 0, none⟩) yn xc]) (by simp [results, Tryz.results30, go_sem, r9]) rfl ?_
    have F := drawnC_fin (m := m) (d := 800) (c := xc) hgw HBY.out ((fewN_of HD3.out.sh).take yn) (HC9.out.take yn) HG9.out HR9.out (by omega) hm (.slice (some ⟨G, 0, none⟩) yn xc)
    have hl : (us.take yn).length = yn := by rw [List.length_take]; omega
    rw [hl] at F
    exact F
  have hb2 : (x == 2) = false := by simpa using hx2
  have k9 := HD3.out.box.one.1
  have r9 := HD3.out.res.one
  go_wp2
  refine bodyPost_ret (v := .agg #[.slice (some ⟨G, 0, none⟩) us.length xc]) (by simp [results, Tryz.results30, go_sem, r9]) rfl ?_
  exact drawnC_fin (m := m) (d := 800) (c := xc) hgw HBY.out (fewN_of HD3.out.sh) (HD3.out.row.cgIn (lo := w.heap.size + 1) (g := g) (Nat.le_refl _) (by omega)) HD3.out.grown HD3.out.rd (by omega) hm _
end Go.Proofs.YtjnloillcgeodaaGreat
/- Contracts of the draws for the promises on stores, whatever the code. Condition: at most 1048576 bytes. -/
namespace Go.Proofs.YtjnloillcgeodaaGreat
open Go.RowKit Go.Joins
attribute [local go_sem ↓] Go.wp_at_zero Go.wp_at_succ

/-- What is drawn: a store and a version. -/
def StoreVer (w : World) (e : Ending) (w' : World) : Prop :=
  ∃ (a : Option Addr) (c : Nat) (vs : List V) (v : V), e = .returned (.tuple #[.agg #[.slice a vs.length c], .agg (verC v.k v.t v.u v.a v.ts.length v.c v.s v.g)]) ∧ vs.length ≤ 4 ∧ FewV vs ∧ v.ts.length ≤ 4 ∧ v.s.size ≤ 16 ∧ Vg w' w'.heap.size a vs ∧ Tg w' w'.heap.size v.a v.ts ∧ Below w.heap.size w w'
/-- What is drawn: two stores. -/
def TwoStores (w : World) (e : Ending) (w' : World) : Prop :=
  ∃ (a a2 : Option Addr) (c c2 : Nat) (vs us : List V), e = .returned (.tuple #[.agg #[.slice a vs.length c], .agg #[.slice a2 us.length c2]]) ∧ vs.length ≤ 4 ∧ FewV vs ∧ us.length ≤ 4 ∧ FewV us ∧ Vg w' w'.heap.size a vs ∧ Vg w' w'.heap.size a2 us ∧ Below w.heap.size w w'
theorem VgIn.aside6 {w : World} {lo g b : Nat} {a : Option Addr} {vs : List V} (h : VgIn w lo g a vs) (hp : b < lo) (x0 x1 x2 x3 x4 x5 : Value) : VgIn ((((((w.setCell ⟨b, 0, none⟩ x0).setCell ⟨b, 1, none⟩ x1).setCell ⟨b, 2, none⟩ x2).setCell ⟨b, 3, none⟩ x3).setCell ⟨b, 4, none⟩ x4).setCell ⟨b, 5, none⟩ x5) lo g a vs :=
  (((((h.aside (p := ⟨b, 0, none⟩) hp _).aside (p := ⟨b, 1, none⟩) hp _).aside (p := ⟨b, 2, none⟩) hp _).aside (p := ⟨b, 3, none⟩) hp _).aside (p := ⟨b, 4, none⟩) hp _).aside (p := ⟨b, 5, none⟩) hp _
theorem PastIn.aside6 {w : World} {lo g b : Nat} {a : Option Addr} {ts : List (Int × Int)} (h : PastIn w lo g a ts) (hp : b < lo) (x0 x1 x2 x3 x4 x5 : Value) : PastIn ((((((w.setCell ⟨b, 0, none⟩ x0).setCell ⟨b, 1, none⟩ x1).setCell ⟨b, 2, none⟩ x2).setCell ⟨b, 3, none⟩ x3).setCell ⟨b, 4, none⟩ x4).setCell ⟨b, 5, none⟩ x5) lo g a ts :=
  (((((h.aside1 (p := ⟨b, 0, none⟩) hp _).aside1 (p := ⟨b, 1, none⟩) hp _).aside1 (p := ⟨b, 2, none⟩) hp _).aside1 (p := ⟨b, 3, none⟩) hp _).aside1 (p := ⟨b, 4, none⟩) hp _).aside1 (p := ⟨b, 5, none⟩) hp _

end Go.Proofs.YtjnloillcgeodaaGreat
/- Contracts of the draws for the promises on chains, whatever the code. Condition: at most 1048576 bytes. -/
namespace Go.Proofs.YtjnloillcgeodaaGreat
open Go.RowKit Go.Joins
attribute [local go_sem ↓] Go.wp_at_zero Go.wp_at_succ

/-- What is drawn: a chain and a version. -/
def ChainVer (w : World) (e : Ending) (w' : World) : Prop :=
  ∃ (A : Option Addr) (c : Nat) (ns : List Nd) (v : V), e = .returned (.tuple #[.agg #[.slice A ns.length c], .agg (verC v.k v.t v.u v.a v.ts.length v.c v.s v.g)]) ∧ FewN ns ∧ v.ts.length ≤ 4 ∧ v.s.size ≤ 16 ∧ CgA w' A ns ∧ Tg w' w'.heap.size v.a v.ts ∧ (v.ts.length = 4 → Own1 w' 0 w'.heap.size v) ∧ Below w.heap.size w w'
/-- What is drawn: a chain and a number. -/
def ChainInt (w : World) (e : Ending) (w' : World) : Prop :=
  ∃ (A : Option Addr) (c : Nat) (ns : List Nd) (k : Int), e = .returned (.tuple #[.agg #[.slice A ns.length c], .int .i64 k]) ∧ FewN ns ∧ CgA w' A ns ∧ Below w.heap.size w w'
theorem CgIn.aside6 {w : World} {lo g b : Nat} {A : Option Addr} {ns : List Nd} (h : CgIn w lo g A ns) (hp : b < lo) (x0 x1 x2 x3 x4 x5 : Value) : CgIn ((((((w.setCell ⟨b, 0, none⟩ x0).setCell ⟨b, 1, none⟩ x1).setCell ⟨b, 2, none⟩ x2).setCell ⟨b, 3, none⟩ x3).setCell ⟨b, 4, none⟩ x4).setCell ⟨b, 5, none⟩ x5) lo g A ns :=
  (((((h.aside (p := ⟨b, 0, none⟩) hp _).aside (p := ⟨b, 1, none⟩) hp _).aside (p := ⟨b, 2, none⟩) hp _).aside (p := ⟨b, 3, none⟩) hp _).aside (p := ⟨b, 4, none⟩) hp _).aside (p := ⟨b, 5, none⟩) hp _
theorem ints8_at {w : World} {g : Nat} {T : TypeId} {x0 x1 x2 x3 x4 x5 x6 x7 : Int} (h : Blk w g T #[.int .i64 x0, .int .i64 x1, .int .i64 x2, .int .i64 x3, .int .i64 x4, .int .i64 x5, .int .i64 x6, .int .i64 x7]) : ∀ i, i < 8 → ∃ x : Int, w.cell? ⟨g, i, none⟩ = some (.int .i64 x) := fun i hi => by
  rw [h.at]
  match i, hi with
  | 0, _ => exact ⟨_, rfl⟩
  | 1, _ => exact ⟨_, rfl⟩
  | 2, _ => exact ⟨_, rfl⟩
  | 3, _ => exact ⟨_, rfl⟩
  | 4, _ => exact ⟨_, rfl⟩
  | 5, _ => exact ⟨_, rfl⟩
  | 6, _ => exact ⟨_, rfl⟩
  | 7, _ => exact ⟨_, rfl⟩
  | n + 8, hi => omega
set_option maxRecDepth 100000 in
set_option maxHeartbeats 2000000 in
theorem drawChainFall_any (w : World) (a : Option Addr) (len cap : Nat) (hc : Code0 w a len cap) (hl : len ≤ 1048576) :
    Calls Tryz.prog 7 #[.slice a len cap] w (ChainInt w) := by
  have S0 := (Inv.start w).box 25 #[.slice none 0 0]
  have C0 := hc.on S0.below
  go_enter Tryz.func7, Tryz.ntmps7
  go_wp2_with fail
  generalize hW : w.alloc (.cells #[.slice none 0 0] 25) = W at S0 C0 ⊢
  have zW : W.heap.size = w.heap.size + 1 := by rw [← hW]; simp
  clear hW
  refine (l20Open_any W a len cap C0 hl).mono ?_
  rintro e w1 ⟨ra, rl, rc, rfl, hb1, h1⟩
  have S1 := S0.on hb1
  have z1 := h1.inside
  obtain ⟨g, eg⟩ : ∃ g, g = W.heap.size := ⟨_, rfl⟩
  rw [← eg] at h1 z1 ⊢
  have hg2 : w.heap.size + 1 ≤ g := by omega
  have hgS : ∀ x ∈ [(w.heap.size, (25 : TypeId), (#[.slice none 0 0] : Array Value))], x.1 ≠ g := by
    intro x hx
    simp only [List.mem_cons, List.not_mem_nil, or_false] at hx
    subst hx
    simp only
    omega
  have HGS := hide hgS
  clear S0 C0 hb1 hc eg zW hgS
  go_wp2_with fail
  refine (l20AnyChain_any w1 g ra rl rc 0 h1 (by omega)).mono ?_
  rintro e w2 ⟨a1, c1, vs, rfl, hf, hv1, hg1, h2⟩
  have S2 := (S1.part hg1 (fun k e => by injection e; omega) (fun x hx k e => by injection e with e; rw [← e]; exact HGS.out x hx)).top.box 25 #[.slice a1 vs.length c1]
  have P1 := (hv1.low (show w.heap.size + 1 ≤ w1.heap.size by omega)).on (below_alloc1 w2 (.cells #[.slice a1 vs.length c1] 25))
  have R2 := h2.alloc (.cells #[.slice a1 vs.length c1] 25)
  have z2 := h2.inside
  have zg1 := hg1.size
  clear S1 h1 hv1 hg1 h2
  go_wp2_with fail
  generalize hW2 : w2.alloc (.cells #[.slice a1 vs.length c1] 25) = W2 at S2 P1 R2 ⊢
  have zW2 : w2.heap.size < W2.heap.size := by rw [← hW2]; simp
  clear hW2
  obtain ⟨p5, e5⟩ : ∃ p5, p5 = w2.heap.size := ⟨_, rfl⟩
  rw [← e5] at S2 zW2 ⊢
  have h5 : p5 ≠ g := by omega
  have lo5 : w.heap.size < p5 := by omega
  have zg5 : g < p5 := by omega
  clear e5
  have S3 := S2.drew
  have R3 := R2.on (Below.refl _ _).drew
  have P3 := P1.on (Below.refl _ _).drew
  have b5 := S3.nth 0 rfl
  have zD : W2.drew.heap.size = W2.heap.size := rfl
  clear S2 R2 P1
  refine wp_region_noPanic ?_
  refine wp_region_held_drew (S := (fun w' => w'.cell? ⟨p5, 0, none⟩ = some (.slice a1 vs.length c1) ∧ Blk w' p5 25 #[.slice a1 vs.length c1])) (by kernel_rfl) (by exact ⟨b5.at 0, b5⟩) (fun hHeld => ?_)
  refine take_run 0 (some 10) (v := ?_) rfl rfl (by kernel_rfl) (by kernel_rfl) (by kernel_rfl) (fun _ _ _ h => h) (by rfl) ?_ hHeld ?_
  rotate_left
  · ((intro w hSw); (try dsimp only at hSw); go_simp <;> with_reducible rfl)
  simp only [Act.put, List.setIfInBounds_toArray, List.set_cons_zero, List.set_cons_succ]
  refine take_run 1 (some 11) (v := ?_) rfl rfl (by kernel_rfl) (by kernel_rfl) (by kernel_rfl) (fun _ _ _ h => h) (by rfl) ?_ hHeld ?_
  rotate_left
  · ((intro w hSw); (try dsimp only at hSw); go_simp <;> with_reducible rfl)
  simp only [Act.put, List.setIfInBounds_toArray, List.set_cons_zero, List.set_cons_succ]
  refine take_one 2 (by kernel_rfl) rfl (fun K hK => ?_)
  go_simp
  refine hK.out _ _ (by exact ⟨(b5.more _).at 0, b5.more _⟩) (fun hHeld => ?_)
  clear hK K
  refine take_one 3 (by kernel_rfl) rfl (fun K hK => ?_)
  go_simp
  (refine (oneN_any _ g ra rl rc _ W2.drew.heap.size 8 (R3.alloc _) (by omega) (by omega) (by simp) (by omega) (by omega) (ints8_at (Blk.made _ _ _))).mono ?_; rintro e w4 ⟨x, _, rfl, hg4, h4'⟩; have S4 := (S3.on (below_alloc1 _ _)).part hg4 (fun k e => (by injection e; omega)) (fun x hx k e => (by injection e with e; simp only [List.mem_cons] at hx; rcases hx with rfl | hx; (simp only; omega); (rw [← e]; exact HGS.out x (by simpa using hx)))); have P4 := (P3.on (below_alloc1 _ _)).kept hg4; have c5 := S4.nth 0 rfl; have q2 := (S4.nth 1 rfl); have k2 := q2.one)
  try go_wp2_with fail
  refine hK.out _ _ (by exact ⟨c5.at 0, c5⟩) (fun hHeld => ?_)
  clear hK K
  refine take_one 4 (by kernel_rfl) rfl (fun K hK => ?_)
  go_simp
  refine hK.out _ _ (by exact ⟨(hHeld.2.aside (p := ⟨w.heap.size, 0, none⟩) (by simp only; omega) _).at 0, hHeld.2.aside (p := ⟨w.heap.size, 0, none⟩) (by simp only; omega) _⟩) (fun hHeld => ?_)
  clear hK K
  refine take_run 5 (some 3) (v := ?_) rfl rfl (by kernel_rfl) (by kernel_rfl) (by kernel_rfl) (fun _ _ _ h => h) (by rfl) ?_ hHeld ?_
  rotate_left
  · ((intro w hSw); (try dsimp only at hSw); go_simp <;> with_reducible rfl)
  simp only [Act.put, List.setIfInBounds_toArray, List.set_cons_zero, List.set_cons_succ]
  refine wpAnyH_done (by kernel_rfl) ?_ _
  refine NoPanic.normal ?_
  have r2 := (q2.put 0 (.slice a1 vs.length c1)).one
  have HB := hide S4.below
  have HP := hide P4
  clear hHeld S3 S4 P3 R3 P4 c5 q2 k2 hg4 h4' b5
  go_wp2
  refine bodyPost_ret (v := .tuple #[.agg #[.slice a1 vs.length c1], .int .i64 x]) (by simp [results, Tryz.results7, go_sem, r2]) rfl ?_
  exact ⟨a1, c1, vs, x, rfl, hf, (HP.out.aside (p := ⟨w.heap.size, 0, none⟩) (by simp only; omega) _).cgA, HB.out.setCell (p := ⟨w.heap.size, 0, none⟩) (Nat.le_refl _) _⟩
/-- What is drawn: a chain. -/
def ChainOne (w : World) (e : Ending) (w' : World) : Prop :=
  ∃ (A : Option Addr) (c : Nat) (ns : List Nd), e = .returned (.agg #[.slice A ns.length c]) ∧ FewN ns ∧ CgA w' A ns ∧ Below w.heap.size w w'
set_option maxRecDepth 100000 in
set_option maxHeartbeats 2000000 in
theorem drawChainJoin_any (w : World) (a : Option Addr) (len cap : Nat) (hc : Code0 w a len cap) (hl : len ≤ 1048576) :
    Calls Tryz.prog 15 #[.slice a len cap] w (ChainOne w) := by
  have S0 := (Inv.start w).box 25 #[.slice none 0 0]
  have C0 := hc.on S0.below
  go_enter Tryz.func15, Tryz.ntmps15
  go_wp2_with fail
  generalize hW : w.alloc (.cells #[.slice none 0 0] 25) = W at S0 C0 ⊢
  have zW : W.heap.size = w.heap.size + 1 := by rw [← hW]; simp
  clear hW
  refine (l20Open_any W a len cap C0 hl).mono ?_
  rintro e w1 ⟨ra, rl, rc, rfl, hb1, h1⟩
  have S1 := S0.on hb1
  have z1 := h1.inside
  obtain ⟨g, eg⟩ : ∃ g, g = W.heap.size := ⟨_, rfl⟩
  rw [← eg] at h1 z1 ⊢
  have hg2 : w.heap.size + 1 ≤ g := by omega
  have hgS : ∀ x ∈ [(w.heap.size, (25 : TypeId), (#[.slice none 0 0] : Array Value))], x.1 ≠ g := by
    intro x hx
    simp only [List.mem_cons, List.not_mem_nil, or_false] at hx
    subst hx
    simp only
    omega
  have HGS := hide hgS
  clear S0 C0 hb1 hc eg zW hgS
  go_wp2_with fail
  refine (l20AnyChain_any w1 g ra rl rc 0 h1 (by omega)).mono ?_
  rintro e w2 ⟨a1, c1, vs, rfl, hf, hv1, hg1, h2⟩
  have S2 := S1.part hg1 (fun k e => by injection e; omega) (fun x hx k e => by injection e with e; rw [← e]; exact HGS.out x hx)
  have P1 := (hv1.low (show w.heap.size + 1 ≤ w1.heap.size by omega))
  have q2 := (S2.nth 0 rfl)
  have k2 := q2.one
  have HB := hide (S2.below.setCell (p := ⟨w.heap.size, 0, none⟩) (Nat.le_refl _) (.slice a1 vs.length c1))
  have HP := hide (P1.aside (p := ⟨w.heap.size, 0, none⟩) (by simp only; omega) (.slice a1 vs.length c1)).cgA
  have r2 := (q2.put 0 (.slice a1 vs.length c1)).one
  clear S1 S2 P1 h1 h2 hv1 hg1 q2
  go_wp2
  refine bodyPost_ret (v := .agg #[.slice a1 vs.length c1]) (by simp [results, Tryz.results15, go_sem, r2]) rfl ?_
  exact ⟨a1, c1, vs, rfl, hf, HP.out, HB.out⟩
end Go.Proofs.YtjnloillcgeodaaGreat
/- Whether two versions, two stores are the same, as the promises compare them: of such as are. Condition: what is said of each. -/
namespace Go.Proofs.YtjnloillcgeodaaGreat
open Go.RowKit Go.Joins
attribute [local go_sem ↓] Go.wp_at_zero Go.wp_at_succ

set_option maxRecDepth 100000 in
set_option maxHeartbeats 2000000 in
theorem cfVer_same (k t u : Int) (a a' : Option Addr) (c c' : Nat) (ts : List (Int × Int)) (s : ByteArray) (b : Bool) (w : World) (hn : ts.length ≤ 1048576) (ht : Tg w w.heap.size a ts) (hu : Tg w w.heap.size a' ts) :
    Calls Tryz.prog 22 #[.agg (verC k t u a ts.length c s b), .agg (verC k t u a' ts.length c' s b)] w fun e w' => e = .returned (.bool true) ∧ Below w.heap.size w w' := by
  have S0 := ((Inv.start w).box 51 (verC k t u a ts.length c s b)).box 51 (verC k t u a' ts.length c' s b)
  simp only [World.size_alloc] at S0
  have q0 := (S0.nth 0 rfl).six.1
  have q1 := (S0.nth 1 rfl).six.1
  go_enter Tryz.func22, Tryz.ntmps22
  go_wp2_with fail
  refine (cfPast_any a a' c c' ts ts _ hn hn ((ht.on S0.below).up S0.base) ((hu.on S0.below).up S0.base)).mono ?_
  rw [decide_eq_true rfl]
  rintro e w1 ⟨rfl, hb1⟩
  have S1 := S0.on hb1
  have k0 := (S1.nth 0 rfl).six.1
  have k1 := (S1.nth 1 rfl).six.1
  clear S0 q0 q1 hb1 ht hu
  go_wp2
  go_ret
  exact ⟨rfl, S1.below⟩
set_option maxRecDepth 100000 in
set_option maxHeartbeats 2000000 in
theorem cfStore_same (a a' : Option Addr) (c c' n : Nat) (vs us : List V) (w : World) (hn : n ≤ 1048576) (hvn : vs.length = n) (hun : us.length = n)
    (hlike : Like vs us) (hm : ∀ v ∈ vs, v.ts.length ≤ 1048576) (hv : Vg w w.heap.size a vs) (hu : Vg w w.heap.size a' us) :
    Calls Tryz.prog 12 #[.agg #[.slice a n c], .agg #[.slice a' n c']] w fun e w' => e = .returned (.bool true) ∧ Below w.heap.size w w' := by
  have S0 := ((Inv.start w).box 35 #[.slice a n c]).box 35 #[.slice a' n c']
  simp only [World.size_alloc] at S0
  have HN := hide hvn
  have HU := hide hun
  have HK := hide hlike
  have HM := hide hm
  clear hvn hun hlike hm
  go_enter Tryz.func12, Tryz.ntmps12
  go_wp2
  go_loopw [5] (fun i wr => ∃ k : Nat, k ≤ n ∧ i = .int .i64 (k : Int) ∧ Inv w (w.heap.size + 1 + 1) [(w.heap.size + 1, 35, #[.slice a' n c']), (w.heap.size, 35, #[.slice a n c])] wr) (fun i _ => n - (intOf i).toNat)
  case atStart => exact ⟨0, Nat.zero_le _, rfl, S0⟩
  case round =>
    obtain ⟨k, hk, rfl, hI⟩ := hrel
    clear S0
    by_cases hlt : k < n
    · rcases hv with e0 | ⟨b, off, rfl, hb, hx⟩
      · have := HN.out; subst e0; simp at this; omega
      · rcases hu with e0 | ⟨b', off', rfl, hb', hx'⟩
        · have := HU.out; subst e0; simp at this; omega
        · have hkl : k < vs.length := by have := HN.out; omega
          have hkl' : k < us.length := by have := HU.out; omega
          obtain ⟨hS, hT⟩ := hx k _ (List.getElem?_eq_getElem hkl)
          obtain ⟨hS2, hT2⟩ := hx' k _ (List.getElem?_eq_getElem hkl')
          have HX := hide (List.getElem?_eq_getElem hkl)
          have HY := hide (List.getElem?_eq_getElem hkl')
          generalize vs[k] = v at hS hT HX
          generalize us[k] = v' at hS2 hT2 HY
          have hli := HK.out k v v' HX.out HY.out
          have HB := hide (HM.out v (List.mem_of_getElem? HX.out))
          obtain ⟨vk, vt, vu, va, vc, vts, vs', vg⟩ := v
          obtain ⟨uk, ut, uu, ua, uc, uts, us', ug⟩ := v'
          obtain ⟨e1, e2, e3, e4, e5, e6⟩ := hli
          simp only at e1 e2 e3 e4 e5 e6 hS hS2 hT hT2
          subst e1 e2 e3 e4 e5 e6
          have Q1 := hide hS
          have Q2 := hide hS2
          have T1 := hide hT
          have T2 := hide hT2
          clear hS hS2 hT hT2 hx hx'
          have i1 : (0 : Int) ≤ (k : Int) := by omega
          have i2 : (k : Int) < (n : Int) := by omega
          have q0 := (hI.nth 0 rfl).one.1
          have q1 := (hI.nth 1 rfl).one.1
          have jh : ∀ w', Inv w (w.heap.size + 1 + 1) [(w.heap.size + 1, 35, #[.slice (some ⟨b', off', none⟩) n c']), (w.heap.size, 35, #[.slice (some ⟨b, off, none⟩) n c])] w' → (w'.cell? ⟨w.heap.size + 1, 0, none⟩ = some (.slice (some ⟨b', off', none⟩) n c') ∧ w'.cell? ⟨w.heap.size, 0, none⟩ = some (.slice (some ⟨b, off, none⟩) n c)) ∧ Six w' b (off + k * 6) ⟨vk, vt, vu, va, vc, vts, vs', vg⟩ ∧ Six w' b' (off' + k * 6) ⟨vk, vt, vu, ua, uc, vts, vs', vg⟩ ∧ Inv w (w.heap.size + 1 + 1) [(w.heap.size + 1, 35, #[.slice (some ⟨b', off', none⟩) n c']), (w.heap.size, 35, #[.slice (some ⟨b, off, none⟩) n c])] w' := fun w' h =>
            ⟨⟨(h.nth 0 rfl).at 0, (h.nth 1 rfl).at 0⟩, Q1.out.keep hb fun _ hp => h.below.cell hp, Q2.out.keep hb' fun _ hp => h.below.cell hp, h⟩
          go_wp2_with fail
          refine wp_region_noPanic ?_
          refine wp_region_held_drew (S := (fun w' => (w'.cell? ⟨w.heap.size + 1, 0, none⟩ = some (.slice (some ⟨b', off', none⟩) n c') ∧ w'.cell? ⟨w.heap.size, 0, none⟩ = some (.slice (some ⟨b, off, none⟩) n c)) ∧ Six w' b (off + k * 6) ⟨vk, vt, vu, va, vc, vts, vs', vg⟩ ∧ Six w' b' (off' + k * 6) ⟨vk, vt, vu, ua, uc, vts, vs', vg⟩ ∧ Inv w (w.heap.size + 1 + 1) [(w.heap.size + 1, 35, #[.slice (some ⟨b', off', none⟩) n c']), (w.heap.size, 35, #[.slice (some ⟨b, off, none⟩) n c])] w')) (by kernel_rfl) (by exact jh _ hI.drew) (fun hHeld => ?_)
          refine take_run 0 (some 20) (v := ?_) rfl rfl (by kernel_rfl) (by kernel_rfl) (by kernel_rfl) (fun _ _ _ h => h) (by rfl) ?_ hHeld ?_
          rotate_left
          · ((intro w hSw); (try dsimp only at hSw); go_simp <;> with_reducible rfl)
          simp only [Act.put, List.setIfInBounds_toArray, List.set_cons_zero, List.set_cons_succ]
          refine take_run 1 (some 21) (v := ?_) rfl rfl (by kernel_rfl) (by kernel_rfl) (by kernel_rfl) (fun _ _ _ h => h) (by rfl) ?_ hHeld ?_
          rotate_left
          · ((intro w hSw); (try dsimp only at hSw); go_simp <;> with_reducible rfl)
          simp only [Act.put, List.setIfInBounds_toArray, List.set_cons_zero, List.set_cons_succ]
          refine take_run 2 (some 22) (v := ?_) rfl rfl (by kernel_rfl) (by kernel_rfl) (by kernel_rfl) (fun _ _ _ h => h) (by rfl) ?_ hHeld ?_
          rotate_left
          · ((intro w hSw); (try dsimp only at hSw); go_simp <;> with_reducible rfl)
          simp only [Act.put, List.setIfInBounds_toArray, List.set_cons_zero, List.set_cons_succ]
          refine take_run 3 (some 23) (v := ?_) rfl rfl (by kernel_rfl) (by kernel_rfl) (by kernel_rfl) (fun _ _ _ h => h) (by rfl) ?_ hHeld ?_
          rotate_left
          · ((intro w hSw); (try dsimp only at hSw); go_simp <;> with_reducible rfl)
          simp only [Act.put, List.setIfInBounds_toArray, List.set_cons_zero, List.set_cons_succ]
          refine take_run 4 (some 24) (v := ?_) rfl rfl (by kernel_rfl) (by kernel_rfl) (by kernel_rfl) (fun _ _ _ h => h) (by rfl) ?_ hHeld ?_
          rotate_left
          · ((intro w hSw); (try dsimp only at hSw); go_simp <;> with_reducible rfl)
          simp only [Act.put, List.setIfInBounds_toArray, List.set_cons_zero, List.set_cons_succ]
          refine take_run 5 (some 25) (v := ?_) rfl rfl (by kernel_rfl) (by kernel_rfl) (by kernel_rfl) (fun _ _ _ h => h) (by rfl) ?_ hHeld ?_
          rotate_left
          · ((intro w hSw); (try dsimp only at hSw); go_simp <;> with_reducible rfl)
          simp only [Act.put, List.setIfInBounds_toArray, List.set_cons_zero, List.set_cons_succ]
          refine take_run 6 (some 26) (v := ?_) rfl rfl (by kernel_rfl) (by kernel_rfl) (by kernel_rfl) (fun _ _ _ h => h) (by rfl) ?_ hHeld ?_
          rotate_left
          · ((intro w hSw); (try dsimp only at hSw); go_simp <;> with_reducible rfl)
          simp only [Act.put, List.setIfInBounds_toArray, List.set_cons_zero, List.set_cons_succ]
          refine take_run 7 (some 27) (v := ?_) rfl rfl (by kernel_rfl) (by kernel_rfl) (by kernel_rfl) (fun _ _ _ h => h) (by rfl) ?_ hHeld ?_
          rotate_left
          · ((intro w hSw); (try dsimp only at hSw); go_simp <;> with_reducible rfl)
          simp only [Act.put, List.setIfInBounds_toArray, List.set_cons_zero, List.set_cons_succ]
          refine take_run 8 (some 28) (v := ?_) rfl rfl (by kernel_rfl) (by kernel_rfl) (by kernel_rfl) (fun _ _ _ h => h) (by rfl) ?_ hHeld ?_
          rotate_left
          · ((intro w hSw); (try dsimp only at hSw); go_simp <;> with_reducible rfl)
          simp only [Act.put, List.setIfInBounds_toArray, List.set_cons_zero, List.set_cons_succ]
          refine take_run 9 (some 29) (v := ?_) rfl rfl (by kernel_rfl) (by kernel_rfl) (by kernel_rfl) (fun _ _ _ h => h) (by rfl) ?_ hHeld ?_
          rotate_left
          · ((intro w hSw); (try dsimp only at hSw); go_simp <;> with_reducible rfl)
          simp only [Act.put, List.setIfInBounds_toArray, List.set_cons_zero, List.set_cons_succ]
          refine take_one 10 (by kernel_rfl) rfl (fun K hK => ?_)
          go_simp
          (refine (cfVer_same _ _ _ _ _ _ _ vts _ _ _ HB.out ((T1.out.on hHeld.2.2.2.below).up hHeld.2.2.2.base) ((T2.out.on hHeld.2.2.2.below).up hHeld.2.2.2.base)).mono ?_; rintro e w1 ⟨rfl, hb1⟩)
          try go_wp2_with fail
          refine hK.out _ _ (by exact jh _ (hHeld.2.2.2.on hb1)) (fun hHeld => ?_)
          clear hK K
          refine take_run 11 (some 31) (v := ?_) rfl rfl (by kernel_rfl) (by kernel_rfl) (by kernel_rfl) (fun _ _ _ h => h) (by rfl) ?_ hHeld ?_
          rotate_left
          · ((intro w hSw); (try dsimp only at hSw); go_simp <;> with_reducible rfl)
          simp only [Act.put, List.setIfInBounds_toArray, List.set_cons_zero, List.set_cons_succ]
          refine wpAnyH_done (by kernel_rfl) ?_ _
          refine NoPanic.normal ?_
          have hI2 := hHeld.2.2.2
          clear hHeld hI q0 q1
          go_wp2
          exact ⟨⟨k + 1, by omega, by go_num, hI2⟩, by simp [intOf]; omega⟩
    · have hkn : k = n := by omega
      subst hkn
      clear hlt
      have q0 := (hI.nth 0 rfl).one.1
      have q1 := (hI.nth 1 rfl).one.1
      go_wp2
      go_ret
      exact ⟨rfl, hI.below⟩
end Go.Proofs.YtjnloillcgeodaaGreat
