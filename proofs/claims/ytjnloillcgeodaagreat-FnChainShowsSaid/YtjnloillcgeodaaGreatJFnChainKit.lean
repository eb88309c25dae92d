/- Contract of the draw of a chain, valid or not: the walk. Condition: as in Draw. -/
import Derived.Test.YtjnloillcgeodaaGreatJDrawChains2
import Derived.Test.YtjnloillcgeodaaGreatJDrawChPure
import Derived.Test.YtjnloillcgeodaaGreatJDrawVers3
import Derived.Test.YtjnloillcgeodaaGreatJVerOk0
import Derived.Test.YtjnloillcgeodaaGreatJChainPure
import Derived.Test.YtjnloillcgeodaaGreatJChainCopy
import Derived.Test.YtjnloillcgeodaaGreatJVerClone
import Derived.Test.YtjnloillcgeodaaGreatJStoreJoin
import Derived.Test.YtjnloillcgeodaaGreatJChainPass4
import Derived.Test.YtjnloillcgeodaaGreatJChainJoin2
namespace Go.Proofs.YtjnloillcgeodaaGreat
open Go.RowKit Go.Joins
attribute [local go_sem ↓] Go.wp_at_zero Go.wp_at_succ

theorem CgIn.take {w : World} {lo g : Nat} {A : Option Addr} {ns : List Nd} (h : CgIn w lo g A ns) (k : Nat) : CgIn w lo g A (ns.take k) := by
  have hk : ∀ (i : Nat) n, (ns.take k)[i]? = some n → ns[i]? = some n := fun i n hi => by
    rw [List.getElem?_take] at hi
    split at hi
    · exact hi
    · cases hi
  rcases h with h | ⟨G, cur, h1, h2, h3, h4, h5, h6⟩
  · exact .inl (by rw [h]; simp)
  · exact .inr ⟨G, cur, h1, h2, h3, h4, fun i n hi => h5 i n (hk i n hi), fun i n hi => h6 i n (hk i n hi)⟩
theorem FewN.take {ns : List Nd} (h : FewN ns) (k : Nat) : FewN (ns.take k) := ⟨by rw [List.length_take]; have := h.1; omega, fun n hn => h.2 n (List.mem_of_mem_take hn)⟩
set_option maxRecDepth 100000 in
set_option maxHeartbeats 8000000 in
theorem l20AnyChain_any (w : World) (g : Nat) (a : Option Addr) (len cap m : Nat) (h : Rd w g a len cap m) (hm : m + 800 ≤ 1000000) :
    Calls Tryz.prog 30 #[.pointer (some ⟨g, 0, none⟩)] w (DrawnC w g a len cap m 800) := by
  obtain ⟨j0, hj0, hy0, hy1, hy2⟩ := info_parts ver_info
  have J0 := hide hj0
  have J1 := hide hy0
  have J2 := hide hy1
  have J3 := hide hy2
  clear hj0 hy0 hy1 hy2
  have hgw := h.inside
  have HBY := hide h.bytes
  have B0 := Blk.made w 25 #[.slice none 0 0]
  have L0 := below_alloc1 w (.cells #[.slice none 0 0] 25)
  have G0 := grown_none (row := some g) L0
  go_enter Tryz.func30, Tryz.ntmps30
  go_wp2_with fail
  refine (l20Chain_any _ g a len cap m (h.on L0) (by omega)).mono ?_
  rintro e w1 ⟨G, xc, us, rfl, hsh, hgr, hg1, h1⟩
  simp only [World.size_alloc] at hgr
  have LA := below_alloc1 w1 (.cells #[.slice (some ⟨G, 0, none⟩) us.length xc] 25)
  have z1 : w.heap.size + 1 ≤ w1.heap.size := by have := hg1.size; simpa using this
  have hpb : w.heap.size < w1.heap.size := by omega
  have HD : Hid (DC w g a len cap (m + 400) w1.heap.size G xc us (w1.alloc (.cells #[.slice (some ⟨G, 0, none⟩) us.length xc] 25))) :=
    ⟨(B0.kept hg1 (by intro e; injection e; omega)).on LA, Blk.made _ _ _, (hgr.down (by omega)).on LA, hsh, (G0.trans hg1).trans (grown_none LA), h1.on LA⟩
  clear B0 L0 G0 h hg1 h1 hgr LA hsh
  go_wp2_with fail
  generalize w1.alloc (.cells #[.slice (some ⟨G, 0, none⟩) us.length xc] 25) = W1 at HD ⊢
  obtain ⟨pb, epb⟩ : ∃ pb, pb = w1.heap.size := ⟨_, rfl⟩
  rw [← epb] at HD hpb ⊢
  clear epb z1
  have k0 := HD.out.box.one.1
  go_wp2_with fail
  refine (pick_any _ g a len cap _ _ HD.out.rd (by omega) (by have := HD.out.sh.1; omega)).mono ?_
  rintro e w2 ⟨y, hy, rfl, hg2, h2⟩
  have hy0 := hy.1
  have hy1 := hy.2 (by have := HD.out.sh.1; omega)
  obtain ⟨yn, rfl⟩ := Int.eq_ofNat_of_zero_le hy0
  have hyn : yn < us.length := by omega
  have HD2 := hide (HD.out.kept hgw hpb hg2 h2)
  clear HD hg2 h2 hy hy0 hy1 k0
  go_wp2_with fail
  refine (pick_any _ g a len cap _ _ HD2.out.rd (by omega) (by omega)).mono ?_
  rintro e w3 ⟨x, hx, rfl, hg3, h3⟩
  have HD3 := hide (HD2.out.kept hgw hpb hg3 h3)
  clear HD2 hg3 h3 hx
  obtain ⟨n, hn⟩ : ∃ n, us[yn]? = some n := ⟨_, List.getElem?_eq_getElem hyn⟩
  have HN := hide hn
  clear hn
  have hGt : w.heap.size + 1 ≤ G ∧ G < w3.heap.size := by
    obtain ⟨_, _, q1, q2⟩ := HD3.out.row.typed G rfl
    exact ⟨q1, q2⟩
  have hGb : G ≠ pb := fun e => by
    obtain ⟨cs, q1, _⟩ := HD3.out.row.typed G rfl
    subst e
    exact absurd (blk_one q1 HD3.out.box) (by decide)
  have hcap := HD3.out.row.caps.1
  have hus := HD3.out.sh.1.2
  have i1 : (0 : Int) ≤ (yn : Int) := by omega
  have i2 : (yn : Int) < (us.length : Int) := by omega
  have i3 : (yn : Int) ≤ (xc : Int) := by omega
  by_cases hx0 : x = 0
  · subst hx0
    have D4 := HD3.out.drew hgw hpb
    go_wp2_with fail
    refine wp_region_noPanic ?_
    refine wp_region_held_drew (S := (fun w' => w'.cell? ⟨pb, 0, none⟩ = some (.slice (some ⟨G, 0, none⟩) us.length xc) ∧ Blk w' pb 25 #[.slice (some ⟨G, 0, none⟩) us.length xc])) (by kernel_rfl) (by exact ⟨D4.box.at 0, D4.box⟩) (fun hHeld => ?_)
    refine take_run 0 (some 16) (v := ?_) rfl rfl (by kernel_rfl) (by kernel_rfl) (by kernel_rfl) (fun _ _ _ h => h) (by rfl) ?_ hHeld ?_
    rotate_left
    · ((intro w hSw); (try dsimp only at hSw); go_simp <;> with_reducible rfl)
    simp only [Act.put, List.setIfInBounds_toArray, List.set_cons_zero, List.set_cons_succ]
    refine take_run 1 (some 17) (v := ?_) rfl rfl (by kernel_rfl) (by kernel_rfl) (by kernel_rfl) (fun _ _ _ h => h) (by rfl) ?_ hHeld ?_
    rotate_left
    · ((intro w hSw); (try dsimp only at hSw); go_simp <;> with_reducible rfl)
    simp only [Act.put, List.setIfInBounds_toArray, List.set_cons_zero, List.set_cons_succ]
    refine take_run 2 (some 18) (v := ?_) rfl rfl (by kernel_rfl) (by kernel_rfl) (by kernel_rfl) (fun _ _ _ h => h) (by rfl) ?_ hHeld ?_
    rotate_left
    · ((intro w hSw); (try dsimp only at hSw); go_simp <;> with_reducible rfl)
    simp only [Act.put, List.setIfInBounds_toArray, List.set_cons_zero, List.set_cons_succ]
    refine take_run 3 (some 19) (v := ?_) rfl rfl (by kernel_rfl) (by kernel_rfl) (by kernel_rfl) (fun _ _ _ h => h) (by rfl) ?_ hHeld ?_
    rotate_left
    · ((intro w hSw); (try dsimp only at hSw); go_simp <;> with_reducible rfl)
    simp only [Act.put, List.setIfInBounds_toArray, List.set_cons_zero, List.set_cons_succ]
    refine take_one 4 (by kernel_rfl) rfl (fun K hK => ?_)
    go_simp
    (refine (l20AnyStore_any _ g a len cap _ D4.rd (by omega)).mono ?_; rintro e w5 ⟨a1, c1, vs, rfl, hv4, hfv, hvg, hg5, h5⟩; have D5 := D4.kept hgw hpb hg5 h5; obtain ⟨cur5, hcg5⟩ := D5.row.cgs (by omega); have q5 := (hcg5.blk.at (yn * 2)).trans (hcg5.at' yn n HN.out).1; have f5 := hcg5.blk.loose (yn * 2); have HVG := hide hvg; clear hcg5 hvg)
    try go_wp2_with fail
    refine hK.out _ _ (by exact ⟨D5.box.at 0, D5.box⟩) (fun hHeld => ?_)
    clear hK K
    refine take_run 5 (some 21) (v := ?_) rfl rfl (by kernel_rfl) (by kernel_rfl) (by kernel_rfl) (fun _ _ _ h => h) (by rfl) ?_ hHeld ?_
    rotate_left
    · ((intro w hSw); (try dsimp only at hSw); go_simp <;> with_reducible rfl)
    simp only [Act.put, List.setIfInBounds_toArray, List.set_cons_zero, List.set_cons_succ]
    refine take_run 6 (some 22) (v := ?_) rfl rfl (by kernel_rfl) (by kernel_rfl) (by kernel_rfl) (fun _ _ _ h => h) (by rfl) ?_ hHeld ?_
    rotate_left
    · ((intro w hSw); (try dsimp only at hSw); go_simp <;> with_reducible rfl)
    simp only [Act.put, List.setIfInBounds_toArray, List.set_cons_zero, List.set_cons_succ]
    refine take_one 7 (by kernel_rfl) rfl (fun K hK => ?_)
    go_simp
    refine hK.out _ _ (by exact ⟨(D5.box.aside (by simp only; omega) _).at 0, D5.box.aside (by simp only; omega) _⟩) (fun hHeld => ?_)
    clear hK K
    refine wpAnyH_done (by kernel_rfl) ?_ _
    refine NoPanic.normal ?_
    have B9 := D5.box.aside (p := ⟨G, yn * 2, none⟩) (by simp only; omega) (.slice a1 vs.length c1)
    have R9 := D5.res.aside (p := ⟨G, yn * 2, none⟩) (by simp only; omega) (.slice a1 vs.length c1)
    have HC9 := hide (D5.row.anyStore (lo := w.heap.size + 1) (g := g) (B0 := w3.drew.heap.size) (c := c1) HN.out (Nat.le_refl _) (by omega) (by have e : w3.drew.heap.size = w3.heap.size := rfl; omega) (by have e : w3.drew.heap.size = w3.heap.size := rfl; omega) HVG.out)
    have HG9 := hide (grown_set D5.grown (p := ⟨G, yn * 2, none⟩) (by simp only; omega) (.slice a1 vs.length c1))
    have HR9 := hide (D5.rd.set HBY.out hgw D5.grown (p := ⟨G, yn * 2, none⟩) (by simp only; omega) (.slice a1 vs.length c1))
    have HF9 := hide (fewN_set (k := yn) (n := ⟨a1, c1, vs, n.wa, n.wc, n.ws⟩) (fewN_of D5.sh) ⟨⟨hv4, hfv⟩, ((fewN_of D5.sh).2 n (List.mem_of_getElem? HN.out)).2⟩)
    have k9 := B9.one.1
    have r9 := R9.one
    clear hHeld D4 D5 B9 R9 q5 f5 hg5 h5
    go_wp2
    refine bodyPost_ret (v := .agg #[.slice (some ⟨G, 0, none⟩) us.length xc]) (by simp [results, Tryz.results30, go_sem, r9]) rfl ?_
    have F := drawnC_fin (m := m) (d := 800) (c := xc) hgw HBY.out HF9.out HC9.out HG9.out HR9.out (by omega) hm (.slice (some ⟨G, 0, none⟩) us.length xc)
    rw [List.length_set] at F
    exact F
  have hb0 : (x == 0) = false := by simpa using hx0
  by_cases hx1 : x = 1
  · subst hx1
    obtain ⟨cur3, hcg3⟩ := HD3.out.row.cgs (by omega)
    have q3 := (hcg3.blk.at (yn * 2 + 1)).trans (hcg3.at' yn n HN.out).2
    have hW : Hid (∀ y, (Value.slice n.wa n.ws.length n.wc).ownBlock = some y → w.heap.size + 1 ≤ y ∧ y < w3.heap.size) := fun y e => by
      obtain ⟨_, _, q⟩ := (HD3.out.row.own yn n HN.out).typed y e
      exact q
    have D4 := HD3.out.drew hgw hpb
    have hnw := (HD3.out.sh.2 yn n HN.out).2.2.1
    clear hcg3
    go_wp2_with fail
    refine wp_region_noPanic ?_
    refine wp_region_held_drew (S := (fun w' => w'.cell? ⟨pb, 0, none⟩ = some (.slice (some ⟨G, 0, none⟩) us.length xc) ∧ Blk w' pb 25 #[.slice (some ⟨G, 0, none⟩) us.length xc])) (by kernel_rfl) (by exact ⟨D4.box.at 0, D4.box⟩) (fun hHeld => ?_)
    refine take_run 0 (some 25) (v := ?_) rfl rfl (by kernel_rfl) (by kernel_rfl) (by kernel_rfl) (fun _ _ _ h => h) (by rfl) ?_ hHeld ?_
    rotate_left
    · ((intro w hSw); (try dsimp only at hSw); go_simp <;> with_reducible rfl)
    simp only [Act.put, List.setIfInBounds_toArray, List.set_cons_zero, List.set_cons_succ]
    refine take_run 1 (some 26) (v := ?_) rfl rfl (by kernel_rfl) (by kernel_rfl) (by kernel_rfl) (fun _ _ _ h => h) (by rfl) ?_ hHeld ?_
    rotate_left
    · ((intro w hSw); (try dsimp only at hSw); go_simp <;> with_reducible rfl)
    simp only [Act.put, List.setIfInBounds_toArray, List.set_cons_zero, List.set_cons_succ]
    refine take_run 2 (some 27) (v := ?_) rfl rfl (by kernel_rfl) (by kernel_rfl) (by kernel_rfl) (fun _ _ _ h => h) (by rfl) ?_ hHeld ?_
    rotate_left
    · ((intro w hSw); (try dsimp only at hSw); go_simp <;> with_reducible rfl)
    simp only [Act.put, List.setIfInBounds_toArray, List.set_cons_zero, List.set_cons_succ]
    refine take_run 3 (some 28) (v := ?_) rfl rfl (by kernel_rfl) (by kernel_rfl) (by kernel_rfl) (fun _ _ _ h => h) (by rfl) ?_ hHeld ?_
    rotate_left
    · ((intro w hSw); (try dsimp only at hSw); go_simp <;> with_reducible rfl)
    simp only [Act.put, List.setIfInBounds_toArray, List.set_cons_zero, List.set_cons_succ]
    refine take_run 4 (some 29) (v := ?_) rfl rfl (by kernel_rfl) (by kernel_rfl) (by kernel_rfl) (fun _ _ _ h => h) (by rfl) ?_ hHeld ?_
    rotate_left
    · ((intro w hSw); (try dsimp only at hSw); go_simp <;> with_reducible rfl)
    simp only [Act.put, List.setIfInBounds_toArray, List.set_cons_zero, List.set_cons_succ]
    refine take_run 5 (some 30) (v := ?_) rfl rfl (by kernel_rfl) (by kernel_rfl) (by kernel_rfl) (fun _ _ _ h => h) (by rfl) ?_ hHeld ?_
    rotate_left
    · ((intro w hSw); (try dsimp only at hSw); go_simp <;> with_reducible rfl)
    simp only [Act.put, List.setIfInBounds_toArray, List.set_cons_zero, List.set_cons_succ]
    refine take_run 6 (some 31) (v := ?_) rfl rfl (by kernel_rfl) (by kernel_rfl) (by kernel_rfl) (fun _ _ _ h => h) (by rfl) ?_ hHeld ?_
    rotate_left
    · ((intro w hSw); (try dsimp only at hSw); go_simp <;> with_reducible rfl)
    simp only [Act.put, List.setIfInBounds_toArray, List.set_cons_zero, List.set_cons_succ]
    refine take_run 7 (some 32) (v := ?_) rfl rfl (by kernel_rfl) (by kernel_rfl) (by kernel_rfl) (fun _ _ _ h => h) (by rfl) ?_ hHeld ?_
    rotate_left
    · ((intro w hSw); (try dsimp only at hSw); go_simp <;> with_reducible rfl)
    simp only [Act.put, List.setIfInBounds_toArray, List.set_cons_zero, List.set_cons_succ]
    refine take_run 9 (some 34) (v := ?_) rfl rfl (by kernel_rfl) (by kernel_rfl) (by kernel_rfl) (fun _ _ _ h => h) (by rfl) ?_ hHeld ?_
    rotate_left
    · ((intro w hSw); (try dsimp only at hSw); go_simp <;> with_reducible rfl)
    simp only [Act.put, List.setIfInBounds_toArray, List.set_cons_zero, List.set_cons_succ]
    refine wpAnyH_ready (rs := [8, 10]) (by kernel_rfl) (by simp) ?_
    refine AllReadyH.cons rfl (fun K hK => ?_) (AllReadyH.cons rfl (fun K hK => ?_) AllReadyH.nil)
    · skip
      go_simp
      refine hK.out _ _ (by exact hHeld) (fun hHeld => ?_)
      clear hK K
      refine take_one 10 (by kernel_rfl) rfl (fun K hK => ?_)
      go_simp
      (refine (l20AnyVer_any _ g a len cap _ D4.rd (by omega)).mono ?_; rintro e w5 ⟨v, rfl, hv4, hv16, hpast, hg5, h5⟩; have D5 := D4.kept hgw hpb hg5 h5; obtain ⟨cur5, hcg5⟩ := D5.row.cgs (by omega); have q5 := (hcg5.blk.at (yn * 2 + 1)).trans (hcg5.at' yn n HN.out).2; have q6 := ((hcg5.blk.more (.cells (verC v.k v.t v.u v.a v.ts.length v.c v.s v.g) 51)).at (yn * 2 + 1)).trans (hcg5.at' yn n HN.out).2; have HCG5 := hide hcg5; have HPA := hide hpast; have HR := hide (D5.row.own yn n HN.out).row; have z5 := hg5.size; clear hcg5 hpast)
      try go_wp2_with fail
      refine hK.out _ _ (by exact ⟨D5.box.at 0, D5.box⟩) (fun hHeld => ?_)
      clear hK K
      refine take_one 11 (by kernel_rfl) rfl (fun K hK => ?_)
      go_simp
      refine hK.out _ _ (by exact ⟨(D5.box.more _).at 0, D5.box.more _⟩) (fun hHeld => ?_)
      clear hK K
      refine take_one 12 (by kernel_rfl) rfl (fun K hK => ?_)
      (refine step_append_lies _ (by rfl) _ _ _ (by rfl) (w.heap.size + 1) 51 j0 _ 6 72 Tryz.underlying33 J0.out J1.out J2.out J3.out rfl (by omega) (.slice n.wa n.ws.length n.wc) n.ws.length (flat6 n.ws) (by rfl) (HR.out.alloc _) ⟨w5.heap.size, 0, none⟩ 1 1 (cells6 v) (by rfl) (by rfl) (World.news_of_block (cs := verC v.k v.t v.u v.a v.ts.length v.c v.s v.g) (t := 51) (fr := (0, 0)) (heap_alloc_new w5 _)) (by simp [cells6, Value.oneCell']) (by omega) (by unfold maxLen; omega) (by omega) (by have e : w3.drew.heap.size = w3.heap.size := rfl; simp; omega) _ rfl ?_; intro g2 cap2 w6 hown2 hgrow hat hlt2; have hbk := hgrow.block; have q7 := ((HCG5.out.blk.more (.cells (verC v.k v.t v.u v.a v.ts.length v.c v.s v.g) 51)).kept hgrow (by intro e; obtain ⟨cs, b1, _⟩ := (D5.row.own yn n HN.out).typed _ e; exact absurd (blk_one b1 HCG5.out.blk) (by decide))); have B7 := (D5.box.more (.cells (verC v.k v.t v.u v.a v.ts.length v.c v.s v.g) 51)).kept hgrow (by intro e; obtain ⟨cs, b1, _⟩ := (D5.row.own yn n HN.out).typed _ e; exact absurd (blk_one b1 D5.box) (by decide)); have c7 := (q7.at (yn * 2 + 1)).trans (HCG5.out.at' yn n HN.out).2; have f7 := q7.loose (yn * 2 + 1); have OW := hide hown2; have GW := hide hgrow; clear hown2 hat hbk)
      simp only [List.getElem_toArray, List.getElem_cons_zero, List.getElem_cons_succ, Act.put, List.setIfInBounds_toArray, List.set_cons_zero, List.set_cons_succ]
      refine hK.out _ _ (by exact ⟨B7.at 0, B7⟩) (fun hHeld => ?_)
      clear hK K
      refine take_run 13 (some 38) (v := ?_) rfl rfl (by kernel_rfl) (by kernel_rfl) (by kernel_rfl) (fun _ _ _ h => h) (by rfl) ?_ hHeld ?_
      rotate_left
      · ((intro w hSw); (try dsimp only at hSw); go_simp <;> with_reducible rfl)
      simp only [Act.put, List.setIfInBounds_toArray, List.set_cons_zero, List.set_cons_succ]
      refine take_run 14 (some 39) (v := ?_) rfl rfl (by kernel_rfl) (by kernel_rfl) (by kernel_rfl) (fun _ _ _ h => h) (by rfl) ?_ hHeld ?_
      rotate_left
      · ((intro w hSw); (try dsimp only at hSw); go_simp <;> with_reducible rfl)
      simp only [Act.put, List.setIfInBounds_toArray, List.set_cons_zero, List.set_cons_succ]
      refine take_one 15 (by kernel_rfl) rfl (fun K hK => ?_)
      go_simp
      refine hK.out _ _ (by exact ⟨(B7.aside (by simp only; omega) _).at 0, B7.aside (by simp only; omega) _⟩) (fun hHeld => ?_)
      clear hK K
      refine wpAnyH_done (by kernel_rfl) ?_ _
      refine NoPanic.normal ?_
      have hz3 : w3.drew.heap.size = w3.heap.size := rfl
      have B9 := B7.aside (p := ⟨G, yn * 2 + 1, none⟩) (by simp only; omega) (.slice (some ⟨g2, 0, none⟩) (n.ws.length + 1) cap2)
      have GA := D5.grown.trans (grown_none (row := some g) (below_alloc1 w5 (.cells (verC v.k v.t v.u v.a v.ts.length v.c v.s v.g) 51)))
      have TA := Turn.of (P := fun y => (Value.slice n.wa n.ws.length n.wc).ownBlock = some y) GW.out (fun y e => e)
      have GB := grown_turnP GA TA (fun y e => by have := hW.out y e; omega)
      have RB := (D5.rd.alloc (.cells (verC v.k v.t v.u v.a v.ts.length v.c v.s v.g) 51)).turnedP HBY.out GB TA (fun e => by have := hW.out _ e; omega)
      have R7 := (D5.res.more (.cells (verC v.k v.t v.u v.a v.ts.length v.c v.s v.g) 51)).turned TA (fun e => by have := hW.out _ e; omega)
      have R9 := R7.aside (p := ⟨G, yn * 2 + 1, none⟩) (by simp only; omega) (.slice (some ⟨g2, 0, none⟩) (n.ws.length + 1) cap2)
      have HC9 := hide ((D5.row.on (below_alloc1 w5 (.cells (verC v.k v.t v.u v.a v.ts.length v.c v.s v.g) 51))).anyWait (lo := w.heap.size + 1) (g := g) (B0 := w3.drew.heap.size) HN.out (Nat.le_refl _) (by omega) (by omega) (fun y e => (hW.out y e).2) (by omega) (HPA.out.on (below_alloc1 w5 _)) OW.out GW.out)
      have HG9 := hide (grown_set GB (p := ⟨G, yn * 2 + 1, none⟩) (by simp only; omega) (.slice (some ⟨g2, 0, none⟩) (n.ws.length + 1) cap2))
      have HR9 := hide (RB.set HBY.out hgw GB (p := ⟨G, yn * 2 + 1, none⟩) (by simp only; omega) (.slice (some ⟨g2, 0, none⟩) (n.ws.length + 1) cap2))
      have hfn := (fewN_of D5.sh).2 n (List.mem_of_getElem? HN.out)
      have HF9 := hide (fewN_set (k := yn) (n := ⟨n.sa, n.sc, n.ss, some ⟨g2, 0, none⟩, cap2, n.ws ++ [v]⟩) (fewN_of D5.sh) ⟨hfn.1, by simp only [List.length_append, List.length_singleton]; omega, fun x hx => by
        rw [List.mem_append, List.mem_singleton] at hx
        rcases hx with hx | rfl
        · exact hfn.2.2 x hx
        · exact ⟨hv4, hv16⟩⟩)
      have k9 := B9.one.1
      have r9 := R9.one
      clear hHeld D4 D5 B7 B9 R7 R9 q3 q5 q6 q7 c7 f7 hg5 h5 GA TA GB RB hfn hgrow
      go_wp2
      refine bodyPost_ret (v := .agg #[.slice (some ⟨G, 0, none⟩) us.length xc]) (by simp [results, Tryz.results30, go_sem, r9]) rfl ?_
      have F := drawnC_fin (m := m) (d := 800) (c := xc) hgw HBY.out HF9.out HC9.out HG9.out HR9.out (by omega) hm (.slice (some ⟨G, 0, none⟩) us.length xc)
      rw [List.length_set] at F
      exact F
    · skip
      go_simp
      (refine (l20AnyVer_any _ g a len cap _ D4.rd (by omega)).mono ?_; rintro e w5 ⟨v, rfl, hv4, hv16, hpast, hg5, h5⟩; have D5 := D4.kept hgw hpb hg5 h5; obtain ⟨cur5, hcg5⟩ := D5.row.cgs (by omega); have q5 := (hcg5.blk.at (yn * 2 + 1)).trans (hcg5.at' yn n HN.out).2; have q6 := ((hcg5.blk.more (.cells (verC v.k v.t v.u v.a v.ts.length v.c v.s v.g) 51)).at (yn * 2 + 1)).trans (hcg5.at' yn n HN.out).2; have HCG5 := hide hcg5; have HPA := hide hpast; have HR := hide (D5.row.own yn n HN.out).row; have z5 := hg5.size; clear hcg5 hpast)
      try go_wp2_with fail
      refine hK.out _ _ (by exact ⟨D5.box.at 0, D5.box⟩) (fun hHeld => ?_)
      clear hK K
      refine wpAnyH_ready (rs := [8, 11]) (by kernel_rfl) (by simp) ?_
      refine AllReadyH.cons rfl (fun K hK => ?_) (AllReadyH.cons rfl (fun K hK => ?_) AllReadyH.nil)
      · skip
        go_simp
        refine hK.out _ _ (by exact hHeld) (fun hHeld => ?_)
        clear hK K
        refine take_one 11 (by kernel_rfl) rfl (fun K hK => ?_)
        go_simp
        refine hK.out _ _ (by exact ⟨(D5.box.more _).at 0, D5.box.more _⟩) (fun hHeld => ?_)
        clear hK K
        refine take_one 12 (by kernel_rfl) rfl (fun K hK => ?_)
        (refine step_append_lies _ (by rfl) _ _ _ (by rfl) (w.heap.size + 1) 51 j0 _ 6 72 Tryz.underlying33 J0.out J1.out J2.out J3.out rfl (by omega) (.slice n.wa n.ws.length n.wc) n.ws.length (flat6 n.ws) (by rfl) (HR.out.alloc _) ⟨w5.heap.size, 0, none⟩ 1 1 (cells6 v) (by rfl) (by rfl) (World.news_of_block (cs := verC v.k v.t v.u v.a v.ts.length v.c v.s v.g) (t := 51) (fr := (0, 0)) (heap_alloc_new w5 _)) (by simp [cells6, Value.oneCell']) (by omega) (by unfold maxLen; omega) (by omega) (by have e : w3.drew.heap.size = w3.heap.size := rfl; simp; omega) _ rfl ?_; intro g2 cap2 w6 hown2 hgrow hat hlt2; have hbk := hgrow.block; have q7 := ((HCG5.out.blk.more (.cells (verC v.k v.t v.u v.a v.ts.length v.c v.s v.g) 51)).kept hgrow (by intro e; obtain ⟨cs, b1, _⟩ := (D5.row.own yn n HN.out).typed _ e; exact absurd (blk_one b1 HCG5.out.blk) (by decide))); have B7 := (D5.box.more (.cells (verC v.k v.t v.u v.a v.ts.length v.c v.s v.g) 51)).kept hgrow (by intro e; obtain ⟨cs, b1, _⟩ := (D5.row.own yn n HN.out).typed _ e; exact absurd (blk_one b1 D5.box) (by decide)); have c7 := (q7.at (yn * 2 + 1)).trans (HCG5.out.at' yn n HN.out).2; have f7 := q7.loose (yn * 2 + 1); have OW := hide hown2; have GW := hide hgrow; clear hown2 hat hbk)
        simp only [List.getElem_toArray, List.getElem_cons_zero, List.getElem_cons_succ, Act.put, List.setIfInBounds_toArray, List.set_cons_zero, List.set_cons_succ]
        refine hK.out _ _ (by exact ⟨B7.at 0, B7⟩) (fun hHeld => ?_)
        clear hK K
        refine take_run 13 (some 38) (v := ?_) rfl rfl (by kernel_rfl) (by kernel_rfl) (by kernel_rfl) (fun _ _ _ h => h) (by rfl) ?_ hHeld ?_
        rotate_left
        · ((intro w hSw); (try dsimp only at hSw); go_simp <;> with_reducible rfl)
        simp only [Act.put, List.setIfInBounds_toArray, List.set_cons_zero, List.set_cons_succ]
        refine take_run 14 (some 39) (v := ?_) rfl rfl (by kernel_rfl) (by kernel_rfl) (by kernel_rfl) (fun _ _ _ h => h) (by rfl) ?_ hHeld ?_
        rotate_left
        · ((intro w hSw); (try dsimp only at hSw); go_simp <;> with_reducible rfl)
        simp only [Act.put, List.setIfInBounds_toArray, List.set_cons_zero, List.set_cons_succ]
        refine take_one 15 (by kernel_rfl) rfl (fun K hK => ?_)
        go_simp
        refine hK.out _ _ (by exact ⟨(B7.aside (by simp only; omega) _).at 0, B7.aside (by simp only; omega) _⟩) (fun hHeld => ?_)
        clear hK K
        refine wpAnyH_done (by kernel_rfl) ?_ _
        refine NoPanic.normal ?_
        have hz3 : w3.drew.heap.size = w3.heap.size := rfl
        have B9 := B7.aside (p := ⟨G, yn * 2 + 1, none⟩) (by simp only; omega) (.slice (some ⟨g2, 0, none⟩) (n.ws.length + 1) cap2)
        have GA := D5.grown.trans (grown_none (row := some g) (below_alloc1 w5 (.cells (verC v.k v.t v.u v.a v.ts.length v.c v.s v.g) 51)))
        have TA := Turn.of (P := fun y => (Value.slice n.wa n.ws.length n.wc).ownBlock = some y) GW.out (fun y e => e)
        have GB := grown_turnP GA TA (fun y e => by have := hW.out y e; omega)
        have RB := (D5.rd.alloc (.cells (verC v.k v.t v.u v.a v.ts.length v.c v.s v.g) 51)).turnedP HBY.out GB TA (fun e => by have := hW.out _ e; omega)
        have R7 := (D5.res.more (.cells (verC v.k v.t v.u v.a v.ts.length v.c v.s v.g) 51)).turned TA (fun e => by have := hW.out _ e; omega)
        have R9 := R7.aside (p := ⟨G, yn * 2 + 1, none⟩) (by simp only; omega) (.slice (some ⟨g2, 0, none⟩) (n.ws.length + 1) cap2)
        have HC9 := hide ((D5.row.on (below_alloc1 w5 (.cells (verC v.k v.t v.u v.a v.ts.length v.c v.s v.g) 51))).anyWait (lo := w.heap.size + 1) (g := g) (B0 := w3.drew.heap.size) HN.out (Nat.le_refl _) (by omega) (by omega) (fun y e => (hW.out y e).2) (by omega) (HPA.out.on (below_alloc1 w5 _)) OW.out GW.out)
        have HG9 := hide (grown_set GB (p := ⟨G, yn * 2 + 1, none⟩) (by simp only; omega) (.slice (some ⟨g2, 0, none⟩) (n.ws.length + 1) cap2))
        have HR9 := hide (RB.set HBY.out hgw GB (p := ⟨G, yn * 2 + 1, none⟩) (by simp only; omega) (.slice (some ⟨g2, 0, none⟩) (n.ws.length + 1) cap2))
        have hfn := (fewN_of D5.sh).2 n (List.mem_of_getElem? HN.out)
        have HF9 := hide (fewN_set (k := yn) (n := ⟨n.sa, n.sc, n.ss, some ⟨g2, 0, none⟩, cap2, n.ws ++ [v]⟩) (fewN_of D5.sh) ⟨hfn.1, by simp only [List.length_append, List.length_singleton]; omega, fun x hx => by
          rw [List.mem_append, List.mem_singleton] at hx
          rcases hx with hx | rfl
          · exact hfn.2.2 x hx
          · exact ⟨hv4, hv16⟩⟩)
        have k9 := B9.one.1
        have r9 := R9.one
        clear hHeld D4 D5 B7 B9 R7 R9 q3 q5 q6 q7 c7 f7 hg5 h5 GA TA GB RB hfn hgrow
        go_wp2
        refine bodyPost_ret (v := .agg #[.slice (some ⟨G, 0, none⟩) us.length xc]) (by simp [results, Tryz.results30, go_sem, r9]) rfl ?_
        have F := drawnC_fin (m := m) (d := 800) (c := xc) hgw HBY.out HF9.out HC9.out HG9.out HR9.out (by omega) hm (.slice (some ⟨G, 0, none⟩) us.length xc)
        rw [List.length_set] at F
        exact F
      · skip
        go_simp
        refine hK.out _ _ (by exact ⟨(D5.box.more _).at 0, D5.box.more _⟩) (fun hHeld => ?_)
        clear hK K
        refine take_one 8 (by kernel_rfl) rfl (fun K hK => ?_)
        go_simp
        refine hK.out _ _ (by exact hHeld) (fun hHeld => ?_)
        clear hK K
        refine take_one 12 (by kernel_rfl) rfl (fun K hK => ?_)
        (refine step_append_lies _ (by rfl) _ _ _ (by rfl) (w.heap.size + 1) 51 j0 _ 6 72 Tryz.underlying33 J0.out J1.out J2.out J3.out rfl (by omega) (.slice n.wa n.ws.length n.wc) n.ws.length (flat6 n.ws) (by rfl) (HR.out.alloc _) ⟨w5.heap.size, 0, none⟩ 1 1 (cells6 v) (by rfl) (by rfl) (World.news_of_block (cs := verC v.k v.t v.u v.a v.ts.length v.c v.s v.g) (t := 51) (fr := (0, 0)) (heap_alloc_new w5 _)) (by simp [cells6, Value.oneCell']) (by omega) (by unfold maxLen; omega) (by omega) (by have e : w3.drew.heap.size = w3.heap.size := rfl; simp; omega) _ rfl ?_; intro g2 cap2 w6 hown2 hgrow hat hlt2; have hbk := hgrow.block; have q7 := ((HCG5.out.blk.more (.cells (verC v.k v.t v.u v.a v.ts.length v.c v.s v.g) 51)).kept hgrow (by intro e; obtain ⟨cs, b1, _⟩ := (D5.row.own yn n HN.out).typed _ e; exact absurd (blk_one b1 HCG5.out.blk) (by decide))); have B7 := (D5.box.more (.cells (verC v.k v.t v.u v.a v.ts.length v.c v.s v.g) 51)).kept hgrow (by intro e; obtain ⟨cs, b1, _⟩ := (D5.row.own yn n HN.out).typed _ e; exact absurd (blk_one b1 D5.box) (by decide)); have c7 := (q7.at (yn * 2 + 1)).trans (HCG5.out.at' yn n HN.out).2; have f7 := q7.loose (yn * 2 + 1); have OW := hide hown2; have GW := hide hgrow; clear hown2 hat hbk)
        simp only [List.getElem_toArray, List.getElem_cons_zero, List.getElem_cons_succ, Act.put, List.setIfInBounds_toArray, List.set_cons_zero, List.set_cons_succ]
        refine hK.out _ _ (by exact ⟨B7.at 0, B7⟩) (fun hHeld => ?_)
        clear hK K
        refine take_run 13 (some 38) (v := ?_) rfl rfl (by kernel_rfl) (by kernel_rfl) (by kernel_rfl) (fun _ _ _ h => h) (by rfl) ?_ hHeld ?_
        rotate_left
        · ((intro w hSw); (try dsimp only at hSw); go_simp <;> with_reducible rfl)
        simp only [Act.put, List.setIfInBounds_toArray, List.set_cons_zero, List.set_cons_succ]
        refine take_run 14 (some 39) (v := ?_) rfl rfl (by kernel_rfl) (by kernel_rfl) (by kernel_rfl) (fun _ _ _ h => h) (by rfl) ?_ hHeld ?_
        rotate_left
        · ((intro w hSw); (try dsimp only at hSw); go_simp <;> with_reducible rfl)
        simp only [Act.put, List.setIfInBounds_toArray, List.set_cons_zero, List.set_cons_succ]
        refine take_one 15 (by kernel_rfl) rfl (fun K hK => ?_)
        go_simp
        refine hK.out _ _ (by exact ⟨(B7.aside (by simp only; omega) _).at 0, B7.aside (by simp only; omega) _⟩) (fun hHeld => ?_)
        clear hK K
        refine wpAnyH_done (by kernel_rfl) ?_ _
        refine NoPanic.normal ?_
        have hz3 : w3.drew.heap.size = w3.heap.size := rfl
        have B9 := B7.aside (p := ⟨G, yn * 2 + 1, none⟩) (by simp only; omega) (.slice (some ⟨g2, 0, none⟩) (n.ws.length + 1) cap2)
        have GA := D5.grown.trans (grown_none (row := some g) (below_alloc1 w5 (.cells (verC v.k v.t v.u v.a v.ts.length v.c v.s v.g) 51)))
        have TA := Turn.of (P := fun y => (Value.slice n.wa n.ws.length n.wc).ownBlock = some y) GW.out (fun y e => e)
        have GB := grown_turnP GA TA (fun y e => by have := hW.out y e; omega)
        have RB := (D5.rd.alloc (.cells (verC v.k v.t v.u v.a v.ts.length v.c v.s v.g) 51)).turnedP HBY.out GB TA (fun e => by have := hW.out _ e; omega)
        have R7 := (D5.res.more (.cells (verC v.k v.t v.u v.a v.ts.length v.c v.s v.g) 51)).turned TA (fun e => by have := hW.out _ e; omega)
        have R9 := R7.aside (p := ⟨G, yn * 2 + 1, none⟩) (by simp only; omega) (.slice (some ⟨g2, 0, none⟩) (n.ws.length + 1) cap2)
        have HC9 := hide ((D5.row.on (below_alloc1 w5 (.cells (verC v.k v.t v.u v.a v.ts.length v.c v.s v.g) 51))).anyWait (lo := w.heap.size + 1) (g := g) (B0 := w3.drew.heap.size) HN.out (Nat.le_refl _) (by omega) (by omega) (fun y e => (hW.out y e).2) (by omega) (HPA.out.on (below_alloc1 w5 _)) OW.out GW.out)
        have HG9 := hide (grown_set GB (p := ⟨G, yn * 2 + 1, none⟩) (by simp only; omega) (.slice (some ⟨g2, 0, none⟩) (n.ws.length + 1) cap2))
        have HR9 := hide (RB.set HBY.out hgw GB (p := ⟨G, yn * 2 + 1, none⟩) (by simp only; omega) (.slice (some ⟨g2, 0, none⟩) (n.ws.length + 1) cap2))
        have hfn := (fewN_of D5.sh).2 n (List.mem_of_getElem? HN.out)
        have HF9 := hide (fewN_set (k := yn) (n := ⟨n.sa, n.sc, n.ss, some ⟨g2, 0, none⟩, cap2, n.ws ++ [v]⟩) (fewN_of D5.sh) ⟨hfn.1, by simp only [List.length_append, List.length_singleton]; omega, fun x hx => by
          rw [List.mem_append, List.mem_singleton] at hx
          rcases hx with hx | rfl
          · exact hfn.2.2 x hx
          · exact ⟨hv4, hv16⟩⟩)
        have k9 := B9.one.1
        have r9 := R9.one
        clear hHeld D4 D5 B7 B9 R7 R9 q3 q5 q6 q7 c7 f7 hg5 h5 GA TA GB RB hfn hgrow
        go_wp2
        refine bodyPost_ret (v := .agg #[.slice (some ⟨G, 0, none⟩) us.length xc]) (by simp [results, Tryz.results30, go_sem, r9]) rfl ?_
        have F := drawnC_fin (m := m) (d := 800) (c := xc) hgw HBY.out HF9.out HC9.out HG9.out HR9.out (by omega) hm (.slice (some ⟨G, 0, none⟩) us.length xc)
        rw [List.length_set] at F
        exact F
  have hb1 : (x == 1) = false := by simpa using hx1
  by_cases hx2 : x = 2
  · subst hx2
    have k3 := HD3.out.box.one
    have B9 := HD3.out.box.put 0 (.slice (some ⟨G, 0, none⟩) yn xc)
    simp only [List.setIfInBounds_toArray, List.set_cons_zero] at B9
    have R9 := HD3.out.res.aside (p := ⟨pb, 0, none⟩) (by simp only; omega) (.slice (some ⟨G, 0, none⟩) yn xc)
    have HC9 := hide ((HD3.out.row.asideT (p := ⟨pb, 0, none⟩) HD3.out.box (.slice (some ⟨G, 0, none⟩) yn xc)).cgIn (lo := w.heap.size + 1) (g := g) (Nat.le_refl _) (by omega))
    have HG9 := hide (grown_set HD3.out.grown (p := ⟨pb, 0, none⟩) (by simp only; omega) (.slice (some ⟨G, 0, none⟩) yn xc))
    have HR9 := hide (HD3.out.rd.set HBY.out hgw HD3.out.grown (p := ⟨pb, 0, none⟩) (by simp only; omega) (.slice (some ⟨G, 0, none⟩) yn xc))
    have k9 := B9.one.1
    have r9 := R9.one
    clear B9 R9
    go_wp2
    refine bodyPost_ret (v := .agg #[.slice (some ⟨G, 0, none⟩) yn xc]) (by simp [results, Tryz.results30, go_sem, r9]) rfl ?_
    have F := drawnC_fin (m := m) (d := 800) (c := xc) hgw HBY.out ((fewN_of HD3.out.sh).take yn) (HC9.out.take yn) HG9.out HR9.out (by omega) hm (.slice (some ⟨G, 0, none⟩) yn xc)
    have hl : (us.take yn).length = yn := by rw [List.length_take]; omega
    rw [hl] at F
    exact F
  have hb2 : (x == 2) = false := by simpa using hx2
  have k9 := HD3.out.box.one.1
  have r9 := HD3.out.res.one
  go_wp2
  refine bodyPost_ret (v := .agg #[.slice (some ⟨G, 0, none⟩) us.length xc]) (by simp [results, Tryz.results30, go_sem, r9]) rfl ?_
  exact drawnC_fin (m := m) (d := 800) (c := xc) hgw HBY.out (fewN_of HD3.out.sh) (HD3.out.row.cgIn (lo := w.heap.size + 1) (g := g) (Nat.le_refl _) (by omega)) HD3.out.grown HD3.out.rd (by omega) hm _
end Go.Proofs.YtjnloillcgeodaaGreat
/- Contracts of the draws for the promises on stores, whatever the code. Condition: at most 1048576 bytes. -/
namespace Go.Proofs.YtjnloillcgeodaaGreat
open Go.RowKit Go.Joins
attribute [local go_sem ↓] Go.wp_at_zero Go.wp_at_succ

/-- What is drawn: a store and a version. -/
def StoreVer (w : World) (e : Ending) (w' : World) : Prop :=
  ∃ (a : Option Addr) (c : Nat) (vs : List V) (v : V), e = .returned (.tuple #[.agg #[.slice a vs.length c], .agg (verC v.k v.t v.u v.a v.ts.length v.c v.s v.g)]) ∧ vs.length ≤ 4 ∧ FewV vs ∧ v.ts.length ≤ 4 ∧ v.s.size ≤ 16 ∧ Vg w' w'.heap.size a vs ∧ Tg w' w'.heap.size v.a v.ts ∧ Below w.heap.size w w'
/-- What is drawn: two stores. -/
def TwoStores (w : World) (e : Ending) (w' : World) : Prop :=
  ∃ (a a2 : Option Addr) (c c2 : Nat) (vs us : List V), e = .returned (.tuple #[.agg #[.slice a vs.length c], .agg #[.slice a2 us.length c2]]) ∧ vs.length ≤ 4 ∧ FewV vs ∧ us.length ≤ 4 ∧ FewV us ∧ Vg w' w'.heap.size a vs ∧ Vg w' w'.heap.size a2 us ∧ Below w.heap.size w w'
theorem VgIn.aside6 {w : World} {lo g b : Nat} {a : Option Addr} {vs : List V} (h : VgIn w lo g a vs) (hp : b < lo) (x0 x1 x2 x3 x4 x5 : Value) : VgIn ((((((w.setCell ⟨b, 0, none⟩ x0).setCell ⟨b, 1, none⟩ x1).setCell ⟨b, 2, none⟩ x2).setCell ⟨b, 3, none⟩ x3).setCell ⟨b, 4, none⟩ x4).setCell ⟨b, 5, none⟩ x5) lo g a vs :=
  (((((h.aside (p := ⟨b, 0, none⟩) hp _).aside (p := ⟨b, 1, none⟩) hp _).aside (p := ⟨b, 2, none⟩) hp _).aside (p := ⟨b, 3, none⟩) hp _).aside (p := ⟨b, 4, none⟩) hp _).aside (p := ⟨b, 5, none⟩) hp _
theorem PastIn.aside6 {w : World} {lo g b : Nat} {a : Option Addr} {ts : List (Int × Int)} (h : PastIn w lo g a ts) (hp : b < lo) (x0 x1 x2 x3 x4 x5 : Value) : PastIn ((((((w.setCell ⟨b, 0, none⟩ x0).setCell ⟨b, 1, none⟩ x1).setCell ⟨b, 2, none⟩ x2).setCell ⟨b, 3, none⟩ x3).setCell ⟨b, 4, none⟩ x4).setCell ⟨b, 5, none⟩ x5) lo g a ts :=
  (((((h.aside1 (p := ⟨b, 0, none⟩) hp _).aside1 (p := ⟨b, 1, none⟩) hp _).aside1 (p := ⟨b, 2, none⟩) hp _).aside1 (p := ⟨b, 3, none⟩) hp _).aside1 (p := ⟨b, 4, none⟩) hp _).aside1 (p := ⟨b, 5, none⟩) hp _

end Go.Proofs.YtjnloillcgeodaaGreat
/- Contracts of the draws for the promises on chains, whatever the code. Condition: at most 1048576 bytes. -/
namespace Go.Proofs.YtjnloillcgeodaaGreat
open Go.RowKit Go.Joins
attribute [local go_sem ↓] Go.wp_at_zero Go.wp_at_succ

/-- What is drawn: a chain and a version. -/
def ChainVer (w : World) (e : Ending) (w' : World) : Prop :=
  ∃ (A : Option Addr) (c : Nat) (ns : List Nd) (v : V), e = .returned (.tuple #[.agg #[.slice A ns.length c], .agg (verC v.k v.t v.u v.a v.ts.length v.c v.s v.g)]) ∧ FewN ns ∧ v.ts.length ≤ 4 ∧ v.s.size ≤ 16 ∧ CgA w' A ns ∧ Tg w' w'.heap.size v.a v.ts ∧ (v.ts.length = 4 → Own1 w' 0 w'.heap.size v) ∧ Below w.heap.size w w'
/-- What is drawn: a chain and a number. -/
def ChainInt (w : World) (e : Ending) (w' : World) : Prop :=
  ∃ (A : Option Addr) (c : Nat) (ns : List Nd) (k : Int), e = .returned (.tuple #[.agg #[.slice A ns.length c], .int .i64 k]) ∧ FewN ns ∧ CgA w' A ns ∧ Below w.heap.size w w'
theorem CgIn.aside6 {w : World} {lo g b : Nat} {A : Option Addr} {ns : List Nd} (h : CgIn w lo g A ns) (hp : b < lo) (x0 x1 x2 x3 x4 x5 : Value) : CgIn ((((((w.setCell ⟨b, 0, none⟩ x0).setCell ⟨b, 1, none⟩ x1).setCell ⟨b, 2, none⟩ x2).setCell ⟨b, 3, none⟩ x3).setCell ⟨b, 4, none⟩ x4).setCell ⟨b, 5, none⟩ x5) lo g A ns :=
  (((((h.aside (p := ⟨b, 0, none⟩) hp _).aside (p := ⟨b, 1, none⟩) hp _).aside (p := ⟨b, 2, none⟩) hp _).aside (p := ⟨b, 3, none⟩) hp _).aside (p := ⟨b, 4, none⟩) hp _).aside (p := ⟨b, 5, none⟩) hp _
/-- What is drawn: a chain. -/
def ChainOne (w : World) (e : Ending) (w' : World) : Prop :=
  ∃ (A : Option Addr) (c : Nat) (ns : List Nd), e = .returned (.agg #[.slice A ns.length c]) ∧ FewN ns ∧ CgA w' A ns ∧ Below w.heap.size w w'
end Go.Proofs.YtjnloillcgeodaaGreat
/- Whether two versions, two stores are the same, as the promises compare them: of such as are. Condition: what is said of each. -/
namespace Go.Proofs.YtjnloillcgeodaaGreat
open Go.RowKit Go.Joins
attribute [local go_sem ↓] Go.wp_at_zero Go.wp_at_succ

set_option maxRecDepth 100000 in
set_option maxHeartbeats 2000000 in
theorem cfVer_same (k t u : Int) (a a' : Option Addr) (c c' : Nat) (ts : List (Int × Int)) (s : ByteArray) (b : Bool) (w : World) (hn : ts.length ≤ 1048576) (ht : Tg w w.heap.size a ts) (hu : Tg w w.heap.size a' ts) :
    Calls Tryz.prog 22 #[.agg (verC k t u a ts.length c s b), .agg (verC k t u a' ts.length c' s b)] w fun e w' => e = .returned (.bool true) ∧ Below w.heap.size w w' := by
  have S0 := ((Inv.start w).box 51 (verC k t u a ts.length c s b)).box 51 (verC k t u a' ts.length c' s b)
  simp only [World.size_alloc] at S0
  have q0 := (S0.nth 0 rfl).six.1
  have q1 := (S0.nth 1 rfl).six.1
  go_enter Tryz.func22, Tryz.ntmps22
  go_wp2_with fail
  refine (cfPast_any a a' c c' ts ts _ hn hn ((ht.on S0.below).up S0.base) ((hu.on S0.below).up S0.base)).mono ?_
  rw [decide_eq_true rfl]
  rintro e w1 ⟨rfl, hb1⟩
  have S1 := S0.on hb1
  have k0 := (S1.nth 0 rfl).six.1
  have k1 := (S1.nth 1 rfl).six.1
  clear S0 q0 q1 hb1 ht hu
  go_wp2
  go_ret
  exact ⟨rfl, S1.below⟩
end Go.Proofs.YtjnloillcgeodaaGreat
/- Whether two slices of versions, two chains are the same, as the promises compare them: of such as are; and the draw of a number of nodes. Condition: what is said of each. -/
namespace Go.Proofs.YtjnloillcgeodaaGreat
open Go.RowKit Go.Joins
attribute [local go_sem ↓] Go.wp_at_zero Go.wp_at_succ

end Go.Proofs.YtjnloillcgeodaaGreat
/- Whether two chains are the same, as the promises compare them: of such as are, wherever they lie. Condition: what is said of each. -/
namespace Go.Proofs.YtjnloillcgeodaaGreat
open Go.RowKit Go.Joins
attribute [local go_sem ↓] Go.wp_at_zero Go.wp_at_succ

end Go.Proofs.YtjnloillcgeodaaGreat
/- Contracts of the functions that compare vectors of tags, in the program and in the model. Condition: at most 1048576 tags. -/
namespace Go.Proofs.YtjnloillcgeodaaGreat
open Go.RowKit Go.Joins
attribute [local go_sem ↓] Go.wp_at_zero Go.wp_at_succ

/-- Whether no tag of the first list is later than the other's at its place. -/
def withinB (ts us : List (Int × Int)) : Bool := (ts.zip us).all fun p => !lessB p.2.1 p.2.2 p.1.1 p.1.2
/-- Up to place k none is later. -/
def NoLater (ts us : List (Int × Int)) (k : Nat) : Prop := ∀ (j : Nat) (x y : Int × Int), j < k → ts[j]? = some x → us[j]? = some y → lessB y.1 y.2 x.1 x.2 = false
/-- What PastWithin answers. -/
def pwB (ts us : List (Int × Int)) : Bool := pastB ts && pastB us && withinB ts us
end Go.Proofs.YtjnloillcgeodaaGreat
/- Plain facts on vectors: within, joined, the same. -/
namespace Go.Proofs.YtjnloillcgeodaaGreat

end Go.Proofs.YtjnloillcgeodaaGreat
/- Plain facts on vectors that are joined. -/
namespace Go.Proofs.YtjnloillcgeodaaGreat

end Go.Proofs.YtjnloillcgeodaaGreat
/- Plain facts on stores that are added to and joined. -/
namespace Go.Proofs.YtjnloillcgeodaaGreat

/-- The later one of two versions. -/
def later (x y : V) : V := if lessB x.t x.u y.t y.u = true then y else x
theorem slot_own {i : Nat} {v : V} (h : slotB i v = true) (ht : 0 < v.t) : v.k = i := by
  have hn : noneC v.k v.t v.u v.ts.length v.s v.g = false := noneC_f (.inr (.inl (by omega)))
  apply Classical.byContradiction
  intro hk
  rw [slotB_key hn hk] at h
  cases h
theorem ver_key {v : V} (h : verV v = true) : 0 ≤ v.k ∧ v.k ≤ 3 := by
  apply Classical.byContradiction
  intro hn
  unfold verV at h
  rw [verB_f (.inl hn)] at h
  cases h
end Go.Proofs.YtjnloillcgeodaaGreat
/- A version that comes to a valid chain, or is passed on in one, leaves it valid; what all nodes have is no less. No condition. -/
namespace Go.Proofs.YtjnloillcgeodaaGreat
open Go.RowKit Go.Joins

theorem walkL_cons (us r : List V) (v : V) : walkL us (v :: r) = (stepL us v).bind fun us => walkL us r := by
  unfold walkL
  rw [List.foldl_cons]
  cases h : stepL us v with
  | none =>
    show r.foldl _ (stepL us v) = none
    rw [h]
    exact walk_none r
  | some x =>
    show r.foldl _ (stepL us v) = _
    rw [h]
    rfl
theorem linkB_parts {n m : Nd} (h : linkB n m = true) : ∃ us, walkL m.ss n.ws = some us ∧ LL us n.ss := by
  unfold linkB at h
  split at h
  · rename_i us hu
    exact ⟨us, hu, (likesB_ll _ _).1 h⟩
  · cases h
theorem linkB_mk {n m : Nd} {us : List V} (h : walkL m.ss n.ws = some us) (hl : LL us n.ss) : linkB n m = true := by
  rw [linkB_some h]
  exact (likesB_ll _ _).2 hl
theorem link_tail {n m : Nd} (h : linkB n m = true) : ∀ m', m'.ss = m.ss → linkB n m' = true := fun m' e => by
  obtain ⟨us, hu, hl⟩ := linkB_parts h
  exact linkB_mk (us := us) (by rw [e]; exact hu) hl
/-- The two halves of what a step asks. -/
theorem stepB_link {ns : List Nd} {k : Nat} {n m : Nd} (hn : ns[k]? = some n) (hm : ns[k + 1]? = some m) : stepB ns k = linkB n m := by unfold stepB; rw [hn, hm]
theorem stepB_end {ns : List Nd} {k : Nat} {n : Nd} (hn : ns[k]? = some n) (hm : ns[k + 1]? = none) : stepB ns k = decide (n.ws.length = 0) := by unfold stepB; rw [hn, hm]
/-- A chain, link by link. -/
theorem chain_link {ns : List Nd} {k : Nat} {n m : Nd} (h : chainB ns = true) (hn : ns[k]? = some n) (hm : ns[k + 1]? = some m) : linkB n m = true := by
  rw [← stepB_link hn hm]
  exact (chainB_parts h).2.2 k (List.getElem?_eq_some_iff.1 hn).1
theorem chain_end {ns : List Nd} {n : Nd} {k : Nat} (h : chainB ns = true) (hk : k + 1 = ns.length) (hn : ns[k]? = some n) : n.ws = [] := by
  have := (chainB_parts h).2.2 k (by omega)
  rw [stepB_end hn (List.getElem?_eq_none (by omega)), decide_eq_true_eq] at this
  exact List.length_eq_zero_iff.1 this
theorem chain_mk {ns : List Nd} (h0 : 1 ≤ ns.length ∧ ns.length ≤ 4) (h1 : ∀ (i : Nat) n, ns[i]? = some n → nodeB n = true) (h2 : ∀ (i : Nat) n m, ns[i]? = some n → ns[i + 1]? = some m → linkB n m = true) (h3 : ∀ (i : Nat) n, i + 1 = ns.length → ns[i]? = some n → n.ws = []) : chainB ns = true := by
  refine chainB_ok h0 h1 (fun i hi => ?_)
  obtain ⟨n, hn⟩ : ∃ n, ns[i]? = some n := ⟨_, List.getElem?_eq_getElem hi⟩
  by_cases e : i + 1 < ns.length
  · obtain ⟨m, hm⟩ : ∃ m, ns[i + 1]? = some m := ⟨_, List.getElem?_eq_getElem e⟩
    rw [stepB_link hn hm]
    exact h2 i n m hn hm
  · rw [stepB_end hn (List.getElem?_eq_none (by omega)), decide_eq_true_eq]
    rw [h3 i n (by omega) hn]
    rfl
theorem set_at {α : Type} {l : List α} {i j : Nat} {x y : α} (h : (l.set i x)[j]? = some y) : (j = i ∧ y = x ∧ i < l.length) ∨ (j ≠ i ∧ l[j]? = some y) := by
  by_cases e : j = i
  · subst e
    have hl : j < l.length := by have := (List.getElem?_eq_some_iff.1 h).1; rw [List.length_set] at this; exact this
    rw [List.getElem?_set_self hl] at h
    injection h with h
    exact .inl ⟨rfl, h.symm, hl⟩
  · rw [List.getElem?_set_ne (fun q => e q.symm)] at h
    exact .inr ⟨e, h⟩
end Go.Proofs.YtjnloillcgeodaaGreat
/- What the promises on chains share: drawn chains are small; the answers of the program and of the model are the same; cells of a chain's nodes. No condition. -/
namespace Go.Proofs.YtjnloillcgeodaaGreat
open Go.RowKit Go.Joins

theorem cgA_at {w : World} {A : Option Addr} {ns : List Nd} (h : CgA w A ns) (h0 : 1 ≤ ns.length) : ∃ G cur, A = some ⟨G, 0, none⟩ ∧ Cg w G ns cur := by
  rcases h with h | h
  · rw [h] at h0
    simp at h0
  · exact h
theorem small_ss {ns : List Nd} {i : Nat} {n : Nd} (h : SmN ns) (hi : ns[i]? = some n) : Small n.ss := (h i n hi).2.1
theorem fine_chain {ns : List Nd} (h : chainB ns = true) : FineN ns := ⟨(chainB_parts h).1.2, (chainB_parts h).2.1⟩
end Go.Proofs.YtjnloillcgeodaaGreat
