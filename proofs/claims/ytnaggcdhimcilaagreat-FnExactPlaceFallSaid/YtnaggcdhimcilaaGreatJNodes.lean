/- Contracts of the functions that gather a store's tags, in the program and in the model. Condition: a valid store. -/
import Derived.Test.YtnaggcdhimcilaaGreatJVerSame
import Derived.Test.YtnaggcdhimcilaaGreatJPastJoin2
import Derived.Deep.AppendLies
import Derived.Test.YtnaggcdhimcilaaGreatJVerCopy
namespace Go.Proofs.YtnaggcdhimcilaaGreat
open Go.RowKit Go.Joins
attribute [local go_sem ↓] Go.wp_at_zero Go.wp_at_succ

/-- The tags of these versions. -/
def tagsL (vs : List V) : List (Int × Int) := vs.map fun v => (v.t, v.u)
theorem tagsL_at {vs : List V} {k : Nat} {v : V} (h : vs[k]? = some v) : (tagsL vs)[k]? = some (v.t, v.u) := by unfold tagsL; rw [List.getElem?_map, h]; rfl
theorem tagsL_len (vs : List V) : (tagsL vs).length = vs.length := by unfold tagsL; simp
theorem storeB_four {vs : List V} (h : storeB vs = true) : vs.length = 4 := by
  apply Classical.byContradiction
  intro hn
  rw [storeB_len hn] at h
  cases h

set_option maxRecDepth 100000 in
set_option maxHeartbeats 2000000 in
theorem implStoreTags_ok (a : Option Addr) (c : Nat) (vs : List V) (w : World) (hok : storeB vs = true) (hm : Small vs) (hv : Vg w w.heap.size a vs) :
    Calls Tryz.prog 156 #[.agg #[.slice a 4 c]] w (JoinedP w (tagsL vs)) := by
  have h4 := storeB_four hok
  have H4 := hide h4
  have S0 := ((Inv.start w).box 88 #[.slice a 4 c]).box 94 #[.slice none 0 0]
  simp only [World.size_alloc] at S0
  have C0 := implStoreOk_any a c vs _ (by omega) hm ((hv.on S0.below).up S0.base)
  rw [h4, hok] at C0
  have HM := hide hm
  clear hm h4 hok
  go_enter Tryz.func156, Tryz.ntmps156
  go_wp2_with fail
  refine C0.mono ?_
  rintro e w1 ⟨rfl, hb1⟩
  have S1 := (S0.on hb1).alloc (.cells zero8 176)
  have hr1 := (S0.on hb1).top
  have hz1 : w.heap.size + 1 + 1 ≤ w1.heap.size := (S0.on hb1).room
  have V0 := Blk.made w1 176 zero8
  have k0 := (S1.nth 1 rfl).one.1
  have k9 := ((S0.on hb1).nth 1 rfl).one.1
  have hlt0 : w.heap.size < w1.heap.size := by omega
  have S2 := (hr1.box 176 zero8)
  clear S0 C0 hb1 hr1
  go_wp2
  go_loopw [13] (fun i wr => ∃ (k : Nat) (cur : Array Value), k ≤ 4 ∧ i = .int .i64 (k : Int) ∧ Blk wr w1.heap.size 176 cur ∧ cur.size = 8 ∧ Hid (∀ j x, j < k → (tagsL vs)[j]? = some x → TagAt cur j x) ∧ Inv w (w.heap.size + 1 + 1) [(w.heap.size + 1, 94, #[.slice none 0 0]), (w.heap.size, 88, #[.slice a 4 c])] wr) (fun i _ => 4 - (intOf i).toNat)
  case atStart => exact ⟨0, _, Nat.zero_le _, rfl, V0, rfl, fun j x hj => absurd hj (by omega), S1⟩
  case round =>
    obtain ⟨k, cur, hk, rfl, hV, hsz, hcur, hI⟩ := hrel
    clear S1 S2 V0 k0 k9
    have hL := hI.below
    by_cases hlt : k < 4
    · rcases hv with e0 | ⟨b, off, rfl, hb, hx⟩
      · have := H4.out; subst e0; simp at this
      · have hkl : k < vs.length := by have := H4.out; omega
        obtain ⟨hS, -⟩ := hx k _ (List.getElem?_eq_getElem hkl)
        have HX := hide (List.getElem?_eq_getElem hkl)
        have hS' := hS.keep hb fun _ hp => hL.cell hp
        generalize vs[k] = v at hS' HX
        have HS := hide (tagAt_step (ts := tagsL vs) (show k * 2 + 1 < cur.size by omega) (tagsL_at HX.out) hcur.out)
        obtain ⟨vk, vt, vu, va, vc, vts, vs', vg⟩ := v
        simp only at hS' HS
        clear hS hx hcur
        have i1 : (0 : Int) ≤ (k : Int) := by omega
        have i2 : (k : Int) < 4 := by omega
        have V1 := hV.more (.cells (verC vk vt vu va vts.length vc vs' vg) 96)
        have hin := hV.inside
        have hs0 : k * 2 < cur.size := by omega
        have hs1 : k * 2 + 1 < cur.size := by omega
        have d0 : wr.cell? ⟨w1.heap.size, k * 2, none⟩ = some cur[k * 2] := by rw [hV.at]; exact Array.getElem?_eq_getElem hs0
        have d1 : wr.cell? ⟨w1.heap.size, k * 2 + 1, none⟩ = some cur[k * 2 + 1] := by rw [hV.at]; exact Array.getElem?_eq_getElem hs1
        have f0 := hV.loose (k * 2)
        have f1 := hV.loose (k * 2 + 1)
        have d0' : (wr.alloc (.cells (verC vk vt vu va vts.length vc vs' vg) 96)).cell? ⟨w1.heap.size, k * 2, none⟩ = some cur[k * 2] := by rw [V1.at]; exact Array.getElem?_eq_getElem hs0
        have d1' : (wr.alloc (.cells (verC vk vt vu va vts.length vc vs' vg) 96)).cell? ⟨w1.heap.size, k * 2 + 1, none⟩ = some cur[k * 2 + 1] := by rw [V1.at]; exact Array.getElem?_eq_getElem hs1
        have f0' := V1.loose (k * 2)
        have f1' := V1.loose (k * 2 + 1)
        go_wp2
        exact ⟨⟨k + 1, _, by omega, by go_num, ((hV.put _ _).put _ _).more _, by simp [hsz], HS, ((hI.set (by simp only; omega) (by simp only; omega) _).set (by simp only; omega) (by simp only; omega) _).alloc _⟩, by simp [intOf]; omega⟩
    · have hk4 : k = 4 := by omega
      subst hk4
      clear hlt
      have hl4 : (tagsL vs).length = 4 := (tagsL_len vs).trans H4.out
      obtain ⟨x0, x1, x2, x3, hts, hcu⟩ := cur4 hsz hl4 (fun j x hx => hcur.out j x (by have := (List.getElem?_eq_some_iff.1 hx).1; omega) hx)
      have HT := hide hts
      clear hcur hts hl4
      subst hcu
      have E1 := hV.eight
      go_wp2_with fail
      refine (past_any x0 x1 x2 x3 wr).mono ?_
      rintro e w5 ⟨g, cap, T, cu, rfl, hg, hB, hsz5, hcu5, hb5⟩
      have I5 := hI.on hb5
      have q1 := (I5.nth 0 rfl).one
      have hL5 := I5.below
      have hwr := hI.room
      have HC := hide hcu5
      clear hcu5 hI I5 E1 hV
      go_wp2
      refine bodyPost_ret (v := .agg #[.slice (some ⟨g, 0, none⟩) 4 cap]) (by simp [results, Tryz.results156, go_sem, q1]) rfl ?_
      exact ⟨g, cap, T, cu, rfl, by omega, hB.aside (by simp; omega) _, hsz5, by rw [HT.out]; exact HC.out, hL5.setCell (by simp) _⟩

/-- What the round of gathering tags holds. -/
theorem theld {w w' : World} {n b off k c : Nat} {v : V} {T : TypeId} {q : Nat × TypeId × Array Value} (Q : Hid (Six w b (off + k * 6) v)) (hb : b < w.heap.size)
    (h : Inv w n [q, (w.heap.size, T, #[.slice (some ⟨b, off, none⟩) 4 c])] w') :
    w'.cell? ⟨b, off + k * 6 + 1, none⟩ = some (.int .i64 v.t) ∧ w'.cell? ⟨b, off + k * 6 + 2, none⟩ = some (.int .i64 v.u) ∧ w'.cell? ⟨w.heap.size, 0, none⟩ = some (.slice (some ⟨b, off, none⟩) 4 c) ∧ Inv w n [q, (w.heap.size, T, #[.slice (some ⟨b, off, none⟩) 4 c])] w' :=
  ⟨(h.below.cell (p := ⟨b, off + k * 6 + 1, none⟩) hb).trans Q.out.2.1, (h.below.cell (p := ⟨b, off + k * 6 + 2, none⟩) hb).trans Q.out.2.2.1, (h.nth 1 rfl).at 0, h⟩
set_option maxRecDepth 100000 in
set_option maxHeartbeats 2000000 in
theorem l2Tags_any (a : Option Addr) (c : Nat) (vs : List V) (w : World) (h4 : vs.length = 4) (hv : Vg w w.heap.size a vs) :
    Calls Tryz.prog 127 #[.agg #[.slice a 4 c]] w (JoinedP w (tagsL vs)) := by
  obtain ⟨i0, hi0, hz0, hz1, hz2⟩ := info_parts tag_info
  have I0 := hide hi0
  have I1 := hide hz0
  have I2 := hide hz1
  have I3 := hide hz2
  clear hi0 hz0 hz1 hz2
  have S0 := ((Inv.start w).box 88 #[.slice a 4 c]).box 94 #[.slice none 0 0]
  have V0 := Blk.made ((w.alloc (.cells #[.slice a 4 c] 88)).alloc (.cells #[.slice none 0 0] 94)) 94 #[.slice none 0 0]
  have S1 := S0.alloc (.cells #[.slice none 0 0] 94)
  simp only [World.size_alloc] at S1 V0
  clear S0
  have H4 := hide h4
  clear h4
  go_enter Tryz.func127, Tryz.ntmps127
  go_wp2
  go_loopw [4] (fun i wr => ∃ (k : Nat) (v : Value), k ≤ 4 ∧ i = .int .i64 (k : Int) ∧ Blk wr (w.heap.size + 1 + 1) 94 #[v] ∧ wr.ownsRow (w.heap.size + 1 + 1 + 1) 91 2 v k (flatT ((tagsL vs).take k)) ∧ w.heap.size + 1 + 1 + 1 ≤ wr.heap.size ∧ Inv w (w.heap.size + 1 + 1) [(w.heap.size + 1, 94, #[.slice none 0 0]), (w.heap.size, 88, #[.slice a 4 c])] wr) (fun i _ => 4 - (intOf i).toNat)
  case atStart => exact ⟨0, _, Nat.zero_le _, rfl, V0, ⟨by simp [flatT], .inl ⟨rfl, rfl⟩⟩, by simp, S1⟩
  case round =>
    obtain ⟨k, v, hk, rfl, hV, hO, hz, hI⟩ := hrel
    have HO := hide hO
    clear S1 V0 hO
    by_cases hlt : k < 4
    · rcases hv with h0 | ⟨b, off, rfl, hb, hx⟩
      · have := H4.out; subst h0; simp at this
      · have hkl : k < vs.length := by have := H4.out; omega
        obtain ⟨hS, -⟩ := hx k _ (List.getElem?_eq_getElem hkl)
        have HX := hide (List.getElem?_eq_getElem hkl)
        have Q := hide hS
        generalize vs[k] = vv at Q HX
        have HF := hide (flatT_take (tagsL_at HX.out))
        have jh := fun {w' : World} {n : Nat} {q : Nat × TypeId × Array Value} => theld (w := w) (w' := w') (n := n) (q := q) (c := c) (T := 88) Q hb
        obtain ⟨vk, vt, vu, va', vc', vts, vs', vg⟩ := vv
        simp only at jh HF
        clear hx hS
        have k0 := (hI.nth 1 rfl).one.1
        have i1 : (0 : Int) ≤ (k : Int) := by omega
        have i2 : (k : Int) < 4 := by omega
        have q0 := hV.one.1
        have hvf : ∃ (va : Option Addr) (vn vc : Nat), v = .slice va vn vc ∧ (∀ g, v.ownBlock = some g → w.heap.size + 1 + 1 + 1 ≤ g) := by
          rcases HO.out.2 with ⟨rfl, _⟩ | ⟨g, cap, cr, rfl, hg, _⟩
          · exact ⟨none, 0, 0, rfl, by simp [Value.ownBlock]⟩
          · exact ⟨some ⟨g, 0, none⟩, k, cap, rfl, by intro g' hg'; simp [Value.ownBlock] at hg'; omega⟩
        obtain ⟨va, vn, vc, rfl, hvb⟩ := hvf
        have HV := hide hvb
        clear hvb
        have V1 := hV.drew
        have q1 := V1.one.1
        have O1 := hide HO.out.drew
        have q2 := (V1.more (.cells #[.int .i64 vt, .int .i64 vu] 91)).one.1
        have q4 := ((hV.more (.cells #[.int .i64 vt, .int .i64 vu] 91)).drew).one.1
        go_wp2_with fail
        clear k0
        refine wp_region_noPanic ?_
        refine wp_region_held_drew (S := (fun w' => w'.cell? ⟨b, off + k * 6 + 1, none⟩ = some (.int .i64 vt) ∧ w'.cell? ⟨b, off + k * 6 + 2, none⟩ = some (.int .i64 vu) ∧ w'.cell? ⟨w.heap.size, 0, none⟩ = some (.slice (some ⟨b, off, none⟩) 4 c) ∧ Inv w (w.heap.size + 1 + 1) [(w.heap.size + 1, 94, #[.slice none 0 0]), (w.heap.size, 88, #[.slice (some ⟨b, off, none⟩) 4 c])] w')) (by kernel_rfl) (by exact jh hI.drew) (fun hHeld => ?_)
        refine mvR 0 (some 13) hHeld ?_
        refine mvR 2 (some 15) hHeld ?_
        refine mvR 3 (some 16) hHeld ?_
        refine mvR 4 (some 17) hHeld ?_
        refine mvR 5 (some 18) hHeld ?_
        refine mvR 6 (some 19) hHeld ?_
        refine mvR 7 (some 20) hHeld ?_
        refine wpAnyH_ready (rs := [1, 8]) (by kernel_rfl) (by simp) ?_
        refine AllReadyH.cons rfl (fun K hK => ?_) (AllReadyH.cons rfl (fun K hK => ?_) AllReadyH.nil)
        · skip
          go_simp
          refine hK.out _ _ (by exact hHeld) (fun hHeld => ?_)
          clear hK K
          refine take_one 8 (by kernel_rfl) rfl (fun K hK => ?_)
          go_simp
          refine hK.out _ _ (by exact jh (hHeld.2.2.2.alloc _)) (fun hHeld => ?_)
          clear hK K
          refine take_one 9 (by kernel_rfl) rfl (fun K hK => ?_)
          (refine step_append_lies _ (by rfl) _ _ _ (by rfl) (w.heap.size + 1 + 1 + 1) 91 i0 _ 2 16 Tryz.underlying92 I0.out I1.out I2.out I3.out rfl (by omega) (.slice va vn vc) k _ (by rfl) (O1.out.alloc _) ⟨wr.heap.size, 0, none⟩ 1 1 [.int .i64 vt, .int .i64 vu] (by rfl) (by rfl) (World.news_of_block (cs := #[.int .i64 vt, .int .i64 vu]) (t := 91) (fr := (0, 0)) (heap_alloc_new wr.drew _)) (by simp [Value.oneCell']) (by omega) (by unfold maxLen; omega) (by omega) (by simp; omega) _ rfl ?_; intro g cap w2 hown hgrow hat hlt2; have V2 := (V1.more (.cells #[.int .i64 vt, .int .i64 vu] 91)).kept hgrow (by intro e; have := HV.out _ e; omega); have q3 := V2.one; have OW := hide hown; clear hown)
          simp only [List.getElem_toArray, List.getElem_cons_zero, List.getElem_cons_succ, Act.put, List.setIfInBounds_toArray, List.set_cons_zero, List.set_cons_succ]
          refine hK.out _ _ (by exact jh (Inv.grow hHeld.2.2.2 hgrow (fun g' e => by have := HV.out _ e; omega))) (fun hHeld => ?_)
          clear hK K
          refine mvR 10 (some 23) hHeld ?_
          refine take_one 11 (by kernel_rfl) rfl (fun K hK => ?_)
          go_simp
          refine hK.out _ _ (by exact jh (hHeld.2.2.2.set (by simp) (by simp; omega) _)) (fun hHeld => ?_)
          clear hK K
          refine wpAnyH_done (by kernel_rfl) ?_ _
          refine NoPanic.normal ?_
          have I9 := hHeld.2.2.2
          have O9 := hide (ownsRow_setCell_below OW.out (a := ⟨w.heap.size + 1 + 1, 0, none⟩) (by simp) (.slice (some ⟨g, 0, none⟩) (k + 1) cap))
          have V9 := V2.put 0 (.slice (some ⟨g, 0, none⟩) (k + 1) cap)
          have z9 := hgrow.size
          clear hHeld V2 q3 q0 q1 q2 q4 V1
          go_wp2
          exact ⟨⟨k + 1, _, by omega, by go_num, V9, by rw [HF.out]; exact O9.out, by simp [World.setCell] at z9 ⊢; omega, I9⟩, by simp [intOf]; omega⟩
        · skip
          go_simp
          refine hK.out _ _ (by exact jh (hHeld.2.2.2.alloc _)) (fun hHeld => ?_)
          clear hK K
          refine take_one 1 (by kernel_rfl) rfl (fun K hK => ?_)
          go_simp
          refine hK.out _ _ (by exact hHeld) (fun hHeld => ?_)
          clear hK K
          refine take_one 9 (by kernel_rfl) rfl (fun K hK => ?_)
          (refine step_append_lies _ (by rfl) _ _ _ (by rfl) (w.heap.size + 1 + 1 + 1) 91 i0 _ 2 16 Tryz.underlying92 I0.out I1.out I2.out I3.out rfl (by omega) (.slice va vn vc) k _ (by rfl) (O1.out.alloc _) ⟨wr.heap.size, 0, none⟩ 1 1 [.int .i64 vt, .int .i64 vu] (by rfl) (by rfl) (World.news_of_block (cs := #[.int .i64 vt, .int .i64 vu]) (t := 91) (fr := (0, 0)) (heap_alloc_new wr.drew _)) (by simp [Value.oneCell']) (by omega) (by unfold maxLen; omega) (by omega) (by simp; omega) _ rfl ?_; intro g cap w2 hown hgrow hat hlt2; have V2 := (V1.more (.cells #[.int .i64 vt, .int .i64 vu] 91)).kept hgrow (by intro e; have := HV.out _ e; omega); have q3 := V2.one; have OW := hide hown; clear hown)
          simp only [List.getElem_toArray, List.getElem_cons_zero, List.getElem_cons_succ, Act.put, List.setIfInBounds_toArray, List.set_cons_zero, List.set_cons_succ]
          refine hK.out _ _ (by exact jh (Inv.grow hHeld.2.2.2 hgrow (fun g' e => by have := HV.out _ e; omega))) (fun hHeld => ?_)
          clear hK K
          refine mvR 10 (some 23) hHeld ?_
          refine take_one 11 (by kernel_rfl) rfl (fun K hK => ?_)
          go_simp
          refine hK.out _ _ (by exact jh (hHeld.2.2.2.set (by simp) (by simp; omega) _)) (fun hHeld => ?_)
          clear hK K
          refine wpAnyH_done (by kernel_rfl) ?_ _
          refine NoPanic.normal ?_
          have I9 := hHeld.2.2.2
          have O9 := hide (ownsRow_setCell_below OW.out (a := ⟨w.heap.size + 1 + 1, 0, none⟩) (by simp) (.slice (some ⟨g, 0, none⟩) (k + 1) cap))
          have V9 := V2.put 0 (.slice (some ⟨g, 0, none⟩) (k + 1) cap)
          have z9 := hgrow.size
          clear hHeld V2 q3 q0 q1 q2 q4 V1
          go_wp2
          exact ⟨⟨k + 1, _, by omega, by go_num, V9, by rw [HF.out]; exact O9.out, by simp [World.setCell] at z9 ⊢; omega, I9⟩, by simp [intOf]; omega⟩
    · have hk4 : k = 4 := by omega
      subst hk4
      clear hlt
      obtain ⟨g, cap, cr, rfl, hg, hblk, _, _, hcs, htk⟩ : ∃ g cap cr, v = .slice (some ⟨g, 0, none⟩) 4 cap ∧ w.heap.size + 1 + 1 + 1 ≤ g ∧ Blk wr g 91 cr ∧ 4 ≤ cap ∧ cap ≤ maxLen ∧ cr.size = cap * 2 ∧ cr.toList.take (4 * 2) = flatT ((tagsL vs).take 4) := by
        rcases HO.out.2 with ⟨_, h⟩ | ⟨g, cap, cr, h⟩
        · omega
        · exact ⟨g, cap, cr, h⟩
      have HR := hide (tags_of_take htk)
      have q0 := hV.one
      have q1 := (hI.nth 0 rfl).one
      have q5 := (hI.nth 1 rfl).one
      have hL := hI.below
      clear htk HO
      go_wp2
      refine bodyPost_ret (v := .agg #[.slice (some ⟨g, 0, none⟩) 4 cap]) (by simp [results, Tryz.results127, go_sem, q1]) rfl ?_
      exact ⟨g, cap, _, cr, rfl, by omega, hblk.aside (by simp; omega) _, by omega, fun i x hx => HR.out i x (by have h1 := (List.getElem?_eq_some_iff.1 hx).1; rw [tagsL_len] at h1; have := H4.out; omega) hx, hL.setCell (by simp) _⟩
end Go.Proofs.YtnaggcdhimcilaaGreat
/- Contracts of the functions that let a version into a row, if it is later, of program and model. Condition: a row of four, a key from 0 to 3. -/
namespace Go.Proofs.YtnaggcdhimcilaaGreat
open Go.RowKit Go.Joins
attribute [local go_sem ↓] Go.wp_at_zero Go.wp_at_succ

/-- A row with a version, if that is later. -/
def keepL (us : List V) (v : V) : List V := match us[v.k.toNat]? with | some x => if lessB x.t x.u v.t v.u = true then us.set v.k.toNat v else us | none => us
theorem keepL_yes {us : List V} {v x : V} (hx : us[v.k.toNat]? = some x) (h : lessB x.t x.u v.t v.u = true) : keepL us v = us.set v.k.toNat v := by unfold keepL; rw [hx]; simp [h]
theorem keepL_no {us : List V} {v x : V} (hx : us[v.k.toNat]? = some x) (h : lessB x.t x.u v.t v.u = false) : keepL us v = us := by unfold keepL; rw [hx]; simp [h]
theorem like_refl (us : List V) : Like us us := fun i v v' h h' => by
  rw [h] at h'
  injection h' with h'
  subst h'
  exact ⟨rfl, rfl, rfl, rfl, rfl, rfl⟩
theorem like_set {us : List V} {j : Nat} {v v' : V} (h : V.like v' v) : Like (us.set j v') (us.set j v) := fun i x y hx hy => by
  by_cases e : i = j
  · subst e
    have hl := (List.getElem?_eq_some_iff.1 hx).1
    rw [List.length_set] at hl
    rw [List.getElem?_set_self hl] at hx hy
    injection hx with hx
    injection hy with hy
    subst hx hy
    exact h
  · rw [List.getElem?_set_ne (fun e' => e e'.symm)] at hx hy
    exact like_refl us i x y hx hy
/-- One version of a row put in the place of another. -/
theorem ORow.put6 {w : World} {B U G j : Nat} {us : List V} {cur : Array Value} {v : V} (h : ORow w B U G us cur) (hj : j < us.length) (ho : Own1 w B U v) (hap : ∀ (i : Nat) x, i ≠ j → us[i]? = some x → x.ts ≠ [] → v.ts ≠ [] → x.a ≠ v.a) (hG : v.ts ≠ [] → v.a ≠ some ⟨G, 0, none⟩) :
    ORow ((((((w.setCell ⟨G, j * 6, none⟩ (.int .i64 v.k)).setCell ⟨G, j * 6 + 1, none⟩ (.int .i64 v.t)).setCell ⟨G, j * 6 + 2, none⟩ (.int .i64 v.u)).setCell ⟨G, j * 6 + 3, none⟩ (.slice v.a v.ts.length v.c)).setCell ⟨G, j * 6 + 4, none⟩ (.string v.s)).setCell ⟨G, j * 6 + 5, none⟩ (.bool v.g)) B U G (us.set j v) (put6 cur j v) ∧
    Turn (fun g => g = G) w ((((((w.setCell ⟨G, j * 6, none⟩ (.int .i64 v.k)).setCell ⟨G, j * 6 + 1, none⟩ (.int .i64 v.t)).setCell ⟨G, j * 6 + 2, none⟩ (.int .i64 v.u)).setCell ⟨G, j * 6 + 3, none⟩ (.slice v.a v.ts.length v.c)).setCell ⟨G, j * 6 + 4, none⟩ (.string v.s)).setCell ⟨G, j * 6 + 5, none⟩ (.bool v.g)) := by
  have ht : Turn (fun g => g = G) w ((((((w.setCell ⟨G, j * 6, none⟩ (.int .i64 v.k)).setCell ⟨G, j * 6 + 1, none⟩ (.int .i64 v.t)).setCell ⟨G, j * 6 + 2, none⟩ (.int .i64 v.u)).setCell ⟨G, j * 6 + 3, none⟩ (.slice v.a v.ts.length v.c)).setCell ⟨G, j * 6 + 4, none⟩ (.string v.s)).setCell ⟨G, j * 6 + 5, none⟩ (.bool v.g)) :=
    ((((((Turn.refl (fun g => g = G) w).set (p := ⟨G, j * 6, none⟩) rfl _).set (p := ⟨G, j * 6 + 1, none⟩) rfl _).set (p := ⟨G, j * 6 + 2, none⟩) rfl _).set (p := ⟨G, j * 6 + 3, none⟩) rfl _).set (p := ⟨G, j * 6 + 4, none⟩) rfl _).set (p := ⟨G, j * 6 + 5, none⟩) rfl _
  have hs : j * 6 + 5 < cur.size := by have := h.size; omega
  have hget : ∀ (i : Nat) x, (us.set j v)[i]? = some x → (i = j ∧ x = v) ∨ (i ≠ j ∧ us[i]? = some x) := by
    intro i x hx
    by_cases e : i = j
    · subst e
      rw [List.getElem?_set_self hj] at hx
      injection hx with hx
      exact .inl ⟨rfl, hx.symm⟩
    · rw [List.getElem?_set_ne (fun e' => e e'.symm)] at hx
      exact .inr ⟨e, hx⟩
  refine ⟨⟨(((((h.blk.put _ _).put _ _).put _ _).put _ _).put _ _).put _ _, h.lo, h.hi, by simpa using h.size, fun i x hx => ?_, fun i x hx => ?_, fun i i' x y hne hx hy hn hn' => ?_⟩, ht⟩
  · rcases hget i x hx with ⟨rfl, rfl⟩ | ⟨e, hq⟩
    · exact verAt_put hs
    · exact verAt_other e (h.at' i x hq)
  · rcases hget i x hx with ⟨rfl, rfl⟩ | ⟨e, hq⟩
    · exact ho.turned ht (fun g hg _ _ hne e => hG hne (by rw [hg, e]))
    · exact (h.own i x hq).turned ht (fun g hg _ _ hne e => h.apartG hq hne hg e)
  · rcases hget i x hx with ⟨e1, e2⟩ | ⟨e, hq⟩ <;> rcases hget i' y hy with ⟨e3, e4⟩ | ⟨e', hq'⟩
    · omega
    · subst e1; rw [e2]; exact fun e => hap i' y e' hq' hn' (e2 ▸ hn) e.symm
    · subst e3; rw [e4]; exact hap i x e hq hn (e4 ▸ hn')
    · exact h.apart i i' x y hne hq hq' hn hn'
theorem ORow.aside {w : World} {B U G : Nat} {us : List V} {cur : Array Value} (h : ORow w B U G us cur) {p : Addr} {T : TypeId} {cs : Array Value} (hb : Blk w p.block T cs) (hT : T ≠ 91) (hp : G ≠ p.block) (u : Value) : ORow (w.setCell p u) B U G us cur :=
  ⟨h.blk.aside hp u, h.lo, h.hi, h.size, h.at', fun i v hi => (h.own i v hi).tk (.set hb hT u), h.apart⟩
theorem Turn.far {P : Nat → Prop} {w w' : World} (h : Turn P w w') {p : Addr} (hp : w.heap.size ≤ p.block) (u : Value) : Turn P w (w'.setCell p u) :=
  ⟨h.os, h.tape, h.output, by simpa [World.setCell] using h.size, fun k hk hn => (Below.heap_setCell w' p u k (by omega)).trans (h.block k hk hn)⟩
/-- What letting a version in leaves. -/
def KeptL (w : World) (B G : Nat) (us : List V) (v : V) (x : Value) (e : Ending) (w' : World) : Prop :=
  ∃ (us' : List V) (cur' : Array Value), e = .returned x ∧ us'.length = us.length ∧ Like us' (keepL us v) ∧ ORow w' B w'.heap.size G us' cur' ∧ Turn (fun g => g = G) w w'

set_option maxRecDepth 100000 in
set_option maxHeartbeats 1000000 in
theorem l2Add_any (B U G cx : Nat) (us : List V) (cur : Array Value) (v : V) (kn : Nat) (w : World) (hR : ORow w B U G us cur) (hU : U ≤ w.heap.size) (h4 : us.length = 4) (hk : v.k = (kn : Int)) (hk4 : kn < 4) (hn : v.ts.length ≤ 1048576) (ht : Tg w w.heap.size v.a v.ts) :
    Calls Tryz.prog 98 #[.agg #[.slice (some ⟨G, 0, none⟩) 4 cx], .agg (verC v.k v.t v.u v.a v.ts.length v.c v.s v.g)] w (KeptL w B G us v (.agg #[.slice (some ⟨G, 0, none⟩) 4 cx])) := by
  obtain ⟨y, hy⟩ : ∃ y, us[kn]? = some y := ⟨_, List.getElem?_eq_getElem (by omega)⟩
  have hkt : v.k.toNat = kn := by rw [hk]; simp
  have HY := hide hy
  obtain ⟨vk, vt, vu, va, vc, vts, vs, vg⟩ := v
  simp only at hk hkt hn ht ⊢
  subst hk
  have CLA : ∀ W : World, Below w.heap.size w W → Calls Tryz.prog 61 #[.agg (verC (kn : Int) vt vu va vts.length vc vs vg)] W (Cloned W ⟨(kn : Int), vt, vu, va, vc, vts, vs, vg⟩) := fun W hb => l2Copy_any ⟨(kn : Int), vt, vu, va, vc, vts, vs, vg⟩ W hn ((ht.on hb).up hb.size)
  have HCL := hide CLA
  clear CLA
  have S0 := (((Inv.start w).box 88 #[.slice (some ⟨G, 0, none⟩) 4 cx]).box 96 (verC (kn : Int) vt vu va vts.length vc vs vg)).box 88 #[.slice none 0 0]
  simp only [World.size_alloc] at S0
  have HR0 := hide (hR.on S0.below)
  obtain ⟨g0, g1, g2, g3, g4, g5⟩ := HR0.out.at' kn y hy
  have c0 := (HR0.out.blk.at (kn * 6)).trans g0
  have c1 := (HR0.out.blk.at (kn * 6 + 1)).trans g1
  have c2 := (HR0.out.blk.at (kn * 6 + 2)).trans g2
  have C1 := hide c1
  have C2 := hide c2
  have hGl := hR.hi
  have HRW := hide hR
  have i1 : (0 : Int) ≤ (kn : Int) := by omega
  have i2 : (kn : Int) < 4 := by omega
  clear g0 g1 g2 g3 g4 g5 hy c0 c1 c2 ht hR hkt
  cases hless : lessB y.t y.u vt vu
  · have HL := hide hless
    clear hless
    go_enter Tryz.func98, Tryz.ntmps98
    go_wp2_with fail
    generalize ((w.alloc (.cells #[.slice (some ⟨G, 0, none⟩) 4 cx] 88)).alloc (.cells (verC (kn : Int) vt vu va vts.length vc vs vg) 96)).alloc (.cells #[.slice none 0 0] 88) = W0 at S0 HR0 C1 C2 ⊢
    refine wp_region_noPanic ?_
    refine wp_region_held_drew (S := (fun w' => (w'.cell? ⟨G, kn * 6 + 1, none⟩ = some (.int .i64 y.t) ∧ w'.cell? ⟨G, kn * 6 + 2, none⟩ = some (.int .i64 y.u)) ∧ (w'.cell? ⟨w.heap.size, 0, none⟩ = some (.slice (some ⟨G, 0, none⟩) 4 cx) ∧ w'.cell? ⟨w.heap.size + 1, 0, none⟩ = some (.int .i64 (kn : Int)) ∧ w'.cell? ⟨w.heap.size + 1, 1, none⟩ = some (.int .i64 vt) ∧ w'.cell? ⟨w.heap.size + 1, 2, none⟩ = some (.int .i64 vu)) ∧ Inv w (w.heap.size + 1 + 1 + 1) [(w.heap.size + 1 + 1, 88, #[.slice none 0 0]), (w.heap.size + 1, 96, (verC (kn : Int) vt vu va vts.length vc vs vg)), (w.heap.size, 88, #[.slice (some ⟨G, 0, none⟩) 4 cx])] w')) (by kernel_rfl) (by exact ⟨⟨C1.out, C2.out⟩, ⟨(S0.drew.nth 2 rfl).at 0, (S0.drew.nth 1 rfl).at 0, (S0.drew.nth 1 rfl).at 1, (S0.drew.nth 1 rfl).at 2⟩, S0.drew⟩) (fun hHeld => ?_)
    refine mvR 0 (some 5) hHeld ?_
    refine mvR 1 (some 6) hHeld ?_
    refine mvR 2 (some 7) hHeld ?_
    refine mvR 3 (some 8) hHeld ?_
    refine mvR 4 (some 9) hHeld ?_
    refine mvR 5 (some 10) hHeld ?_
    refine mvR 6 (some 11) hHeld ?_
    refine mvR 7 (some 12) hHeld ?_
    refine mvR 8 (some 13) hHeld ?_
    refine take_one 9 (by kernel_rfl) rfl (fun K hK => ?_)
    go_simp
    ((with_reducible refine (l1Less_any y.t y.u vt vu _).mono ?_); rintro e w1 ⟨rfl, hb1⟩; have HR1 := hide (HRW.out.on (hHeld.2.2.on hb1).below); have tc := HR1.out.at' kn y HY.out)
    try go_wp2_with fail
    refine hK.out _ _ (by exact ⟨⟨(HR1.out.blk.at (kn * 6 + 1)).trans tc.2.1, (HR1.out.blk.at (kn * 6 + 2)).trans tc.2.2.1⟩, ⟨((hHeld.2.2.on hb1).nth 2 rfl).at 0, ((hHeld.2.2.on hb1).nth 1 rfl).at 0, ((hHeld.2.2.on hb1).nth 1 rfl).at 1, ((hHeld.2.2.on hb1).nth 1 rfl).at 2⟩, hHeld.2.2.on hb1⟩) (fun hHeld => ?_)
    clear hK K
    refine wpAnyH_done (by kernel_rfl) ?_ _
    refine NoPanic.normal ?_
    have S1 := hHeld.2.2
    clear hHeld S0 HR0 C1 C2 tc
    rw [HL.out]
    have q1 := (S1.nth 0 rfl).one
    have q3 := (S1.nth 2 rfl).one
    go_wp2
    refine bodyPost_ret (v := .agg #[.slice (some ⟨G, 0, none⟩) 4 cx]) (by simp [results, Tryz.results98, go_sem, q1]) rfl ?_
    have hL := S1.below.setCell (p := ⟨w.heap.size + 1 + 1, 0, none⟩) (by simp; omega) (.slice (some ⟨G, 0, none⟩) 4 cx)
    exact ⟨us, cur, rfl, rfl, by rw [keepL_no (by simpa using HY.out) HL.out]; exact like_refl us, (HR1.out.aside (p := ⟨w.heap.size + 1 + 1, 0, none⟩) (S1.nth 0 rfl) store_ne_tag (by show G ≠ w.heap.size + 1 + 1; omega) _).wide (by have := hL.size; omega), ⟨hL.os, hL.tape, hL.output, hL.size, fun i hi _ => hL.block i hi⟩⟩
  · have HL := hide hless
    clear hless
    go_enter Tryz.func98, Tryz.ntmps98
    go_wp2_with fail
    generalize ((w.alloc (.cells #[.slice (some ⟨G, 0, none⟩) 4 cx] 88)).alloc (.cells (verC (kn : Int) vt vu va vts.length vc vs vg) 96)).alloc (.cells #[.slice none 0 0] 88) = W0 at S0 HR0 C1 C2 ⊢
    refine wp_region_noPanic ?_
    refine wp_region_held_drew (S := (fun w' => (w'.cell? ⟨G, kn * 6 + 1, none⟩ = some (.int .i64 y.t) ∧ w'.cell? ⟨G, kn * 6 + 2, none⟩ = some (.int .i64 y.u)) ∧ (w'.cell? ⟨w.heap.size, 0, none⟩ = some (.slice (some ⟨G, 0, none⟩) 4 cx) ∧ w'.cell? ⟨w.heap.size + 1, 0, none⟩ = some (.int .i64 (kn : Int)) ∧ w'.cell? ⟨w.heap.size + 1, 1, none⟩ = some (.int .i64 vt) ∧ w'.cell? ⟨w.heap.size + 1, 2, none⟩ = some (.int .i64 vu)) ∧ Inv w (w.heap.size + 1 + 1 + 1) [(w.heap.size + 1 + 1, 88, #[.slice none 0 0]), (w.heap.size + 1, 96, (verC (kn : Int) vt vu va vts.length vc vs vg)), (w.heap.size, 88, #[.slice (some ⟨G, 0, none⟩) 4 cx])] w')) (by kernel_rfl) (by exact ⟨⟨C1.out, C2.out⟩, ⟨(S0.drew.nth 2 rfl).at 0, (S0.drew.nth 1 rfl).at 0, (S0.drew.nth 1 rfl).at 1, (S0.drew.nth 1 rfl).at 2⟩, S0.drew⟩) (fun hHeld => ?_)
    refine mvR 0 (some 5) hHeld ?_
    refine mvR 1 (some 6) hHeld ?_
    refine mvR 2 (some 7) hHeld ?_
    refine mvR 3 (some 8) hHeld ?_
    refine mvR 4 (some 9) hHeld ?_
    refine mvR 5 (some 10) hHeld ?_
    refine mvR 6 (some 11) hHeld ?_
    refine mvR 7 (some 12) hHeld ?_
    refine mvR 8 (some 13) hHeld ?_
    refine take_one 9 (by kernel_rfl) rfl (fun K hK => ?_)
    go_simp
    ((with_reducible refine (l1Less_any y.t y.u vt vu _).mono ?_); rintro e w1 ⟨rfl, hb1⟩; have HR1 := hide (HRW.out.on (hHeld.2.2.on hb1).below); have tc := HR1.out.at' kn y HY.out)
    try go_wp2_with fail
    refine hK.out _ _ (by exact ⟨⟨(HR1.out.blk.at (kn * 6 + 1)).trans tc.2.1, (HR1.out.blk.at (kn * 6 + 2)).trans tc.2.2.1⟩, ⟨((hHeld.2.2.on hb1).nth 2 rfl).at 0, ((hHeld.2.2.on hb1).nth 1 rfl).at 0, ((hHeld.2.2.on hb1).nth 1 rfl).at 1, ((hHeld.2.2.on hb1).nth 1 rfl).at 2⟩, hHeld.2.2.on hb1⟩) (fun hHeld => ?_)
    clear hK K
    refine wpAnyH_done (by kernel_rfl) ?_ _
    refine NoPanic.normal ?_
    have S1 := hHeld.2.2
    clear hHeld S0 HR0 C1 C2 tc
    rw [HL.out]
    have S1' := S1.top
    have zr := S1.room
    have zb := S1.base
    go_wp2_with fail
    refine wp_region_noPanic ?_
    refine wp_region_held_drew (S := (fun w' => (w'.cell? ⟨w.heap.size, 0, none⟩ = some (.slice (some ⟨G, 0, none⟩) 4 cx) ∧ w'.cell? ⟨w.heap.size + 1, 0, none⟩ = some (.int .i64 (kn : Int)) ∧ w'.cell? ⟨w.heap.size + 1, 1, none⟩ = some (.int .i64 vt) ∧ w'.cell? ⟨w.heap.size + 1, 2, none⟩ = some (.int .i64 vu) ∧ w'.cell? ⟨w.heap.size + 1, 3, none⟩ = some (.slice va vts.length vc) ∧ w'.cell? ⟨w.heap.size + 1, 4, none⟩ = some (.string vs) ∧ w'.cell? ⟨w.heap.size + 1, 5, none⟩ = some (.bool vg)) ∧ (Blk w' w.heap.size 88 #[.slice (some ⟨G, 0, none⟩) 4 cx] ∧ Blk w' (w.heap.size + 1) 96 (verC (kn : Int) vt vu va vts.length vc vs vg) ∧ Blk w' (w.heap.size + 1 + 1) 88 #[.slice none 0 0]) ∧ w1.heap.size ≤ w'.heap.size)) (by kernel_rfl) (by exact ⟨⟨(S1.drew.nth 2 rfl).at 0, (S1.drew.nth 1 rfl).six.1⟩, ⟨S1.drew.nth 2 rfl, S1.drew.nth 1 rfl, S1.drew.nth 0 rfl⟩, Nat.le_refl _⟩) (fun hHeld => ?_)
    refine mvR 0 (some 15) hHeld ?_
    refine mvR 1 (some 16) hHeld ?_
    refine mvR 2 (some 17) hHeld ?_
    refine mvR 3 (some 18) hHeld ?_
    refine mvR 4 (some 19) hHeld ?_
    refine take_one 5 (by kernel_rfl) rfl (fun K hK => ?_)
    go_simp
    ((with_reducible refine (HCL.out _ S1.drew.below).mono ?_); rintro e w2 ⟨v', rfl, hlike, hown, hb2⟩; have HLK := hide hlike; have HOW := hide hown; have HB2 := hide hb2; have z2 : w1.heap.size ≤ w2.heap.size := hb2.size; have HR2 := hide ((HR1.out.on (Below.refl _ _).drew).on hb2); obtain ⟨e0, e1, e2, e3, e4, e5⟩ := HR2.out.at' kn y HY.out; have d0 := (HR2.out.blk.at (kn * 6)).trans e0; have d1 := (HR2.out.blk.at (kn * 6 + 1)).trans e1; have d2 := (HR2.out.blk.at (kn * 6 + 2)).trans e2; have d3 := (HR2.out.blk.at (kn * 6 + 3)).trans e3; have d4 := (HR2.out.blk.at (kn * 6 + 4)).trans e4; have d5 := (HR2.out.blk.at (kn * 6 + 5)).trans e5; have f0 := HR2.out.blk.loose (kn * 6); have f1 := HR2.out.blk.loose (kn * 6 + 1); have f2 := HR2.out.blk.loose (kn * 6 + 2); have f3 := HR2.out.blk.loose (kn * 6 + 3); have f4 := HR2.out.blk.loose (kn * 6 + 4); have f5 := HR2.out.blk.loose (kn * 6 + 5))
    try go_wp2_with fail
    refine hK.out _ _ (by exact ⟨⟨((hHeld.2.1.1).on hb2).at 0, ((hHeld.2.1.2.1).on hb2).six.1⟩, ⟨(hHeld.2.1.1).on hb2, (hHeld.2.1.2.1).on hb2, (hHeld.2.1.2.2).on hb2⟩, z2⟩) (fun hHeld => ?_)
    clear hK K
    refine mvR 6 (some 21) hHeld ?_
    refine take_one 7 (by kernel_rfl) rfl (fun K hK => ?_)
    go_simp
    refine hK.out _ _ (by exact ⟨⟨(((((((hHeld.2.1.1).aside (by show w.heap.size ≠ G; omega) _).aside (by show w.heap.size ≠ G; omega) _).aside (by show w.heap.size ≠ G; omega) _).aside (by show w.heap.size ≠ G; omega) _).aside (by show w.heap.size ≠ G; omega) _).aside (by show w.heap.size ≠ G; omega) _).at 0, (((((((hHeld.2.1.2.1).aside (by show w.heap.size + 1 ≠ G; omega) _).aside (by show w.heap.size + 1 ≠ G; omega) _).aside (by show w.heap.size + 1 ≠ G; omega) _).aside (by show w.heap.size + 1 ≠ G; omega) _).aside (by show w.heap.size + 1 ≠ G; omega) _).aside (by show w.heap.size + 1 ≠ G; omega) _).six.1⟩, ⟨((((((hHeld.2.1.1).aside (by show w.heap.size ≠ G; omega) _).aside (by show w.heap.size ≠ G; omega) _).aside (by show w.heap.size ≠ G; omega) _).aside (by show w.heap.size ≠ G; omega) _).aside (by show w.heap.size ≠ G; omega) _).aside (by show w.heap.size ≠ G; omega) _, ((((((hHeld.2.1.2.1).aside (by show w.heap.size + 1 ≠ G; omega) _).aside (by show w.heap.size + 1 ≠ G; omega) _).aside (by show w.heap.size + 1 ≠ G; omega) _).aside (by show w.heap.size + 1 ≠ G; omega) _).aside (by show w.heap.size + 1 ≠ G; omega) _).aside (by show w.heap.size + 1 ≠ G; omega) _, ((((((hHeld.2.1.2.2).aside (by show w.heap.size + 1 + 1 ≠ G; omega) _).aside (by show w.heap.size + 1 + 1 ≠ G; omega) _).aside (by show w.heap.size + 1 + 1 ≠ G; omega) _).aside (by show w.heap.size + 1 + 1 ≠ G; omega) _).aside (by show w.heap.size + 1 + 1 ≠ G; omega) _).aside (by show w.heap.size + 1 + 1 ≠ G; omega) _⟩, by simpa [World.setCell] using hHeld.2.2⟩) (fun hHeld => ?_)
    clear hK K
    refine wpAnyH_done (by kernel_rfl) ?_ _
    refine NoPanic.normal ?_
    have hpt := (HR2.out.wide (show U ≤ w2.heap.size by omega)).put6 (j := kn) (v := v') (by omega) (HOW.out.low (by have := HRW.out.lo; omega)) (fun i x hi hx hne hne' => by
      rcases HRW.out.own i x hx with q | ⟨gg, _, q1, _, q2, _⟩
      · exact absurd q hne
      · rcases HOW.out with q | ⟨gg', _, q3, q4, _⟩
        · exact absurd q hne'
        · rw [q1, q3]
          intro e
          injection e with e
          injection e with e
          have q5 : w1.heap.size ≤ gg' := q4
          omega) (fun hne' => by
        rcases HOW.out with q | ⟨gg', _, q3, q4, _⟩
        · exact absurd q hne'
        · rw [q3]
          intro e
          injection e with e
          injection e with e
          have q5 : w1.heap.size ≤ gg' := q4
          omega)
    have hk0 : v'.k = (kn : Int) := HLK.out.1
    have HP := hide hpt
    have HB9 := hide hHeld.2.1
    clear hHeld d0 d1 d2 d3 d4 d5 f0 f1 f2 f3 f4 f5 e0 e1 e2 e3 e4 e5 hpt
    generalize (((((w2.setCell ⟨G, kn * 6, none⟩ (.int .i64 v'.k)).setCell ⟨G, kn * 6 + 1, none⟩ (.int .i64 v'.t)).setCell ⟨G, kn * 6 + 2, none⟩ (.int .i64 v'.u)).setCell ⟨G, kn * 6 + 3, none⟩ (.slice v'.a v'.ts.length v'.c)).setCell ⟨G, kn * 6 + 4, none⟩ (.string v'.s)).setCell ⟨G, kn * 6 + 5, none⟩ (.bool v'.g) = W9 at HP HB9 ⊢
    have q1 := HB9.out.2.2.one
    have q3 := HB9.out.1.one
    go_wp2
    refine bodyPost_ret (v := .agg #[.slice (some ⟨G, 0, none⟩) 4 cx]) (by simp [results, Tryz.results98, go_sem, q1]) rfl ?_
    have tn : ((kn : Int)).toNat = kn := by simp
    have HKL : keepL us ⟨(kn : Int), vt, vu, va, vc, vts, vs, vg⟩ = us.set kn ⟨(kn : Int), vt, vu, va, vc, vts, vs, vg⟩ := by
      have := keepL_yes (us := us) (v := ⟨(kn : Int), vt, vu, va, vc, vts, vs, vg⟩) (x := y) (by simp only; rw [tn]; exact HY.out) HL.out
      simp only [tn] at this
      exact this
    have T1 : Turn (fun g => g = G) w w1 := ⟨S1.below.os, S1.below.tape, S1.below.output, S1.below.size, fun i hi _ => S1.below.block i hi⟩
    have T2 : Turn (fun g => g = G) w W9 := ((T1.trans (.below (Below.refl _ _).drew)).trans (.below HB2.out)).trans HP.out.2
    have P9 := (HP.out.1.aside (p := ⟨w.heap.size + 1 + 1, 0, none⟩) HB9.out.2.2 store_ne_tag (by show G ≠ w.heap.size + 1 + 1; omega) (.slice (some ⟨G, 0, none⟩) 4 cx)).wide HP.out.2.size
    exact ⟨us.set kn v', _, rfl, by simp, by rw [HKL]; exact like_set HLK.out, by simpa [World.setCell] using P9, T2.far (p := ⟨w.heap.size + 1 + 1, 0, none⟩) (by simp only; omega) _⟩
end Go.Proofs.YtnaggcdhimcilaaGreat
/- Contracts of StoreAdd, of program and model. Condition: as many versions and tags as a law lets by. -/
namespace Go.Proofs.YtnaggcdhimcilaaGreat
open Go.RowKit Go.Joins
attribute [local go_sem ↓] Go.wp_at_zero Go.wp_at_succ

/-- A version as plain data. -/
def verV (v : V) : Bool := verB v.k v.t v.u v.ts v.s v.g
/-- What StoreAdd answers. -/
def addR (vs : List V) (v : V) : List V := if (storeB vs && verV v) = true then keepL vs v else []
/-- An answer that is a store. -/
def AnswerS (w : World) (rs : List V) (e : Ending) (w' : World) : Prop :=
  ∃ (x : Value) (us : List V), e = .returned (.agg #[x]) ∧ us.length = rs.length ∧ Like us rs ∧ ResV w' w.heap.size w'.heap.size x us ∧ Below w.heap.size w w'
theorem res_four {w : World} {B U : Nat} {x : Value} {us : List V} (h : ResV w B U x us) (h4 : us.length = 4) : ∃ G cap cur, x = .slice (some ⟨G, 0, none⟩) 4 cap ∧ ORow w B U G us cur := by
  rcases h with ⟨rfl, _⟩ | ⟨G, cap, cur, rfl, hO⟩
  · simp at h4
  · exact ⟨G, cap, cur, by rw [h4], hO⟩
theorem verV_key {v : V} (h : verV v = true) : 0 ≤ v.k ∧ v.k ≤ 3 := by
  unfold verV verB at h
  simp at h
  omega

end Go.Proofs.YtnaggcdhimcilaaGreat
/- Contracts of StoreTags, of program and model, at every store. Condition: as many versions and tags as a law lets by. -/
namespace Go.Proofs.YtnaggcdhimcilaaGreat
open Go.RowKit Go.Joins

theorem Res.turn {P : Nat → Prop} {w w' : World} {B U : Nat} {A : Option Addr} {rs : List (Int × Int)} (h : Res w B U A rs) (ht : Turn P w w') (hp : ∀ g, B ≤ g → g < U → ¬ P g) : Res w' B U A rs := by
  rcases h with h | ⟨g, T, cur, rfl, hB, hU, hb, hs, hc⟩
  · exact .inl h
  · exact .inr ⟨g, T, cur, rfl, hB, hU, hb.turned ht (hp g hB hU), hs, hc⟩
/-- What StoreTags answers. -/
def tagsR (vs : List V) : List (Int × Int) := if storeB vs = true then tagsL vs else []
theorem tagsR_len (vs : List V) : (tagsR vs).length ≤ 4 := by
  unfold tagsR
  split
  · rename_i h
    rw [tagsL_len]
    exact Nat.le_of_eq (storeB_four h)
  · simp
theorem tagsL_like {us vs : List V} (hl : us.length = vs.length) (h : Like us vs) : tagsL us = tagsL vs := by
  apply List.ext_getElem?
  intro i
  unfold tagsL
  rw [List.getElem?_map, List.getElem?_map]
  by_cases hi : i < us.length
  · have h1 := List.getElem?_eq_getElem hi
    have h2 := List.getElem?_eq_getElem (l := vs) (i := i) (by omega)
    obtain ⟨_, e1, e2, _⟩ := h i _ _ h1 h2
    rw [h1, h2]
    simp [e1, e2]
  · rw [List.getElem?_eq_none (by omega), List.getElem?_eq_none (by omega)]
theorem tagsR_like {us vs : List V} (hl : us.length = vs.length) (h : Like us vs) : tagsR us = tagsR vs := by
  unfold tagsR
  rw [storeB_like hl h, tagsL_like hl h]
theorem answer_joined {w : World} {rs : List (Int × Int)} {e : Ending} {w' : World} (h4 : rs.length = 4) (h : JoinedP w rs e w') : Answer w rs e w' := by
  obtain ⟨g, cap, T, cur, he, hg, hB, hsz, hcur, hb⟩ := h
  exact ⟨some ⟨g, 0, none⟩, cap, by rw [he, h4], Res.of hg hB.inside hB (by rw [h4]; exact hsz) hcur, hb⟩
theorem answer_empty {w : World} {rs : List (Int × Int)} {w' : World} (h : rs = []) (hb : Below w.heap.size w w') : Answer w rs (.returned (.agg #[.slice none 0 0])) w' := by
  subst h
  exact ⟨none, 0, rfl, .inl ⟨rfl, rfl⟩, hb⟩

set_option maxHeartbeats 2000000 in
theorem implStoreTags_any (a : Option Addr) (c : Nat) (vs : List V) (w : World) (hn : vs.length ≤ 1048576) (hm : Small vs) (hv : Vg w w.heap.size a vs) :
    Calls Tryz.prog 156 #[.agg #[.slice a vs.length c]] w (Answer w (tagsR vs)) := by
  cases ho : storeB vs
  · have hE : tagsR vs = [] := by unfold tagsR; rw [ho]; rfl
    have S0 := ((Inv.start w).box 88 #[.slice a vs.length c]).box 94 #[.slice none 0 0]
    simp only [World.size_alloc] at S0
    have HE := hide hE
    have HO := hide ho
    clear ho hE
    go_enter Tryz.func156, Tryz.ntmps156
    go_wp2_with fail
    refine (implStoreOk_any a c vs _ hn hm ((hv.on S0.below).up S0.base)).mono ?_
    rintro e w1 ⟨rfl, hb1⟩
    rw [HO.out]
    have S1 := S0.on hb1
    have q1 := (S1.nth 0 rfl).one
    clear S0 hm
    go_wp2
    refine bodyPost_ret (v := .agg #[.slice none 0 0]) (by simp [results, Tryz.results156, go_sem, q1]) rfl ?_
    exact answer_empty HE.out (S1.below.setCell (by simp) _)
  · have hE : tagsR vs = tagsL vs := by unfold tagsR; rw [ho]; rfl
    have h4 := storeB_four ho
    have C := implStoreTags_ok a c vs w ho hm hv
    rw [hE, h4]
    exact C.mono fun e w' h => answer_joined (by rw [tagsL_len]; exact h4) h
end Go.Proofs.YtnaggcdhimcilaaGreat
/- Stores that a call answers: how such an answer is kept, marked, and the marks found again. -/
namespace Go.Proofs.YtnaggcdhimcilaaGreat
open Go.RowKit Go.Joins

/-- A slice of versions that a call has made: none, or in blocks of its own from B on and below U. -/
def ResS (w : World) (B U : Nat) (A : Option Addr) (us : List V) : Prop := us = [] ∨ ∃ G cur, A = some ⟨G, 0, none⟩ ∧ ORow w B U G us cur
theorem ResS.turn {P : Nat → Prop} {w w' : World} {B U : Nat} {A : Option Addr} {us : List V} (h : ResS w B U A us) (ht : Turn P w w') (hp : ∀ g, B ≤ g → g < U → ¬ P g) : ResS w' B U A us := by
  rcases h with h | ⟨G, cur, h1, h2⟩
  · exact .inl h
  · exact .inr ⟨G, cur, h1, h2.turned ht hp⟩
theorem ResS.on {w w' : World} {B U : Nat} {A : Option Addr} {us : List V} (h : ResS w B U A us) (hb : Below w.heap.size w w') : ResS w' B U A us := h.turn (P := fun _ => False) (.below hb) (fun _ _ _ h => h)
theorem ResS.drew {w : World} {B U : Nat} {A : Option Addr} {us : List V} (h : ResS w B U A us) : ResS w.drew B U A us := h.on (Below.refl _ _).drew
theorem ResS.alloc {w : World} {B U : Nat} {A : Option Addr} {us : List V} (h : ResS w B U A us) (o : Obj) : ResS (w.alloc o) B U A us := h.on (below_alloc1 w o)
theorem ResS.set {w : World} {B U : Nat} {A : Option Addr} {us : List V} (h : ResS w B U A us) {p : Addr} (hp : p.block < B ∨ U ≤ p.block) (u : Value) : ResS (w.setCell p u) B U A us :=
  h.turn (P := fun g => g = p.block) ((Turn.refl (fun g => g = p.block) w).set (p := p) rfl u) (fun g h1 h2 e => by omega)
theorem ResS.swap {w : World} {B U : Nat} {A : Option Addr} {us : List V} {o o' : Obj} (h : ResS (w.alloc o) B U A us) (hU : U ≤ w.heap.size) : ResS (w.alloc o') B U A us := by
  have ht : Turn (fun g => g = w.heap.size) (w.alloc o) (w.alloc o') := ⟨rfl, rfl, rfl, by simp, fun k hk hn => by
    have hk' : k < w.heap.size := by simp at hk; omega
    rw [Below.heap_alloc w o' k hk', Below.heap_alloc w o k hk']⟩
  exact h.turn ht (fun g h1 h2 e => by omega)
theorem ResS.vg {w : World} {B U : Nat} {A : Option Addr} {us : List V} (h : ResS w B U A us) : Vg w w.heap.size A us := by
  rcases h with h | ⟨G, cur, rfl, h2⟩
  · exact .inl h
  · exact h2.vg
/-- Few versions, of few causes each. -/
def Few (us : List V) : Prop := us.length ≤ 4 ∧ ∀ v ∈ us, v.ts.length ≤ 4
theorem few_wts : ∀ (us : List V), (∀ v ∈ us, v.ts.length ≤ 4) → wts us ≤ 13 * (us.length : Int)
  | [], _ => by simp [wts]
  | v :: r, h => by
    have h1 := few_wts r (fun x hx => h x (List.mem_cons_of_mem _ hx))
    have h2 := h v (List.mem_cons_self ..)
    unfold wts at *
    simp [wt] at *
    omega
theorem Few.wts {us : List V} (h : Few us) : wts us ≤ 52 := by
  have := few_wts us h.2
  have := h.1
  omega
theorem few_store {vs : List V} (h : storeB vs = true) : Few vs := by
  refine ⟨Nat.le_of_eq (storeB_four h), fun v hv => ?_⟩
  obtain ⟨i, hi⟩ := List.getElem?_of_mem hv
  apply Classical.byContradiction
  intro hn
  have hs : slotB i v = false := by
    have h1 : noneC v.k v.t v.u v.ts.length v.s v.g = false := noneC_f (.inr (.inr (.inl (by omega))))
    have h2 : verB v.k v.t v.u v.ts v.s v.g = false := by
      cases hb : pastB v.ts with
      | false => exact verB_f (.inr (.inr (.inr (.inr (.inr (.inl hb))))))
      | true =>
        have := pastB_four hb
        omega
    exact slotB_bad h1 h2
  rw [storeB_bad hi hs] at h
  cases h
theorem few_ver {v : V} (h : verV v = true) : v.ts.length ≤ 4 := by
  apply Classical.byContradiction
  intro hn
  have h2 : verV v = false := by
    cases hb : pastB v.ts with
    | false => exact verB_f (.inr (.inr (.inr (.inr (.inr (.inl hb))))))
    | true =>
      have := pastB_four hb
      omega
  rw [h2] at h
  cases h
/-- What marking an answer leaves. -/
def MarkedRS (w : World) (B U : Nat) (A : Option Addr) (us : List V) (k : Int) (e : Ending) (w' : World) : Prop :=
  e = .returned (.int .i64 (k + wts us)) ∧ ResS w' B U A (mkVs k us) ∧ Turn (fun g => B ≤ g ∧ g < U) w w'
end Go.Proofs.YtnaggcdhimcilaaGreat
/- Rows of nodes in memory of their own: each node two rows of versions; how they are compared, marked, and the marks found again. Condition: what is said of each. -/
namespace Go.Proofs.YtnaggcdhimcilaaGreat
open Go.RowKit Go.Joins
attribute [local go_sem ↓] Go.wp_at_zero Go.wp_at_succ

/-- The blocks of a slice of versions. -/
def FootS (A : Option Addr) (us : List V) (g : Nat) : Prop := us ≠ [] ∧ ∃ G, A = some ⟨G, 0, none⟩ ∧ Foot G us g
theorem ORow.turnF {P : Nat → Prop} {w w' : World} {B U G : Nat} {vs : List V} {cur : Array Value} (h : ORow w B U G vs cur) (ht : Turn P w w') (hp : ∀ g, Foot G vs g → ¬ P g) : ORow w' B U G vs cur :=
  ⟨h.blk.turned ht (hp G (.inl rfl)), h.lo, h.hi, h.size, h.at', fun i v hi => (h.own i v hi).turned ht (fun g hg _ _ hne => hp g (.inr ⟨i, v, hi, hne, hg⟩)), h.apart⟩
theorem ResS.turnF {P : Nat → Prop} {w w' : World} {B U : Nat} {A : Option Addr} {us : List V} (h : ResS w B U A us) (ht : Turn P w w') (hp : ∀ g, FootS A us g → ¬ P g) : ResS w' B U A us := by
  by_cases h0 : us = []
  · exact .inl h0
  · rcases h with h | ⟨G, cur, rfl, hO⟩
    · exact .inl h
    · exact .inr ⟨G, cur, rfl, hO.turnF ht (fun g hg => hp g ⟨h0, G, rfl, hg⟩)⟩
theorem foot_mk {G : Nat} {k : Int} {us : List V} {g : Nat} (h : Foot G (mkVs k us) g) : Foot G us g := by
  rcases h with h | ⟨i, v, hi, hn, ha⟩
  · exact .inl h
  · rw [mkVs_at] at hi
    cases hx : us[i]? with
    | none => rw [hx] at hi; cases hi
    | some x =>
      rw [hx] at hi
      simp only [Option.map_some] at hi
      injection hi with hi
      subst hi
      refine .inr ⟨i, x, hx, fun h0 => hn ?_, ha⟩
      show marksL _ _ = []
      rw [h0]
      rfl
theorem footS_mk {A : Option Addr} {k : Int} {us : List V} {g : Nat} (h : FootS A (mkVs k us) g) : FootS A us g := by
  obtain ⟨h0, G, ha, hf⟩ := h
  exact ⟨fun e => h0 (by rw [e]; rfl), G, ha, foot_mk hf⟩
set_option maxHeartbeats 1000000 in
theorem markVerS_nil (A : Option Addr) (c : Nat) (k : Int) (W : World) :
    Calls Tryz.prog 37 #[.slice A 0 c, .int .i64 k] W fun e w' => e = .returned (.int .i64 k) ∧ W = w' := by
  go_enter Tryz.func37, Tryz.ntmps37
  go_wp2
  go_loop [1, 5] (fun v i => v = .int .i64 k ∧ i = .int .i64 0) (fun _ _ => 0)
  case atStart => exact ⟨rfl, rfl⟩
  case round =>
    obtain ⟨rfl, rfl⟩ := hrel
    go_wp2
    go_ret
    exact ⟨rfl, rfl⟩
set_option maxHeartbeats 1000000 in
theorem heldVerS_nil (A : Option Addr) (c : Nat) (k : Int) (W : World) :
    Calls Tryz.prog 40 #[.slice A 0 c, .int .i64 k] W fun e w' => e = .returned (.int .i64 k) ∧ W = w' := by
  go_enter Tryz.func40, Tryz.ntmps40
  go_wp2
  go_loop [1, 5] (fun v i => v = .int .i64 k ∧ i = .int .i64 0) (fun _ _ => 0)
  case atStart => exact ⟨rfl, rfl⟩
  case round =>
    obtain ⟨rfl, rfl⟩ := hrel
    go_wp2
    go_ret
    exact ⟨rfl, rfl⟩
/-- What marking a slice of versions leaves: only its own blocks have turned. -/
def MarkedSF (w : World) (B U : Nat) (A : Option Addr) (us : List V) (k : Int) (e : Ending) (w' : World) : Prop :=
  e = .returned (.int .i64 (k + wts us)) ∧ ResS w' B U A (mkVs k us) ∧ Turn (FootS A us) w w'
theorem markSF_any (B U : Nat) (A : Option Addr) (c : Nat) (us : List V) (k : Int) (w : World) (hR : ResS w B U A us) (hm : ∀ v ∈ us, v.ts.length ≤ 1048576) (hn : us.length ≤ 1048576) (hk0 : 1 ≤ k) (hk : k + wts us ≤ 8388000) :
    Calls Tryz.prog 37 #[.slice A us.length c, .int .i64 k] w (MarkedSF w B U A us k) := by
  by_cases h0 : us = []
  · subst h0
    exact (markVerS_nil A c k w).mono fun e w' ⟨he, hw⟩ => ⟨by rw [he]; simp [wts], .inl rfl, by rw [← hw]; exact Turn.refl _ _⟩
  · rcases hR with h | ⟨G, cur, rfl, hO⟩
    · exact absurd h h0
    · exact (markVerS_foot B U G c us cur k w hO hm hn hk0 hk).mono fun e w' ⟨he, ⟨cur', h1⟩, h2⟩ => ⟨he, .inr ⟨G, cur', rfl, h1⟩, ⟨h2.os, h2.tape, h2.output, h2.size, fun i hi hn => h2.block i hi (fun hf => hn ⟨h0, G, rfl, hf⟩)⟩⟩
theorem heldSF_any (B U : Nat) (A : Option Addr) (c : Nat) (us : List V) (k : Int) (w : World) (hR : ResS w B U A (mkVs k us)) (hm : ∀ v ∈ us, v.ts.length ≤ 1048576) (hn : us.length ≤ 1048576) (hk0 : 1 ≤ k) (hk : k + wts us ≤ 8388000) :
    Calls Tryz.prog 40 #[.slice A us.length c, .int .i64 k] w fun e w' => e = .returned (.int .i64 (k + wts us)) ∧ Below w.heap.size w w' := by
  by_cases h0 : us = []
  · subst h0
    exact (heldVerS_nil A c k w).mono fun e w' ⟨he, hw⟩ => ⟨by rw [he]; simp [wts], by rw [← hw]; exact Below.refl _ _⟩
  · rcases hR with h | ⟨G, cur, rfl, hO⟩
    · have := mkVs_len k us
      rw [h] at this
      exact absurd (List.length_eq_zero_iff.1 this.symm) h0
    · exact heldVerS_any B U G c us cur k w hO hm hn hk0 hk

/-- A node as it lies in memory: its store, and what waits. -/
structure Nd where
  sa : Option Addr
  sc : Nat
  ss : List V
  wa : Option Addr
  wc : Nat
  ws : List V
/-- The two cells of the node at place i of a row of cells. -/
def NdAt (cur : Array Value) (i : Nat) (n : Nd) : Prop := cur[i * 2]? = some (.slice n.sa n.ss.length n.sc) ∧ cur[i * 2 + 1]? = some (.slice n.wa n.ws.length n.wc)
/-- Two nodes say the same. -/
def Nd.like (n n' : Nd) : Prop := n.ss.length = n'.ss.length ∧ Like n.ss n'.ss ∧ n.ws.length = n'.ws.length ∧ Like n.ws n'.ws
def FootN (n : Nd) (g : Nat) : Prop := FootS n.sa n.ss g ∨ FootS n.wa n.ws g
/-- A row of nodes in a block of its own, the rows of each node in others. -/
structure NRow (w : World) (B U G : Nat) (ns : List Nd) (cur : Array Value) : Prop where
  blk : Blk w G 90 cur
  lo : B ≤ G
  hi : G < U
  size : ns.length * 2 ≤ cur.size
  at' : ∀ (i : Nat) n, ns[i]? = some n → NdAt cur i n
  store : ∀ (i : Nat) n, ns[i]? = some n → ResS w B U n.sa n.ss
  wait : ∀ (i : Nat) n, ns[i]? = some n → ResS w B U n.wa n.ws
  two : ∀ (i : Nat) n, ns[i]? = some n → ∀ g, FootS n.sa n.ss g → ¬ FootS n.wa n.ws g
  apart : ∀ (i j : Nat) n n', i ≠ j → ns[i]? = some n → ns[j]? = some n' → ∀ g, FootN n g → ¬ FootN n' g
theorem node_ne_ver : (90 : TypeId) ≠ 96 := by decide
theorem node_ne_tag : (90 : TypeId) ≠ 91 := by decide
theorem ResS.typed {w : World} {B U : Nat} {A : Option Addr} {us : List V} (h : ResS w B U A us) {g : Nat} (hg : FootS A us g) : ∃ T cs, Blk w g T cs ∧ T ≠ 90 ∧ B ≤ g ∧ g < U := by
  obtain ⟨h0, G, rfl, hf⟩ := hg
  rcases h with h | ⟨G', cur, e, hO⟩
  · exact absurd h h0
  · injection e with e
    injection e with e
    subst e
    have hr := hO.foot hf
    rcases hf with rfl | ⟨i, v, hi, hn, ha⟩
    · exact ⟨_, _, hO.blk, (fun e => node_ne_ver e.symm), hr⟩
    · rcases hO.own i v hi with q | ⟨g', c', e1, q1, q2, q3, _⟩
      · exact absurd q hn
      · rw [e1] at ha
        injection ha with ha
        injection ha with ha
        subst ha
        exact ⟨_, _, q3, (fun e => node_ne_tag e.symm), hr⟩
/-- How many marks nodes bear. -/
def wtN (n : Nd) : Int := wts n.ss + wts n.ws
def wtNs (ns : List Nd) : Int := (ns.map wtN).sum
def mkN (k : Int) (n : Nd) : Nd := ⟨n.sa, n.sc, mkVs k n.ss, n.wa, n.wc, mkVs (k + wts n.ss) n.ws⟩
def mkNs : Int → List Nd → List Nd
  | _, [] => []
  | k, n :: r => mkN k n :: mkNs (k + wtN n) r
theorem mkNs_len (k : Int) (ns : List Nd) : (mkNs k ns).length = ns.length := by
  induction ns generalizing k with
  | nil => rfl
  | cons v r ih => simp [mkNs, ih]
theorem wtNs_step {ns : List Nd} {j : Nat} {n : Nd} (h : ns[j]? = some n) : wtNs (ns.take (j + 1)) = wtNs (ns.take j) + wtN n := by
  unfold wtNs
  rw [List.take_add_one, h]
  simp
theorem wtN_pos (n : Nd) : 0 ≤ wtN n := by have := wts_pos n.ss; have := wts_pos n.ws; unfold wtN; omega
theorem wtNs_pos (ns : List Nd) : 0 ≤ wtNs ns := by
  induction ns with
  | nil => simp [wtNs]
  | cons v r ih => have := wtN_pos v; unfold wtNs at *; simp; omega
theorem wtNs_le (ns : List Nd) (j : Nat) : wtNs (ns.take j) ≤ wtNs ns := by
  have e : wtNs ns = wtNs (ns.take j) + wtNs (ns.drop j) := by
    unfold wtNs
    rw [← List.sum_append, ← List.map_append, List.take_append_drop]
  have := wtNs_pos (ns.drop j)
  omega
theorem mkNs_at (k : Int) (ns : List Nd) (j : Nat) : (mkNs k ns)[j]? = (ns[j]?).map (mkN (k + wtNs (ns.take j))) := by
  induction ns generalizing k j with
  | nil => simp [mkNs]
  | cons v r ih =>
    cases j with
    | zero => simp [mkNs, wtNs]
    | succ j =>
      simp only [mkNs, List.getElem?_cons_succ, ih, List.take_succ_cons]
      congr 1
      funext x
      unfold wtNs
      simp [Int.add_assoc]
end Go.Proofs.YtnaggcdhimcilaaGreat
