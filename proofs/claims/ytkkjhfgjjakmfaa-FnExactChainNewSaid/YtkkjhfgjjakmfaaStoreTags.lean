/- Contracts of the functions that gather a store's tags, in the program and in the model. Condition: a valid store. -/
import Derived.Test.YtkkjhfgjjakmfaaStoreOk
import Derived.Test.YtkkjhfgjjakmfaaPastJoin2
import Derived.Deep.AppendLies
namespace Go.Proofs.Ytkkjhfgjjakmfaa
open Go.RowKit Go.Joins
attribute [local go_sem ↓] Go.wp_at_zero Go.wp_at_succ

/-- The tags of these versions. -/
def tagsL (vs : List V) : List (Int × Int) := vs.map fun v => (v.t, v.u)
theorem tagsL_at {vs : List V} {k : Nat} {v : V} (h : vs[k]? = some v) : (tagsL vs)[k]? = some (v.t, v.u) := by unfold tagsL; rw [List.getElem?_map, h]; rfl
theorem tagsL_len (vs : List V) : (tagsL vs).length = vs.length := by unfold tagsL; simp
theorem storeB_four {vs : List V} (h : storeB vs = true) : vs.length = 4 := by
  apply Classical.byContradiction
  intro hn
  rw [storeB_len hn] at h
  cases h

set_option maxRecDepth 100000 in
set_option maxHeartbeats 2000000 in
theorem implStoreTags_ok (a : Option Addr) (c : Nat) (vs : List V) (w : World) (hok : storeB vs = true) (hm : Small vs) (hv : Vg w w.heap.size a vs) :
    Calls Try.prog 31 #[.agg #[.slice a 4 c]] w (JoinedP w (tagsL vs)) := by
  have h4 := storeB_four hok
  have H4 := hide h4
  have S0 := ((Inv.start w).box 48 #[.slice a 4 c]).box 25 #[.slice none 0 0]
  simp only [World.size_alloc] at S0
  have C0 := implStoreOk_any a c vs _ (by omega) hm ((hv.on S0.below).up S0.base)
  rw [h4, hok] at C0
  have HM := hide hm
  clear hm h4 hok
  go_enter Try.func31, Try.ntmps31
  go_wp2_with fail
  refine C0.mono ?_
  rintro e w1 ⟨rfl, hb1⟩
  have S1 := (S0.on hb1).alloc (.cells zero8 76)
  have hr1 := (S0.on hb1).top
  have hz1 : w.heap.size + 1 + 1 ≤ w1.heap.size := (S0.on hb1).room
  have V0 := Blk.made w1 76 zero8
  have k0 := (S1.nth 1 rfl).one.1
  have k9 := ((S0.on hb1).nth 1 rfl).one.1
  have hlt0 : w.heap.size < w1.heap.size := by omega
  have S2 := (hr1.box 76 zero8)
  clear S0 C0 hb1 hr1
  go_wp2
  go_loopw [13] (fun i wr => ∃ (k : Nat) (cur : Array Value), k ≤ 4 ∧ i = .int .i64 (k : Int) ∧ Blk wr w1.heap.size 76 cur ∧ cur.size = 8 ∧ Hid (∀ j x, j < k → (tagsL vs)[j]? = some x → TagAt cur j x) ∧ Inv w (w.heap.size + 1 + 1) [(w.heap.size + 1, 25, #[.slice none 0 0]), (w.heap.size, 48, #[.slice a 4 c])] wr) (fun i _ => 4 - (intOf i).toNat)
  case atStart => exact ⟨0, _, Nat.zero_le _, rfl, V0, rfl, fun j x hj => absurd hj (by omega), S1⟩
  case round =>
    obtain ⟨k, cur, hk, rfl, hV, hsz, hcur, hI⟩ := hrel
    clear S1 S2 V0 k0 k9
    have hL := hI.below
    by_cases hlt : k < 4
    · rcases hv with e0 | ⟨b, off, rfl, hb, hx⟩
      · have := H4.out; subst e0; simp at this
      · have hkl : k < vs.length := by have := H4.out; omega
        obtain ⟨hS, -⟩ := hx k _ (List.getElem?_eq_getElem hkl)
        have HX := hide (List.getElem?_eq_getElem hkl)
        have hS' := hS.keep hb fun _ hp => hL.cell hp
        generalize vs[k] = v at hS' HX
        have HS := hide (tagAt_step (ts := tagsL vs) (show k * 2 + 1 < cur.size by omega) (tagsL_at HX.out) hcur.out)
        obtain ⟨vk, vt, vu, va, vc, vts, vs', vg⟩ := v
        simp only at hS' HS
        clear hS hx hcur
        have i1 : (0 : Int) ≤ (k : Int) := by omega
        have i2 : (k : Int) < 4 := by omega
        have V1 := hV.more (.cells (verC vk vt vu va vts.length vc vs' vg) 52)
        have hin := hV.inside
        have hs0 : k * 2 < cur.size := by omega
        have hs1 : k * 2 + 1 < cur.size := by omega
        have d0 : wr.cell? ⟨w1.heap.size, k * 2, none⟩ = some cur[k * 2] := by rw [hV.at]; exact Array.getElem?_eq_getElem hs0
        have d1 : wr.cell? ⟨w1.heap.size, k * 2 + 1, none⟩ = some cur[k * 2 + 1] := by rw [hV.at]; exact Array.getElem?_eq_getElem hs1
        have f0 := hV.loose (k * 2)
        have f1 := hV.loose (k * 2 + 1)
        have d0' : (wr.alloc (.cells (verC vk vt vu va vts.length vc vs' vg) 52)).cell? ⟨w1.heap.size, k * 2, none⟩ = some cur[k * 2] := by rw [V1.at]; exact Array.getElem?_eq_getElem hs0
        have d1' : (wr.alloc (.cells (verC vk vt vu va vts.length vc vs' vg) 52)).cell? ⟨w1.heap.size, k * 2 + 1, none⟩ = some cur[k * 2 + 1] := by rw [V1.at]; exact Array.getElem?_eq_getElem hs1
        have f0' := V1.loose (k * 2)
        have f1' := V1.loose (k * 2 + 1)
        go_wp2
        exact ⟨⟨k + 1, _, by omega, by go_num, ((hV.put _ _).put _ _).more _, by simp [hsz], HS, ((hI.set (by simp only; omega) (by simp only; omega) _).set (by simp only; omega) (by simp only; omega) _).alloc _⟩, by simp [intOf]; omega⟩
    · have hk4 : k = 4 := by omega
      subst hk4
      clear hlt
      have hl4 : (tagsL vs).length = 4 := (tagsL_len vs).trans H4.out
      obtain ⟨x0, x1, x2, x3, hts, hcu⟩ := cur4 hsz hl4 (fun j x hx => hcur.out j x (by have := (List.getElem?_eq_some_iff.1 hx).1; omega) hx)
      have HT := hide hts
      clear hcur hts hl4
      subst hcu
      have E1 := hV.eight
      go_wp2_with fail
      refine (past_any x0 x1 x2 x3 wr).mono ?_
      rintro e w5 ⟨g, cap, T, cu, rfl, hg, hB, hsz5, hcu5, hb5⟩
      have I5 := hI.on hb5
      have q1 := (I5.nth 0 rfl).one
      have hL5 := I5.below
      have hwr := hI.room
      have HC := hide hcu5
      clear hcu5 hI I5 E1 hV
      go_wp2
      refine bodyPost_ret (v := .agg #[.slice (some ⟨g, 0, none⟩) 4 cap]) (by simp [results, Try.results31, go_sem, q1]) rfl ?_
      exact ⟨g, cap, T, cu, rfl, by omega, hB.aside (by simp; omega) _, hsz5, by rw [HT.out]; exact HC.out, hL5.setCell (by simp) _⟩

/-- What the round of gathering tags holds. -/
theorem theld {w w' : World} {n b off k c : Nat} {v : V} {T : TypeId} {q : Nat × TypeId × Array Value} (Q : Hid (Six w b (off + k * 6) v)) (hb : b < w.heap.size)
    (h : Inv w n [q, (w.heap.size, T, #[.slice (some ⟨b, off, none⟩) 4 c])] w') :
    w'.cell? ⟨b, off + k * 6 + 1, none⟩ = some (.int .i64 v.t) ∧ w'.cell? ⟨b, off + k * 6 + 2, none⟩ = some (.int .i64 v.u) ∧ w'.cell? ⟨w.heap.size, 0, none⟩ = some (.slice (some ⟨b, off, none⟩) 4 c) ∧ Inv w n [q, (w.heap.size, T, #[.slice (some ⟨b, off, none⟩) 4 c])] w' :=
  ⟨(h.below.cell (p := ⟨b, off + k * 6 + 1, none⟩) hb).trans Q.out.2.1, (h.below.cell (p := ⟨b, off + k * 6 + 2, none⟩) hb).trans Q.out.2.2.1, (h.nth 1 rfl).at 0, h⟩
set_option maxRecDepth 100000 in
set_option maxHeartbeats 2000000 in
theorem l2Tags_any (a : Option Addr) (c : Nat) (vs : List V) (w : World) (h4 : vs.length = 4) (hv : Vg w w.heap.size a vs) :
    Calls Try.prog 69 #[.agg #[.slice a 4 c]] w (JoinedP w (tagsL vs)) := by
  obtain ⟨i0, hi0, hz0, hz1, hz2⟩ := info_parts tag_info
  have I0 := hide hi0
  have I1 := hide hz0
  have I2 := hide hz1
  have I3 := hide hz2
  clear hi0 hz0 hz1 hz2
  have S0 := ((Inv.start w).box 48 #[.slice a 4 c]).box 25 #[.slice none 0 0]
  have V0 := Blk.made ((w.alloc (.cells #[.slice a 4 c] 48)).alloc (.cells #[.slice none 0 0] 25)) 25 #[.slice none 0 0]
  have S1 := S0.alloc (.cells #[.slice none 0 0] 25)
  simp only [World.size_alloc] at S1 V0
  clear S0
  have H4 := hide h4
  clear h4
  go_enter Try.func69, Try.ntmps69
  go_wp2
  go_loopw [4] (fun i wr => ∃ (k : Nat) (v : Value), k ≤ 4 ∧ i = .int .i64 (k : Int) ∧ Blk wr (w.heap.size + 1 + 1) 25 #[v] ∧ wr.ownsRow (w.heap.size + 1 + 1 + 1) 32 2 v k (flatT ((tagsL vs).take k)) ∧ w.heap.size + 1 + 1 + 1 ≤ wr.heap.size ∧ Inv w (w.heap.size + 1 + 1) [(w.heap.size + 1, 25, #[.slice none 0 0]), (w.heap.size, 48, #[.slice a 4 c])] wr) (fun i _ => 4 - (intOf i).toNat)
  case atStart => exact ⟨0, _, Nat.zero_le _, rfl, V0, ⟨by simp [flatT], .inl ⟨rfl, rfl⟩⟩, by simp, S1⟩
  case round =>
    obtain ⟨k, v, hk, rfl, hV, hO, hz, hI⟩ := hrel
    have HO := hide hO
    clear S1 V0 hO
    by_cases hlt : k < 4
    · rcases hv with h0 | ⟨b, off, rfl, hb, hx⟩
      · have := H4.out; subst h0; simp at this
      · have hkl : k < vs.length := by have := H4.out; omega
        obtain ⟨hS, -⟩ := hx k _ (List.getElem?_eq_getElem hkl)
        have HX := hide (List.getElem?_eq_getElem hkl)
        have Q := hide hS
        generalize vs[k] = vv at Q HX
        have HF := hide (flatT_take (tagsL_at HX.out))
        have jh := fun {w' : World} {n : Nat} {q : Nat × TypeId × Array Value} => theld (w := w) (w' := w') (n := n) (q := q) (c := c) (T := 48) Q hb
        obtain ⟨vk, vt, vu, va', vc', vts, vs', vg⟩ := vv
        simp only at jh HF
        clear hx hS
        have k0 := (hI.nth 1 rfl).one.1
        have i1 : (0 : Int) ≤ (k : Int) := by omega
        have i2 : (k : Int) < 4 := by omega
        have q0 := hV.one.1
        have hvf : ∃ (va : Option Addr) (vn vc : Nat), v = .slice va vn vc ∧ (∀ g, v.ownBlock = some g → w.heap.size + 1 + 1 + 1 ≤ g) := by
          rcases HO.out.2 with ⟨rfl, _⟩ | ⟨g, cap, cr, rfl, hg, _⟩
          · exact ⟨none, 0, 0, rfl, by simp [Value.ownBlock]⟩
          · exact ⟨some ⟨g, 0, none⟩, k, cap, rfl, by intro g' hg'; simp [Value.ownBlock] at hg'; omega⟩
        obtain ⟨va, vn, vc, rfl, hvb⟩ := hvf
        have HV := hide hvb
        clear hvb
        have V1 := hV.drew
        have q1 := V1.one.1
        have O1 := hide HO.out.drew
        have q2 := (V1.more (.cells #[.int .i64 vt, .int .i64 vu] 32)).one.1
        have q4 := ((hV.more (.cells #[.int .i64 vt, .int .i64 vu] 32)).drew).one.1
        go_wp2_with fail
        clear k0
        refine wp_region_noPanic ?_
        refine wp_region_held_drew (S := (fun w' => w'.cell? ⟨b, off + k * 6 + 1, none⟩ = some (.int .i64 vt) ∧ w'.cell? ⟨b, off + k * 6 + 2, none⟩ = some (.int .i64 vu) ∧ w'.cell? ⟨w.heap.size, 0, none⟩ = some (.slice (some ⟨b, off, none⟩) 4 c) ∧ Inv w (w.heap.size + 1 + 1) [(w.heap.size + 1, 25, #[.slice none 0 0]), (w.heap.size, 48, #[.slice (some ⟨b, off, none⟩) 4 c])] w')) (by kernel_rfl) (by exact jh hI.drew) (fun hHeld => ?_)
        refine take_run 0 (some 13) (v := ?_) rfl rfl (by kernel_rfl) (by kernel_rfl) (by kernel_rfl) (fun _ _ _ h => h) (by rfl) ?_ hHeld ?_
        rotate_left
        · ((intro w hSw); (try dsimp only at hSw); go_simp <;> with_reducible rfl)
        simp only [Act.put, List.setIfInBounds_toArray, List.set_cons_zero, List.set_cons_succ]
        refine take_run 2 (some 15) (v := ?_) rfl rfl (by kernel_rfl) (by kernel_rfl) (by kernel_rfl) (fun _ _ _ h => h) (by rfl) ?_ hHeld ?_
        rotate_left
        · ((intro w hSw); (try dsimp only at hSw); go_simp <;> with_reducible rfl)
        simp only [Act.put, List.setIfInBounds_toArray, List.set_cons_zero, List.set_cons_succ]
        refine take_run 3 (some 16) (v := ?_) rfl rfl (by kernel_rfl) (by kernel_rfl) (by kernel_rfl) (fun _ _ _ h => h) (by rfl) ?_ hHeld ?_
        rotate_left
        · ((intro w hSw); (try dsimp only at hSw); go_simp <;> with_reducible rfl)
        simp only [Act.put, List.setIfInBounds_toArray, List.set_cons_zero, List.set_cons_succ]
        refine take_run 4 (some 17) (v := ?_) rfl rfl (by kernel_rfl) (by kernel_rfl) (by kernel_rfl) (fun _ _ _ h => h) (by rfl) ?_ hHeld ?_
        rotate_left
        · ((intro w hSw); (try dsimp only at hSw); go_simp <;> with_reducible rfl)
        simp only [Act.put, List.setIfInBounds_toArray, List.set_cons_zero, List.set_cons_succ]
        refine take_run 5 (some 18) (v := ?_) rfl rfl (by kernel_rfl) (by kernel_rfl) (by kernel_rfl) (fun _ _ _ h => h) (by rfl) ?_ hHeld ?_
        rotate_left
        · ((intro w hSw); (try dsimp only at hSw); go_simp <;> with_reducible rfl)
        simp only [Act.put, List.setIfInBounds_toArray, List.set_cons_zero, List.set_cons_succ]
        refine take_run 6 (some 19) (v := ?_) rfl rfl (by kernel_rfl) (by kernel_rfl) (by kernel_rfl) (fun _ _ _ h => h) (by rfl) ?_ hHeld ?_
        rotate_left
        · ((intro w hSw); (try dsimp only at hSw); go_simp <;> with_reducible rfl)
        simp only [Act.put, List.setIfInBounds_toArray, List.set_cons_zero, List.set_cons_succ]
        refine take_run 7 (some 20) (v := ?_) rfl rfl (by kernel_rfl) (by kernel_rfl) (by kernel_rfl) (fun _ _ _ h => h) (by rfl) ?_ hHeld ?_
        rotate_left
        · ((intro w hSw); (try dsimp only at hSw); go_simp <;> with_reducible rfl)
        simp only [Act.put, List.setIfInBounds_toArray, List.set_cons_zero, List.set_cons_succ]
        refine wpAnyH_ready (rs := [1, 8]) (by kernel_rfl) (by simp) ?_
        refine AllReadyH.cons rfl (fun K hK => ?_) (AllReadyH.cons rfl (fun K hK => ?_) AllReadyH.nil)
        · skip
          go_simp
          refine hK.out _ _ (by exact hHeld) (fun hHeld => ?_)
          clear hK K
          refine take_one 8 (by kernel_rfl) rfl (fun K hK => ?_)
          go_simp
          refine hK.out _ _ (by exact jh (hHeld.2.2.2.alloc _)) (fun hHeld => ?_)
          clear hK K
          refine take_one 9 (by kernel_rfl) rfl (fun K hK => ?_)
          (refine step_append_lies _ (by rfl) _ _ _ (by rfl) (w.heap.size + 1 + 1 + 1) 32 i0 _ 2 16 Try.underlying23 I0.out I1.out I2.out I3.out rfl (by omega) (.slice va vn vc) k _ (by rfl) (O1.out.alloc _) ⟨wr.heap.size, 0, none⟩ 1 1 [.int .i64 vt, .int .i64 vu] (by rfl) (by rfl) (World.news_of_block (cs := #[.int .i64 vt, .int .i64 vu]) (t := 32) (fr := (0, 0)) (heap_alloc_new wr.drew _)) (by simp [Value.oneCell']) (by omega) (by unfold maxLen; omega) (by omega) (by simp; omega) _ rfl ?_; intro g cap w2 hown hgrow hat hlt2; have V2 := (V1.more (.cells #[.int .i64 vt, .int .i64 vu] 32)).kept hgrow (by intro e; have := HV.out _ e; omega); have q3 := V2.one; have OW := hide hown; clear hown)
          simp only [List.getElem_toArray, List.getElem_cons_zero, List.getElem_cons_succ, Act.put, List.setIfInBounds_toArray, List.set_cons_zero, List.set_cons_succ]
          refine hK.out _ _ (by exact jh (Inv.grow hHeld.2.2.2 hgrow (fun g' e => by have := HV.out _ e; omega))) (fun hHeld => ?_)
          clear hK K
          refine take_run 10 (some 23) (v := ?_) rfl rfl (by kernel_rfl) (by kernel_rfl) (by kernel_rfl) (fun _ _ _ h => h) (by rfl) ?_ hHeld ?_
          rotate_left
          · ((intro w hSw); (try dsimp only at hSw); go_simp <;> with_reducible rfl)
          simp only [Act.put, List.setIfInBounds_toArray, List.set_cons_zero, List.set_cons_succ]
          refine take_one 11 (by kernel_rfl) rfl (fun K hK => ?_)
          go_simp
          refine hK.out _ _ (by exact jh (hHeld.2.2.2.set (by simp) (by simp; omega) _)) (fun hHeld => ?_)
          clear hK K
          refine wpAnyH_done (by kernel_rfl) ?_ _
          refine NoPanic.normal ?_
          have I9 := hHeld.2.2.2
          have O9 := hide (ownsRow_setCell_below OW.out (a := ⟨w.heap.size + 1 + 1, 0, none⟩) (by simp) (.slice (some ⟨g, 0, none⟩) (k + 1) cap))
          have V9 := V2.put 0 (.slice (some ⟨g, 0, none⟩) (k + 1) cap)
          have z9 := hgrow.size
          clear hHeld V2 q3 q0 q1 q2 q4 V1
          go_wp2
          exact ⟨⟨k + 1, _, by omega, by go_num, V9, by rw [HF.out]; exact O9.out, by simp [World.setCell] at z9 ⊢; omega, I9⟩, by simp [intOf]; omega⟩
        · skip
          go_simp
          refine hK.out _ _ (by exact jh (hHeld.2.2.2.alloc _)) (fun hHeld => ?_)
          clear hK K
          refine take_one 1 (by kernel_rfl) rfl (fun K hK => ?_)
          go_simp
          refine hK.out _ _ (by exact hHeld) (fun hHeld => ?_)
          clear hK K
          refine take_one 9 (by kernel_rfl) rfl (fun K hK => ?_)
          (refine step_append_lies _ (by rfl) _ _ _ (by rfl) (w.heap.size + 1 + 1 + 1) 32 i0 _ 2 16 Try.underlying23 I0.out I1.out I2.out I3.out rfl (by omega) (.slice va vn vc) k _ (by rfl) (O1.out.alloc _) ⟨wr.heap.size, 0, none⟩ 1 1 [.int .i64 vt, .int .i64 vu] (by rfl) (by rfl) (World.news_of_block (cs := #[.int .i64 vt, .int .i64 vu]) (t := 32) (fr := (0, 0)) (heap_alloc_new wr.drew _)) (by simp [Value.oneCell']) (by omega) (by unfold maxLen; omega) (by omega) (by simp; omega) _ rfl ?_; intro g cap w2 hown hgrow hat hlt2; have V2 := (V1.more (.cells #[.int .i64 vt, .int .i64 vu] 32)).kept hgrow (by intro e; have := HV.out _ e; omega); have q3 := V2.one; have OW := hide hown; clear hown)
          simp only [List.getElem_toArray, List.getElem_cons_zero, List.getElem_cons_succ, Act.put, List.setIfInBounds_toArray, List.set_cons_zero, List.set_cons_succ]
          refine hK.out _ _ (by exact jh (Inv.grow hHeld.2.2.2 hgrow (fun g' e => by have := HV.out _ e; omega))) (fun hHeld => ?_)
          clear hK K
          refine take_run 10 (some 23) (v := ?_) rfl rfl (by kernel_rfl) (by kernel_rfl) (by kernel_rfl) (fun _ _ _ h => h) (by rfl) ?_ hHeld ?_
          rotate_left
          · ((intro w hSw); (try dsimp only at hSw); go_simp <;> with_reducible rfl)
          simp only [Act.put, List.setIfInBounds_toArray, List.set_cons_zero, List.set_cons_succ]
          refine take_one 11 (by kernel_rfl) rfl (fun K hK => ?_)
          go_simp
          refine hK.out _ _ (by exact jh (hHeld.2.2.2.set (by simp) (by simp; omega) _)) (fun hHeld => ?_)
          clear hK K
          refine wpAnyH_done (by kernel_rfl) ?_ _
          refine NoPanic.normal ?_
          have I9 := hHeld.2.2.2
          have O9 := hide (ownsRow_setCell_below OW.out (a := ⟨w.heap.size + 1 + 1, 0, none⟩) (by simp) (.slice (some ⟨g, 0, none⟩) (k + 1) cap))
          have V9 := V2.put 0 (.slice (some ⟨g, 0, none⟩) (k + 1) cap)
          have z9 := hgrow.size
          clear hHeld V2 q3 q0 q1 q2 q4 V1
          go_wp2
          exact ⟨⟨k + 1, _, by omega, by go_num, V9, by rw [HF.out]; exact O9.out, by simp [World.setCell] at z9 ⊢; omega, I9⟩, by simp [intOf]; omega⟩
    · have hk4 : k = 4 := by omega
      subst hk4
      clear hlt
      obtain ⟨g, cap, cr, rfl, hg, hblk, _, _, hcs, htk⟩ : ∃ g cap cr, v = .slice (some ⟨g, 0, none⟩) 4 cap ∧ w.heap.size + 1 + 1 + 1 ≤ g ∧ Blk wr g 32 cr ∧ 4 ≤ cap ∧ cap ≤ maxLen ∧ cr.size = cap * 2 ∧ cr.toList.take (4 * 2) = flatT ((tagsL vs).take 4) := by
        rcases HO.out.2 with ⟨_, h⟩ | ⟨g, cap, cr, h⟩
        · omega
        · exact ⟨g, cap, cr, h⟩
      have HR := hide (tags_of_take htk)
      have q0 := hV.one
      have q1 := (hI.nth 0 rfl).one
      have q5 := (hI.nth 1 rfl).one
      have hL := hI.below
      clear htk HO
      go_wp2
      refine bodyPost_ret (v := .agg #[.slice (some ⟨g, 0, none⟩) 4 cap]) (by simp [results, Try.results69, go_sem, q1]) rfl ?_
      exact ⟨g, cap, _, cr, rfl, by omega, hblk.aside (by simp; omega) _, by omega, fun i x hx => HR.out i x (by have h1 := (List.getElem?_eq_some_iff.1 hx).1; rw [tagsL_len] at h1; have := H4.out; omega) hx, hL.setCell (by simp) _⟩
end Go.Proofs.Ytkkjhfgjjakmfaa
