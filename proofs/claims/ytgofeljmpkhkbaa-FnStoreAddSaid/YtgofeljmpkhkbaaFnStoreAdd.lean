/- The law FnStoreAdd (promise 9) holds: of a drawn store and drawn versions, what comes in is as the model's; of such as are ok the store has the latest of what came, in whatever order, once more it is the same. No condition. -/
import Derived.Test.YtgofeljmpkhkbaaLift
import Derived.Test.YtgofeljmpkhkbaaDrawStores3
import Derived.Test.YtgofeljmpkhkbaaStorePure
import Derived.Test.YtgofeljmpkhkbaaCfStores
import Derived.Test.YtgofeljmpkhkbaaReg
namespace Go.Proofs.Ytgofeljmpkhkbaa.FnStoreAdd
open Go.ChangeShapes Go.WideShapes Go.ChangeAt Go.RowKit Go.Joins
attribute [local go_sem ↓] Go.wp_at_zero Go.wp_at_succ

theorem like_via {us vs rs : List V} (hl : us.length = rs.length) (h : Like us rs) (_hl' : vs.length = rs.length) (h' : Like vs rs) : Like us vs :=
  like_trans hl h h'.swap
theorem small_of {us vs : List V} (hl : us.length = vs.length) (h : Like us vs) (hm : Small vs) : ∀ v ∈ us, v.ts.length ≤ 1048576 := fun v hv => by
  obtain ⟨i, hi⟩ := List.getElem?_of_mem hv
  have hlt := (List.getElem?_eq_some_iff.1 hi).1
  have hx := List.getElem?_eq_getElem (l := vs) (i := i) (by omega)
  obtain ⟨_, _, _, e4, _⟩ := h i v _ hi hx
  rw [e4]
  exact (hm _ (List.mem_of_getElem? hx)).1
theorem small_few {vs : List V} (h : FewV vs) : Small vs := fun v hv => ⟨by have := (h v hv).1; omega, by have := (h v hv).2; omega⟩
theorem few_keepV {us : List V} {v : V} (h : FewV us) (hv : v.ts.length ≤ 4 ∧ v.s.size ≤ 16) : FewV (keepL us v) := fewV_keep h hv (keepL_len _ _) (like_refl _)
theorem few_foldV : ∀ (bs vs : List V), FewV vs → FewV bs → FewV (foldK vs bs)
  | [], _, h, _ => h
  | v :: r, vs, h, hb => few_foldV r (keepL vs v) (few_keepV h (hb v (List.mem_cons_self ..))) (fun x hx => hb x (List.mem_cons_of_mem _ hx))
theorem few_joinV {vs bs : List V} (h : FewV vs) (hb : FewV bs) : FewV (joinR vs bs) := by
  unfold joinR
  split
  · exact few_foldV bs vs h hb
  · exact fun v hv => by simp at hv
theorem fewV_like {us vs : List V} (hl : us.length = vs.length) (h : Like us vs) (hf : FewV vs) : FewV us := fun v hv => by
  obtain ⟨i, hi⟩ := List.getElem?_of_mem hv
  have hlt := (List.getElem?_eq_some_iff.1 hi).1
  have hx := List.getElem?_eq_getElem (l := vs) (i := i) (by omega)
  obtain ⟨_, _, _, e4, e5, _⟩ := h i v _ hi hx
  rw [e4, e5]
  exact hf _ (List.mem_of_getElem? hx)
theorem small_zero : Small [v0, v0, v0, v0] := fun v hv => by
  have : v = v0 := by simpa using hv
  rw [this]
  exact ⟨Nat.zero_le _, (by decide : (ByteArray.mk #[]).size ≤ 9223372036854775807)⟩
theorem few_addV {vs : List V} {v : V} (h : FewV vs) (hv : v.ts.length ≤ 4 ∧ v.s.size ≤ 16) : FewV (addR vs v) := by
  unfold addR
  split
  · exact few_keepV h hv
  · exact fun v hv => by simp at hv
theorem add_len {vs : List V} (v : V) (h : vs.length ≤ 4) : (addR vs v).length ≤ 4 := by
  unfold addR
  split
  · rw [keepL_len]; exact h
  · simp
theorem add_same {vs vs9 vs24 : List V} {v : V} (hp : storeB vs = true) (hv : verV v = true) (hl9 : vs9.length = (addR vs v).length) (hi9 : Like vs9 (addR vs v)) (hl24 : vs24.length = (addR vs9 v).length) (hi24 : Like vs24 (addR vs9 v)) :
    (addR vs9 v).length = (addR vs v).length ∧ Like vs24 vs9 := by
  have EU : addR vs v = keepL vs v := by unfold addR; rw [hp, hv]; rfl
  rw [EU] at hl9 hi9
  have hs : storeB vs9 = true := by rw [storeB_like hl9 hi9]; exact store_keep hp hv
  have EV : addR vs9 v = keepL vs9 v := by unfold addR; rw [hs, hv]; rfl
  rw [EV] at hl24 hi24
  refine ⟨by rw [EV, EU, keepL_len, hl9], ?_⟩
  have h1 := like_trans hl24 hi24 (like_keep hl9 hi9)
  rw [keep_twice] at h1
  exact like_trans (by rw [hl24, keepL_len, hl9]) h1 hi9.swap
theorem add_swap {vs vs9 vs11 vs12 : List V} {u v : V} (hp : storeB vs = true) (hv : verV v = true) (hu : verV u = true) (hl9 : vs9.length = (addR vs v).length) (hi9 : Like vs9 (addR vs v)) (hl11 : vs11.length = 4) (hi11 : Like vs11 (addR vs9 u)) (hi12 : Like vs12 (keepL (keepL vs u) v)) (ht : ¬ (v.t = u.t ∧ v.u = u.u)) : Like vs11 vs12 := by
  have EU : addR vs v = keepL vs v := by unfold addR; rw [hp, hv]; rfl
  rw [EU] at hl9 hi9
  have hs : storeB vs9 = true := by rw [storeB_like hl9 hi9]; exact store_keep hp hv
  have EV : addR vs9 u = keepL vs9 u := by unfold addR; rw [hs, hu]; rfl
  rw [EV] at hi11
  have h4 := storeB_four hs
  have h1 := like_trans (by rw [keepL_len, h4, hl11]) hi11 (like_keep (v := u) hl9 hi9)
  rw [keep_swap vs v u ht] at h1
  exact like_trans (by rw [keepL_len, keepL_len, hl11]; exact (storeB_four hp).symm) h1 hi12.swap
theorem tag_at {vs vs9 : List V} {v x : V} {kn : Nat} (hp : storeB vs = true) (hv : verV v = true) (hl9 : vs9.length = (addR vs v).length) (hi9 : Like vs9 (addR vs v)) (ek : v.k = (kn : Int)) (hx : vs[kn]? = some x) : (tagsR vs9)[kn]? = some (mxT x.t x.u v.t v.u, mxP x.t x.u v.t v.u) ∧ (tagsR vs9).length = 4 := by
  have EU : addR vs v = keepL vs v := by unfold addR; rw [hp, hv]; rfl
  rw [EU] at hl9 hi9
  have hs := store_keep hp hv
  rw [tagsR_like hl9 hi9]
  unfold tagsR
  rw [if_pos hs]
  refine ⟨?_, by rw [tagsL_len, keepL_len]; exact storeB_four hp⟩
  rw [tagsL_at (keepL_at hx), if_pos (by rw [ek]; simp), later_tag]
  rfl
theorem neq_eq {x1 x2 y1 y2 : Int} (h : x1 = y1 ∧ x2 = y2) (W : World) : (binOp .neq 27 (.agg #[.int .i64 x1, .int .i64 x2]) (.agg #[.int .i64 y1, .int .i64 y2])).run Try.prog W = .ok (.bool false) W := by
  obtain ⟨rfl, rfl⟩ := h
  go_simp
theorem neq_some (x1 x2 y1 y2 : Int) : ∃ q : Bool, ∀ W : World, (binOp .neq 27 (.agg #[.int .i64 x1, .int .i64 x2]) (.agg #[.int .i64 y1, .int .i64 y2])).run Try.prog W = .ok (.bool q) W := by
  by_cases h : x1 = y1 ∧ x2 = y2
  · exact ⟨false, neq_eq h⟩
  · exact ⟨true, neq_ne h⟩
theorem add_two {vs vsx vs12 : List V} {u v : V} (hp : storeB vs = true) (hv : verV v = true) (hu : verV u = true) (hl : vsx.length = (addR vs u).length) (hi : Like vsx (addR vs u)) (hl12 : vs12.length = (addR vsx v).length) (hi12 : Like vs12 (addR vsx v)) :
    (addR vsx v).length = 4 ∧ vs12.length = 4 ∧ Like vs12 (keepL (keepL vs u) v) := by
  have EU : addR vs u = keepL vs u := by unfold addR; rw [hp, hu]; rfl
  rw [EU] at hl hi
  have hs : storeB vsx = true := by rw [storeB_like hl hi]; exact store_keep hp hu
  have EV : addR vsx v = keepL vsx v := by unfold addR; rw [hs, hv]; rfl
  have h4 := storeB_four hs
  have e : (addR vsx v).length = 4 := by rw [EV, keepL_len]; exact h4
  refine ⟨e, by rw [hl12, e], ?_⟩
  rw [EV] at hl12 hi12
  exact like_trans hl12 hi12 (like_keep hl hi)
set_option maxRecDepth 100000 in
set_option maxHeartbeats 8000000 in
theorem walk (a : Option Addr) (len cap : Nat) (a' : Option Addr) (len' cap' : Nat) (w : World) (hc : Code0 w a len cap) (hc' : Code0 w a' len' cap') :
    Calls Try.prog 3 #[.slice a len cap, .slice a' len' cap'] w fun e w' => e = .returned (.bool true) ∧ Below w.heap.size w w' := by
  by_cases h1 : 1048576 < len
  · have h1' : (1048576 : Int) < (len : Int) := by omega
    go_enter Try.func3, Try.ntmps3
    go_wp2
    go_ret
    exact ⟨rfl, Below.refl _ _⟩
  by_cases h2 : 1048576 < len'
  · have h1' : (len : Int) ≤ 1048576 := by omega
    have h2' : (1048576 : Int) < (len' : Int) := by omega
    go_enter Try.func3, Try.ntmps3
    go_wp2
    go_ret
    exact ⟨rfl, Below.refl _ _⟩
  have h1' : (len : Int) ≤ 1048576 := by omega
  have h2' : (len' : Int) ≤ 1048576 := by omega
  go_enter Try.func3, Try.ntmps3
  go_wp2_with fail
  refine (drawStoreAdd_any w a len cap hc (by omega)).mono ?_
  rintro e w1 ⟨a1, c1, vs, v, rfl, hl1, hf1, hv4, hvs, ht1, ht6, hb1⟩
  have LA := below_alloc2 w1 (.cells #[.slice a1 vs.length c1] 25) (.cells (verC v.k v.t v.u v.a v.ts.length v.c v.s v.g) 32)
  have B5' : Blk ((w1.alloc (.cells #[.slice a1 vs.length c1] 25)).alloc (.cells (verC v.k v.t v.u v.a v.ts.length v.c v.s v.g) 32)) w1.heap.size 25 #[.slice a1 vs.length c1] := (Blk.made _ _ _).more _
  have B6' := Blk.made (w1.alloc (.cells #[.slice a1 vs.length c1] 25)) 32 (verC v.k v.t v.u v.a v.ts.length v.c v.s v.g)
  simp only [World.size_alloc] at B6'
  have V1' := (ht1.on LA).up LA.size
  have T6' := (ht6.on LA).up LA.size
  have L0' := hb1.trans (LA.mono hb1.size)
  have C0' := hc'.on L0'
  clear ht1 ht6 LA hb1 hc hc'
  go_wp2_with fail
  generalize (w1.alloc (.cells #[.slice a1 vs.length c1] 25)).alloc (.cells (verC v.k v.t v.u v.a v.ts.length v.c v.s v.g) 32) = W1 at B5' B6' V1' T6' L0' C0' ⊢
  generalize w1.heap.size + 1 = p6 at *
  generalize w1.heap.size = p5 at *
  refine (drawStoreAdd_any W1 a' len' cap' C0' (by omega)).mono ?_
  rintro e w2 ⟨a2, c2, us, u, rfl, hl2, hf2, hu4, hus, ht2, ht8, hb2⟩
  have LA := below_alloc2 w2 (.cells #[.slice a2 us.length c2] 25) (.cells (verC u.k u.t u.u u.a u.ts.length u.c u.s u.g) 32)
  have LB := hb2.trans (LA.mono hb2.size)
  have B5 := B5'.on LB
  have B6 := B6'.on LB
  have B8 := Blk.made (w2.alloc (.cells #[.slice a2 us.length c2] 25)) 32 (verC u.k u.t u.u u.a u.ts.length u.c u.s u.g)
  simp only [World.size_alloc] at B8
  have V1 := (V1'.on LB).up LB.size
  have T6 := (T6'.on LB).up LB.size
  have T8 := (ht8.on LA).up LA.size
  have L0 := L0'.trans (LB.mono L0'.size)
  clear ht2 ht8 LA hb2 B5' B6' V1' T6' L0' C0' LB hf2 hl2
  have k5 := B5.one.1
  have k6 := B6.six.1
  go_wp2_with fail
  generalize (w2.alloc (.cells #[.slice a2 us.length c2] 25)).alloc (.cells (verC u.k u.t u.u u.a u.ts.length u.c u.s u.g) 32) = W2 at B5 B6 B8 V1 T6 T8 L0 k5 k6 ⊢
  generalize w2.heap.size + 1 = p8 at *
  have hn1 : vs.length ≤ 1048576 := by omega
  have hv4' : v.ts.length ≤ 1048576 := by omega
  have hu4' : u.ts.length ≤ 1048576 := by omega
  have hvs' : v.s.size ≤ 9223372036854775807 := by omega
  have hus' : u.s.size ≤ 9223372036854775807 := by omega
  have SM1 := hide (small_few hf1)
  have FJ := hide (few_addV hf1 ⟨hv4, hvs⟩)
  have hj := add_len v hl1
  have hn9 : (addR vs v).length ≤ 1048576 := by omega
  refine (implStoreAdd_any a1 c1 vs v W2 hn1 SM1.out V1 hv4' hvs' T6).mono ?_
  intro e w3 ha
  obtain ⟨A9, cap9, vs9, rfl, hl9, hi9, hR9, hb3⟩ := answerS_form ha
  clear ha k5 k6
  have HL9 := hide hl9
  have HI9 := hide hi9
  have SM9 := hide (small_few (fewV_like hl9 hi9 FJ.out))
  have HM9 := hide (fun v hv => (SM9.out v hv).1)
  clear hl9 hi9
  have LB := hb3.trans ((below_alloc1 w3 (.cells #[.slice A9 (addR vs v).length cap9] 25)).mono hb3.size)
  replace B5 := B5.on LB
  replace B6 := B6.on LB
  replace B8 := B8.on LB
  have B9 := Blk.made w3 25 #[.slice A9 (addR vs v).length cap9]
  replace V1 := (V1.on LB).up LB.size
  replace T6 := (T6.on LB).up LB.size
  replace T8 := (T8.on LB).up LB.size
  have V9 := (hR9.alloc (.cells #[.slice A9 (addR vs v).length cap9] 25)).vg
  replace L0 := L0.trans (LB.mono L0.size)
  clear LB hb3 hR9
  go_wp2_with fail
  generalize w3.alloc (.cells #[.slice A9 (addR vs v).length cap9] 25) = W at B5 B6 B8 B9 V1 T6 T8 V9 L0 ⊢
  generalize w3.heap.size = p9 at *
  have LR := Below.refl W.heap.size W
  cases hp : storeB vs
  · have HP := hide hp
    clear hp
    refine wp_region_noPanic ?_
    refine wp_region_held_drew (S := (fun w' => (w'.cell? ⟨p5, 0, none⟩ = some (.slice a1 vs.length c1) ∧ (w'.cell? ⟨p6, 0, none⟩ = some (.int .i64 v.k) ∧ w'.cell? ⟨p6, 1, none⟩ = some (.int .i64 v.t) ∧ w'.cell? ⟨p6, 2, none⟩ = some (.int .i64 v.u) ∧ w'.cell? ⟨p6, 3, none⟩ = some (.slice v.a v.ts.length v.c) ∧ w'.cell? ⟨p6, 4, none⟩ = some (.string v.s) ∧ w'.cell? ⟨p6, 5, none⟩ = some (.bool v.g)) ∧ (w'.cell? ⟨p8, 0, none⟩ = some (.int .i64 u.k) ∧ w'.cell? ⟨p8, 1, none⟩ = some (.int .i64 u.t) ∧ w'.cell? ⟨p8, 2, none⟩ = some (.int .i64 u.u) ∧ w'.cell? ⟨p8, 3, none⟩ = some (.slice u.a u.ts.length u.c) ∧ w'.cell? ⟨p8, 4, none⟩ = some (.string u.s) ∧ w'.cell? ⟨p8, 5, none⟩ = some (.bool u.g)) ∧ w'.cell? ⟨p9, 0, none⟩ = some (.slice A9 (addR vs v).length cap9)) ∧ Below W.heap.size W w')) (by kernel_rfl) (by exact ⟨⟨((B5.on (LR)).drew).at 0, ((B6.on (LR)).drew).six.1, ((B8.on (LR)).drew).six.1, ((B9.on (LR)).drew).at 0⟩, (LR).drew⟩) (fun hHeld => ?_)
    refine take_run 0 (some 35) (v := ?_) rfl rfl (by kernel_rfl) (by kernel_rfl) (by kernel_rfl) (fun _ _ _ h => h) (by rfl) ?_ hHeld ?_
    rotate_left
    · ((intro w hSw); (try dsimp only at hSw); go_simp <;> with_reducible rfl)
    simp only [Act.put, List.setIfInBounds_toArray, List.set_cons_zero, List.set_cons_succ]
    refine take_run 1 (some 36) (v := ?_) rfl rfl (by kernel_rfl) (by kernel_rfl) (by kernel_rfl) (fun _ _ _ h => h) (by rfl) ?_ hHeld ?_
    rotate_left
    · ((intro w hSw); (try dsimp only at hSw); go_simp <;> with_reducible rfl)
    simp only [Act.put, List.setIfInBounds_toArray, List.set_cons_zero, List.set_cons_succ]
    refine take_run 2 (some 37) (v := ?_) rfl rfl (by kernel_rfl) (by kernel_rfl) (by kernel_rfl) (fun _ _ _ h => h) (by rfl) ?_ hHeld ?_
    rotate_left
    · ((intro w hSw); (try dsimp only at hSw); go_simp <;> with_reducible rfl)
    simp only [Act.put, List.setIfInBounds_toArray, List.set_cons_zero, List.set_cons_succ]
    refine take_one 3 (by kernel_rfl) rfl (fun K hK => ?_)
    go_simp
    (refine (specStoreAdd_any a1 c1 vs v _ hn1 SM1.out ((V1.on hHeld.2).up hHeld.2.size) hv4' hvs' ((T6.on hHeld.2).up hHeld.2.size)).mono ?_; intro e wa3 ha; obtain ⟨A3, cap3, vs3, rfl, hl3, hi3, hR3, hb⟩ := answerS_form ha; clear ha)
    try go_wp2_with fail
    refine hK.out _ _ (by exact ⟨⟨(B5.on (hHeld.2.trans (hb.mono hHeld.2.size))).at 0, (B6.on (hHeld.2.trans (hb.mono hHeld.2.size))).six.1, (B8.on (hHeld.2.trans (hb.mono hHeld.2.size))).six.1, (B9.on (hHeld.2.trans (hb.mono hHeld.2.size))).at 0⟩, hHeld.2.trans (hb.mono hHeld.2.size)⟩) (fun hHeld => ?_)
    clear hK K
    refine take_one 4 (by kernel_rfl) rfl (fun K hK => ?_)
    go_simp
    (refine (cfStore_same A9 A3 cap9 cap3 _ vs9 vs3 _ hn9 HL9.out hl3 (like_via HL9.out HI9.out hl3 hi3) HM9.out ((V9.on hHeld.2).up hHeld.2.size) hR3.vg).mono ?_; rintro e wb4 ⟨rfl, hb⟩)
    try go_wp2_with fail
    refine hK.out _ _ (by exact ⟨⟨(B5.on (hHeld.2.trans (hb.mono hHeld.2.size))).at 0, (B6.on (hHeld.2.trans (hb.mono hHeld.2.size))).six.1, (B8.on (hHeld.2.trans (hb.mono hHeld.2.size))).six.1, (B9.on (hHeld.2.trans (hb.mono hHeld.2.size))).at 0⟩, hHeld.2.trans (hb.mono hHeld.2.size)⟩) (fun hHeld => ?_)
    clear hK K
    refine take_run 5 (some 40) (v := ?_) rfl rfl (by kernel_rfl) (by kernel_rfl) (by kernel_rfl) (fun _ _ _ h => h) (by rfl) ?_ hHeld ?_
    rotate_left
    · ((intro w hSw); (try dsimp only at hSw); go_simp <;> with_reducible rfl)
    simp only [Act.put, List.setIfInBounds_toArray, List.set_cons_zero, List.set_cons_succ]
    refine take_run 6 (some 41) (v := ?_) rfl rfl (by kernel_rfl) (by kernel_rfl) (by kernel_rfl) (fun _ _ _ h => h) (by rfl) ?_ hHeld ?_
    rotate_left
    · ((intro w hSw); (try dsimp only at hSw); go_simp <;> with_reducible rfl)
    simp only [Act.put, List.setIfInBounds_toArray, List.set_cons_zero, List.set_cons_succ]
    refine take_run 7 (some 42) (v := ?_) rfl rfl (by kernel_rfl) (by kernel_rfl) (by kernel_rfl) (fun _ _ _ h => h) (by rfl) ?_ hHeld ?_
    rotate_left
    · ((intro w hSw); (try dsimp only at hSw); go_simp <;> with_reducible rfl)
    simp only [Act.put, List.setIfInBounds_toArray, List.set_cons_zero, List.set_cons_succ]
    refine take_run 9 (some 44) (v := ?_) rfl rfl (by kernel_rfl) (by kernel_rfl) (by kernel_rfl) (fun _ _ _ h => h) (by rfl) ?_ hHeld ?_
    rotate_left
    · ((intro w hSw); (try dsimp only at hSw); go_simp <;> with_reducible rfl)
    simp only [Act.put, List.setIfInBounds_toArray, List.set_cons_zero, List.set_cons_succ]
    refine take_one 8 (by kernel_rfl) rfl (fun K hK => ?_)
    go_simp
    (refine (implStoreOk_any a1 c1 vs _ hn1 SM1.out ((V1.on hHeld.2).up hHeld.2.size)).mono ?_; rintro e wc8 ⟨rfl, hb⟩; rw [HP.out])
    try go_wp2_with fail
    refine hK.out _ _ (by exact ⟨⟨(B5.on (hHeld.2.trans (hb.mono hHeld.2.size))).at 0, (B6.on (hHeld.2.trans (hb.mono hHeld.2.size))).six.1, (B8.on (hHeld.2.trans (hb.mono hHeld.2.size))).six.1, (B9.on (hHeld.2.trans (hb.mono hHeld.2.size))).at 0⟩, hHeld.2.trans (hb.mono hHeld.2.size)⟩) (fun hHeld => ?_)
    clear hK K
    refine take_one 10 (by kernel_rfl) rfl (fun K hK => ?_)
    go_simp
    (refine (specStoreOk_any a1 c1 vs _ hn1 SM1.out ((V1.on hHeld.2).up hHeld.2.size)).mono ?_; rintro e wc10 ⟨rfl, hb⟩; rw [HP.out])
    try go_wp2_with fail
    refine hK.out _ _ (by exact ⟨⟨(B5.on (hHeld.2.trans (hb.mono hHeld.2.size))).at 0, (B6.on (hHeld.2.trans (hb.mono hHeld.2.size))).six.1, (B8.on (hHeld.2.trans (hb.mono hHeld.2.size))).six.1, (B9.on (hHeld.2.trans (hb.mono hHeld.2.size))).at 0⟩, hHeld.2.trans (hb.mono hHeld.2.size)⟩) (fun hHeld => ?_)
    clear hK K
    refine take_run 11 (some 46) (v := ?_) rfl rfl (by kernel_rfl) (by kernel_rfl) (by kernel_rfl) (fun _ _ _ h => h) (by rfl) ?_ hHeld ?_
    rotate_left
    · ((intro w hSw); (try dsimp only at hSw); go_simp <;> with_reducible rfl)
    simp only [Act.put, List.setIfInBounds_toArray, List.set_cons_zero, List.set_cons_succ]
    refine take_run 12 (some 47) (v := ?_) rfl rfl (by kernel_rfl) (by kernel_rfl) (by kernel_rfl) (fun _ _ _ h => h) (by rfl) ?_ hHeld ?_
    rotate_left
    · ((intro w hSw); (try dsimp only at hSw); go_simp <;> with_reducible rfl)
    simp only [Act.put, List.setIfInBounds_toArray, List.set_cons_zero, List.set_cons_succ]
    refine take_run 13 (some 48) (v := ?_) rfl rfl (by kernel_rfl) (by kernel_rfl) (by kernel_rfl) (fun _ _ _ h => h) (by rfl) ?_ hHeld ?_
    rotate_left
    · ((intro w hSw); (try dsimp only at hSw); go_simp <;> with_reducible rfl)
    simp only [Act.put, List.setIfInBounds_toArray, List.set_cons_zero, List.set_cons_succ]
    refine take_run 14 (some 49) (v := ?_) rfl rfl (by kernel_rfl) (by kernel_rfl) (by kernel_rfl) (fun _ _ _ h => h) (by rfl) ?_ hHeld ?_
    rotate_left
    · ((intro w hSw); (try dsimp only at hSw); go_simp <;> with_reducible rfl)
    simp only [Act.put, List.setIfInBounds_toArray, List.set_cons_zero, List.set_cons_succ]
    refine take_one 15 (by kernel_rfl) rfl (fun K hK => ?_)
    go_simp
    (refine (implStoreOk_any a1 c1 vs _ hn1 SM1.out ((V1.on hHeld.2).up hHeld.2.size)).mono ?_; rintro e wc15 ⟨rfl, hb⟩; rw [HP.out])
    try go_wp2_with fail
    refine hK.out _ _ (by exact ⟨⟨(B5.on (hHeld.2.trans (hb.mono hHeld.2.size))).at 0, (B6.on (hHeld.2.trans (hb.mono hHeld.2.size))).six.1, (B8.on (hHeld.2.trans (hb.mono hHeld.2.size))).six.1, (B9.on (hHeld.2.trans (hb.mono hHeld.2.size))).at 0⟩, hHeld.2.trans (hb.mono hHeld.2.size)⟩) (fun hHeld => ?_)
    clear hK K
    refine take_run 16 (some 51) (v := ?_) rfl rfl (by kernel_rfl) (by kernel_rfl) (by kernel_rfl) (fun _ _ _ h => h) (by rfl) ?_ hHeld ?_
    rotate_left
    · ((intro w hSw); (try dsimp only at hSw); go_simp <;> with_reducible rfl)
    simp only [Act.put, List.setIfInBounds_toArray, List.set_cons_zero, List.set_cons_succ]
    refine take_run 17 (some 52) (v := ?_) rfl rfl (by kernel_rfl) (by kernel_rfl) (by kernel_rfl) (fun _ _ _ h => h) (by rfl) ?_ hHeld ?_
    rotate_left
    · ((intro w hSw); (try dsimp only at hSw); go_simp <;> with_reducible rfl)
    simp only [Act.put, List.setIfInBounds_toArray, List.set_cons_zero, List.set_cons_succ]
    refine take_run 18 (some 53) (v := ?_) rfl rfl (by kernel_rfl) (by kernel_rfl) (by kernel_rfl) (fun _ _ _ h => h) (by rfl) ?_ hHeld ?_
    rotate_left
    · ((intro w hSw); (try dsimp only at hSw); go_simp <;> with_reducible rfl)
    simp only [Act.put, List.setIfInBounds_toArray, List.set_cons_zero, List.set_cons_succ]
    refine take_skip 19 (some 54) rfl rfl (by kernel_rfl) (by kernel_rfl) (by kernel_rfl) (fun _ _ _ h => h) (by rfl) hHeld ?_
    simp only [Act.put, List.setIfInBounds_toArray, List.set_cons_zero, List.set_cons_succ]
    refine take_skip 20 (some 55) rfl rfl (by kernel_rfl) (by kernel_rfl) (by kernel_rfl) (fun _ _ _ h => h) (by rfl) hHeld ?_
    simp only [Act.put, List.setIfInBounds_toArray, List.set_cons_zero, List.set_cons_succ]
    refine take_skip 21 (some 56) rfl rfl (by kernel_rfl) (by kernel_rfl) (by kernel_rfl) (fun _ _ _ h => h) (by rfl) hHeld ?_
    simp only [Act.put, List.setIfInBounds_toArray, List.set_cons_zero, List.set_cons_succ]
    refine take_run 22 (some 57) (v := ?_) rfl rfl (by kernel_rfl) (by kernel_rfl) (by kernel_rfl) (fun _ _ _ h => h) (by rfl) ?_ hHeld ?_
    rotate_left
    · ((intro w hSw); (try dsimp only at hSw); go_simp <;> with_reducible rfl)
    simp only [Act.put, List.setIfInBounds_toArray, List.set_cons_zero, List.set_cons_succ]
    refine take_run 23 (some 58) (v := ?_) rfl rfl (by kernel_rfl) (by kernel_rfl) (by kernel_rfl) (fun _ _ _ h => h) (by rfl) ?_ hHeld ?_
    rotate_left
    · ((intro w hSw); (try dsimp only at hSw); go_simp <;> with_reducible rfl)
    simp only [Act.put, List.setIfInBounds_toArray, List.set_cons_zero, List.set_cons_succ]
    refine take_skip 24 (some 59) rfl rfl (by kernel_rfl) (by kernel_rfl) (by kernel_rfl) (fun _ _ _ h => h) (by rfl) hHeld ?_
    simp only [Act.put, List.setIfInBounds_toArray, List.set_cons_zero, List.set_cons_succ]
    refine take_skip 25 (some 60) rfl rfl (by kernel_rfl) (by kernel_rfl) (by kernel_rfl) (fun _ _ _ h => h) (by rfl) hHeld ?_
    simp only [Act.put, List.setIfInBounds_toArray, List.set_cons_zero, List.set_cons_succ]
    refine take_skip 26 (some 61) rfl rfl (by kernel_rfl) (by kernel_rfl) (by kernel_rfl) (fun _ _ _ h => h) (by rfl) hHeld ?_
    simp only [Act.put, List.setIfInBounds_toArray, List.set_cons_zero, List.set_cons_succ]
    refine take_run 27 (some 62) (v := ?_) rfl rfl (by kernel_rfl) (by kernel_rfl) (by kernel_rfl) (fun _ _ _ h => h) (by rfl) ?_ hHeld ?_
    rotate_left
    · ((intro w hSw); (try dsimp only at hSw); go_simp <;> with_reducible rfl)
    simp only [Act.put, List.setIfInBounds_toArray, List.set_cons_zero, List.set_cons_succ]
    refine wpAnyH_done (by kernel_rfl) ?_ _
    refine NoPanic.normal ?_
    have LX := hHeld.2
    clear hHeld
    go_wp2_with fail
    refine wp_region_noPanic ?_
    refine wp_region_held_drew (S := (fun w' => (w'.cell? ⟨p5, 0, none⟩ = some (.slice a1 vs.length c1) ∧ (w'.cell? ⟨p6, 0, none⟩ = some (.int .i64 v.k) ∧ w'.cell? ⟨p6, 1, none⟩ = some (.int .i64 v.t) ∧ w'.cell? ⟨p6, 2, none⟩ = some (.int .i64 v.u) ∧ w'.cell? ⟨p6, 3, none⟩ = some (.slice v.a v.ts.length v.c) ∧ w'.cell? ⟨p6, 4, none⟩ = some (.string v.s) ∧ w'.cell? ⟨p6, 5, none⟩ = some (.bool v.g)) ∧ (w'.cell? ⟨p8, 0, none⟩ = some (.int .i64 u.k) ∧ w'.cell? ⟨p8, 1, none⟩ = some (.int .i64 u.t) ∧ w'.cell? ⟨p8, 2, none⟩ = some (.int .i64 u.u) ∧ w'.cell? ⟨p8, 3, none⟩ = some (.slice u.a u.ts.length u.c) ∧ w'.cell? ⟨p8, 4, none⟩ = some (.string u.s) ∧ w'.cell? ⟨p8, 5, none⟩ = some (.bool u.g)) ∧ w'.cell? ⟨p9, 0, none⟩ = some (.slice A9 (addR vs v).length cap9)) ∧ Below W.heap.size W w')) (by kernel_rfl) (by exact ⟨⟨((B5.on (LX)).drew).at 0, ((B6.on (LX)).drew).six.1, ((B8.on (LX)).drew).six.1, ((B9.on (LX)).drew).at 0⟩, (LX).drew⟩) (fun hHeld => ?_)
    refine take_run 0 (some 63) (v := ?_) rfl rfl (by kernel_rfl) (by kernel_rfl) (by kernel_rfl) (fun _ _ _ h => h) (by rfl) ?_ hHeld ?_
    rotate_left
    · ((intro w hSw); (try dsimp only at hSw); go_simp <;> with_reducible rfl)
    simp only [Act.put, List.setIfInBounds_toArray, List.set_cons_zero, List.set_cons_succ]
    refine take_run 1 (some 64) (v := ?_) rfl rfl (by kernel_rfl) (by kernel_rfl) (by kernel_rfl) (fun _ _ _ h => h) (by rfl) ?_ hHeld ?_
    rotate_left
    · ((intro w hSw); (try dsimp only at hSw); go_simp <;> with_reducible rfl)
    simp only [Act.put, List.setIfInBounds_toArray, List.set_cons_zero, List.set_cons_succ]
    refine take_run 2 (some 65) (v := ?_) rfl rfl (by kernel_rfl) (by kernel_rfl) (by kernel_rfl) (fun _ _ _ h => h) (by rfl) ?_ hHeld ?_
    rotate_left
    · ((intro w hSw); (try dsimp only at hSw); go_simp <;> with_reducible rfl)
    simp only [Act.put, List.setIfInBounds_toArray, List.set_cons_zero, List.set_cons_succ]
    refine take_one 3 (by kernel_rfl) rfl (fun K hK => ?_)
    go_simp
    (refine (specStoreAdd_any a1 c1 vs v _ hn1 SM1.out ((V1.on hHeld.2).up hHeld.2.size) hv4' hvs' ((T6.on hHeld.2).up hHeld.2.size)).mono ?_; intro e wa3 ha; obtain ⟨A3, cap3, vs3, rfl, hl3, hi3, hR3, hb⟩ := answerS_form ha; clear ha)
    try go_wp2_with fail
    refine hK.out _ _ (by exact ⟨⟨(B5.on (hHeld.2.trans (hb.mono hHeld.2.size))).at 0, (B6.on (hHeld.2.trans (hb.mono hHeld.2.size))).six.1, (B8.on (hHeld.2.trans (hb.mono hHeld.2.size))).six.1, (B9.on (hHeld.2.trans (hb.mono hHeld.2.size))).at 0⟩, hHeld.2.trans (hb.mono hHeld.2.size)⟩) (fun hHeld => ?_)
    clear hK K
    refine take_one 4 (by kernel_rfl) rfl (fun K hK => ?_)
    go_simp
    (refine (cfStore_same A9 A3 cap9 cap3 _ vs9 vs3 _ hn9 HL9.out hl3 (like_via HL9.out HI9.out hl3 hi3) HM9.out ((V9.on hHeld.2).up hHeld.2.size) hR3.vg).mono ?_; rintro e wb4 ⟨rfl, hb⟩)
    try go_wp2_with fail
    refine hK.out _ _ (by exact ⟨⟨(B5.on (hHeld.2.trans (hb.mono hHeld.2.size))).at 0, (B6.on (hHeld.2.trans (hb.mono hHeld.2.size))).six.1, (B8.on (hHeld.2.trans (hb.mono hHeld.2.size))).six.1, (B9.on (hHeld.2.trans (hb.mono hHeld.2.size))).at 0⟩, hHeld.2.trans (hb.mono hHeld.2.size)⟩) (fun hHeld => ?_)
    clear hK K
    refine take_run 5 (some 68) (v := ?_) rfl rfl (by kernel_rfl) (by kernel_rfl) (by kernel_rfl) (fun _ _ _ h => h) (by rfl) ?_ hHeld ?_
    rotate_left
    · ((intro w hSw); (try dsimp only at hSw); go_simp <;> with_reducible rfl)
    simp only [Act.put, List.setIfInBounds_toArray, List.set_cons_zero, List.set_cons_succ]
    refine take_run 6 (some 69) (v := ?_) rfl rfl (by kernel_rfl) (by kernel_rfl) (by kernel_rfl) (fun _ _ _ h => h) (by rfl) ?_ hHeld ?_
    rotate_left
    · ((intro w hSw); (try dsimp only at hSw); go_simp <;> with_reducible rfl)
    simp only [Act.put, List.setIfInBounds_toArray, List.set_cons_zero, List.set_cons_succ]
    refine take_run 8 (some 71) (v := ?_) rfl rfl (by kernel_rfl) (by kernel_rfl) (by kernel_rfl) (fun _ _ _ h => h) (by rfl) ?_ hHeld ?_
    rotate_left
    · ((intro w hSw); (try dsimp only at hSw); go_simp <;> with_reducible rfl)
    simp only [Act.put, List.setIfInBounds_toArray, List.set_cons_zero, List.set_cons_succ]
    refine take_one 7 (by kernel_rfl) rfl (fun K hK => ?_)
    go_simp
    (refine (implStoreOk_any a1 c1 vs _ hn1 SM1.out ((V1.on hHeld.2).up hHeld.2.size)).mono ?_; rintro e wc7 ⟨rfl, hb⟩; rw [HP.out])
    try go_wp2_with fail
    refine hK.out _ _ (by exact ⟨⟨(B5.on (hHeld.2.trans (hb.mono hHeld.2.size))).at 0, (B6.on (hHeld.2.trans (hb.mono hHeld.2.size))).six.1, (B8.on (hHeld.2.trans (hb.mono hHeld.2.size))).six.1, (B9.on (hHeld.2.trans (hb.mono hHeld.2.size))).at 0⟩, hHeld.2.trans (hb.mono hHeld.2.size)⟩) (fun hHeld => ?_)
    clear hK K
    refine take_one 9 (by kernel_rfl) rfl (fun K hK => ?_)
    go_simp
    (refine (specStoreOk_any a1 c1 vs _ hn1 SM1.out ((V1.on hHeld.2).up hHeld.2.size)).mono ?_; rintro e wc9 ⟨rfl, hb⟩; rw [HP.out])
    try go_wp2_with fail
    refine hK.out _ _ (by exact ⟨⟨(B5.on (hHeld.2.trans (hb.mono hHeld.2.size))).at 0, (B6.on (hHeld.2.trans (hb.mono hHeld.2.size))).six.1, (B8.on (hHeld.2.trans (hb.mono hHeld.2.size))).six.1, (B9.on (hHeld.2.trans (hb.mono hHeld.2.size))).at 0⟩, hHeld.2.trans (hb.mono hHeld.2.size)⟩) (fun hHeld => ?_)
    clear hK K
    refine take_run 10 (some 73) (v := ?_) rfl rfl (by kernel_rfl) (by kernel_rfl) (by kernel_rfl) (fun _ _ _ h => h) (by rfl) ?_ hHeld ?_
    rotate_left
    · ((intro w hSw); (try dsimp only at hSw); go_simp <;> with_reducible rfl)
    simp only [Act.put, List.setIfInBounds_toArray, List.set_cons_zero, List.set_cons_succ]
    refine take_run 11 (some 74) (v := ?_) rfl rfl (by kernel_rfl) (by kernel_rfl) (by kernel_rfl) (fun _ _ _ h => h) (by rfl) ?_ hHeld ?_
    rotate_left
    · ((intro w hSw); (try dsimp only at hSw); go_simp <;> with_reducible rfl)
    simp only [Act.put, List.setIfInBounds_toArray, List.set_cons_zero, List.set_cons_succ]
    refine take_run 12 (some 4) (v := ?_) rfl rfl (by kernel_rfl) (by kernel_rfl) (by kernel_rfl) (fun _ _ _ h => h) (by rfl) ?_ hHeld ?_
    rotate_left
    · ((intro w hSw); (try dsimp only at hSw); go_simp <;> with_reducible rfl)
    simp only [Act.put, List.setIfInBounds_toArray, List.set_cons_zero, List.set_cons_succ]
    refine wpAnyH_done (by kernel_rfl) ?_ _
    refine NoPanic.normal ?_
    have L9 := L0.trans (hHeld.2.mono L0.size)
    clear hHeld
    go_wp2
    go_ret
    exact ⟨rfl, L9⟩
  have HP := hide hp
  clear hp
  cases hq : verB v.k v.t v.u v.ts v.s v.g
  · have HQ := hide hq
    clear hq
    refine wp_region_noPanic ?_
    refine wp_region_held_drew (S := (fun w' => (w'.cell? ⟨p5, 0, none⟩ = some (.slice a1 vs.length c1) ∧ (w'.cell? ⟨p6, 0, none⟩ = some (.int .i64 v.k) ∧ w'.cell? ⟨p6, 1, none⟩ = some (.int .i64 v.t) ∧ w'.cell? ⟨p6, 2, none⟩ = some (.int .i64 v.u) ∧ w'.cell? ⟨p6, 3, none⟩ = some (.slice v.a v.ts.length v.c) ∧ w'.cell? ⟨p6, 4, none⟩ = some (.string v.s) ∧ w'.cell? ⟨p6, 5, none⟩ = some (.bool v.g)) ∧ (w'.cell? ⟨p8, 0, none⟩ = some (.int .i64 u.k) ∧ w'.cell? ⟨p8, 1, none⟩ = some (.int .i64 u.t) ∧ w'.cell? ⟨p8, 2, none⟩ = some (.int .i64 u.u) ∧ w'.cell? ⟨p8, 3, none⟩ = some (.slice u.a u.ts.length u.c) ∧ w'.cell? ⟨p8, 4, none⟩ = some (.string u.s) ∧ w'.cell? ⟨p8, 5, none⟩ = some (.bool u.g)) ∧ w'.cell? ⟨p9, 0, none⟩ = some (.slice A9 (addR vs v).length cap9)) ∧ Below W.heap.size W w')) (by kernel_rfl) (by exact ⟨⟨((B5.on (LR)).drew).at 0, ((B6.on (LR)).drew).six.1, ((B8.on (LR)).drew).six.1, ((B9.on (LR)).drew).at 0⟩, (LR).drew⟩) (fun hHeld => ?_)
    refine take_run 0 (some 35) (v := ?_) rfl rfl (by kernel_rfl) (by kernel_rfl) (by kernel_rfl) (fun _ _ _ h => h) (by rfl) ?_ hHeld ?_
    rotate_left
    · ((intro w hSw); (try dsimp only at hSw); go_simp <;> with_reducible rfl)
    simp only [Act.put, List.setIfInBounds_toArray, List.set_cons_zero, List.set_cons_succ]
    refine take_run 1 (some 36) (v := ?_) rfl rfl (by kernel_rfl) (by kernel_rfl) (by kernel_rfl) (fun _ _ _ h => h) (by rfl) ?_ hHeld ?_
    rotate_left
    · ((intro w hSw); (try dsimp only at hSw); go_simp <;> with_reducible rfl)
    simp only [Act.put, List.setIfInBounds_toArray, List.set_cons_zero, List.set_cons_succ]
    refine take_run 2 (some 37) (v := ?_) rfl rfl (by kernel_rfl) (by kernel_rfl) (by kernel_rfl) (fun _ _ _ h => h) (by rfl) ?_ hHeld ?_
    rotate_left
    · ((intro w hSw); (try dsimp only at hSw); go_simp <;> with_reducible rfl)
    simp only [Act.put, List.setIfInBounds_toArray, List.set_cons_zero, List.set_cons_succ]
    refine take_one 3 (by kernel_rfl) rfl (fun K hK => ?_)
    go_simp
    (refine (specStoreAdd_any a1 c1 vs v _ hn1 SM1.out ((V1.on hHeld.2).up hHeld.2.size) hv4' hvs' ((T6.on hHeld.2).up hHeld.2.size)).mono ?_; intro e wa3 ha; obtain ⟨A3, cap3, vs3, rfl, hl3, hi3, hR3, hb⟩ := answerS_form ha; clear ha)
    try go_wp2_with fail
    refine hK.out _ _ (by exact ⟨⟨(B5.on (hHeld.2.trans (hb.mono hHeld.2.size))).at 0, (B6.on (hHeld.2.trans (hb.mono hHeld.2.size))).six.1, (B8.on (hHeld.2.trans (hb.mono hHeld.2.size))).six.1, (B9.on (hHeld.2.trans (hb.mono hHeld.2.size))).at 0⟩, hHeld.2.trans (hb.mono hHeld.2.size)⟩) (fun hHeld => ?_)
    clear hK K
    refine take_one 4 (by kernel_rfl) rfl (fun K hK => ?_)
    go_simp
    (refine (cfStore_same A9 A3 cap9 cap3 _ vs9 vs3 _ hn9 HL9.out hl3 (like_via HL9.out HI9.out hl3 hi3) HM9.out ((V9.on hHeld.2).up hHeld.2.size) hR3.vg).mono ?_; rintro e wb4 ⟨rfl, hb⟩)
    try go_wp2_with fail
    refine hK.out _ _ (by exact ⟨⟨(B5.on (hHeld.2.trans (hb.mono hHeld.2.size))).at 0, (B6.on (hHeld.2.trans (hb.mono hHeld.2.size))).six.1, (B8.on (hHeld.2.trans (hb.mono hHeld.2.size))).six.1, (B9.on (hHeld.2.trans (hb.mono hHeld.2.size))).at 0⟩, hHeld.2.trans (hb.mono hHeld.2.size)⟩) (fun hHeld => ?_)
    clear hK K
    refine take_run 5 (some 40) (v := ?_) rfl rfl (by kernel_rfl) (by kernel_rfl) (by kernel_rfl) (fun _ _ _ h => h) (by rfl) ?_ hHeld ?_
    rotate_left
    · ((intro w hSw); (try dsimp only at hSw); go_simp <;> with_reducible rfl)
    simp only [Act.put, List.setIfInBounds_toArray, List.set_cons_zero, List.set_cons_succ]
    refine take_run 6 (some 41) (v := ?_) rfl rfl (by kernel_rfl) (by kernel_rfl) (by kernel_rfl) (fun _ _ _ h => h) (by rfl) ?_ hHeld ?_
    rotate_left
    · ((intro w hSw); (try dsimp only at hSw); go_simp <;> with_reducible rfl)
    simp only [Act.put, List.setIfInBounds_toArray, List.set_cons_zero, List.set_cons_succ]
    refine take_run 7 (some 42) (v := ?_) rfl rfl (by kernel_rfl) (by kernel_rfl) (by kernel_rfl) (fun _ _ _ h => h) (by rfl) ?_ hHeld ?_
    rotate_left
    · ((intro w hSw); (try dsimp only at hSw); go_simp <;> with_reducible rfl)
    simp only [Act.put, List.setIfInBounds_toArray, List.set_cons_zero, List.set_cons_succ]
    refine take_run 9 (some 44) (v := ?_) rfl rfl (by kernel_rfl) (by kernel_rfl) (by kernel_rfl) (fun _ _ _ h => h) (by rfl) ?_ hHeld ?_
    rotate_left
    · ((intro w hSw); (try dsimp only at hSw); go_simp <;> with_reducible rfl)
    simp only [Act.put, List.setIfInBounds_toArray, List.set_cons_zero, List.set_cons_succ]
    refine take_one 8 (by kernel_rfl) rfl (fun K hK => ?_)
    go_simp
    (refine (implStoreOk_any a1 c1 vs _ hn1 SM1.out ((V1.on hHeld.2).up hHeld.2.size)).mono ?_; rintro e wc8 ⟨rfl, hb⟩; rw [HP.out])
    try go_wp2_with fail
    refine hK.out _ _ (by exact ⟨⟨(B5.on (hHeld.2.trans (hb.mono hHeld.2.size))).at 0, (B6.on (hHeld.2.trans (hb.mono hHeld.2.size))).six.1, (B8.on (hHeld.2.trans (hb.mono hHeld.2.size))).six.1, (B9.on (hHeld.2.trans (hb.mono hHeld.2.size))).at 0⟩, hHeld.2.trans (hb.mono hHeld.2.size)⟩) (fun hHeld => ?_)
    clear hK K
    refine take_one 10 (by kernel_rfl) rfl (fun K hK => ?_)
    go_simp
    (refine (specStoreOk_any a1 c1 vs _ hn1 SM1.out ((V1.on hHeld.2).up hHeld.2.size)).mono ?_; rintro e wc10 ⟨rfl, hb⟩; rw [HP.out])
    try go_wp2_with fail
    refine hK.out _ _ (by exact ⟨⟨(B5.on (hHeld.2.trans (hb.mono hHeld.2.size))).at 0, (B6.on (hHeld.2.trans (hb.mono hHeld.2.size))).six.1, (B8.on (hHeld.2.trans (hb.mono hHeld.2.size))).six.1, (B9.on (hHeld.2.trans (hb.mono hHeld.2.size))).at 0⟩, hHeld.2.trans (hb.mono hHeld.2.size)⟩) (fun hHeld => ?_)
    clear hK K
    refine take_run 11 (some 46) (v := ?_) rfl rfl (by kernel_rfl) (by kernel_rfl) (by kernel_rfl) (fun _ _ _ h => h) (by rfl) ?_ hHeld ?_
    rotate_left
    · ((intro w hSw); (try dsimp only at hSw); go_simp <;> with_reducible rfl)
    simp only [Act.put, List.setIfInBounds_toArray, List.set_cons_zero, List.set_cons_succ]
    refine take_run 12 (some 47) (v := ?_) rfl rfl (by kernel_rfl) (by kernel_rfl) (by kernel_rfl) (fun _ _ _ h => h) (by rfl) ?_ hHeld ?_
    rotate_left
    · ((intro w hSw); (try dsimp only at hSw); go_simp <;> with_reducible rfl)
    simp only [Act.put, List.setIfInBounds_toArray, List.set_cons_zero, List.set_cons_succ]
    refine take_run 13 (some 48) (v := ?_) rfl rfl (by kernel_rfl) (by kernel_rfl) (by kernel_rfl) (fun _ _ _ h => h) (by rfl) ?_ hHeld ?_
    rotate_left
    · ((intro w hSw); (try dsimp only at hSw); go_simp <;> with_reducible rfl)
    simp only [Act.put, List.setIfInBounds_toArray, List.set_cons_zero, List.set_cons_succ]
    refine take_run 14 (some 49) (v := ?_) rfl rfl (by kernel_rfl) (by kernel_rfl) (by kernel_rfl) (fun _ _ _ h => h) (by rfl) ?_ hHeld ?_
    rotate_left
    · ((intro w hSw); (try dsimp only at hSw); go_simp <;> with_reducible rfl)
    simp only [Act.put, List.setIfInBounds_toArray, List.set_cons_zero, List.set_cons_succ]
    refine take_one 15 (by kernel_rfl) rfl (fun K hK => ?_)
    go_simp
    (refine (implStoreOk_any a1 c1 vs _ hn1 SM1.out ((V1.on hHeld.2).up hHeld.2.size)).mono ?_; rintro e wc15 ⟨rfl, hb⟩; rw [HP.out])
    try go_wp2_with fail
    refine hK.out _ _ (by exact ⟨⟨(B5.on (hHeld.2.trans (hb.mono hHeld.2.size))).at 0, (B6.on (hHeld.2.trans (hb.mono hHeld.2.size))).six.1, (B8.on (hHeld.2.trans (hb.mono hHeld.2.size))).six.1, (B9.on (hHeld.2.trans (hb.mono hHeld.2.size))).at 0⟩, hHeld.2.trans (hb.mono hHeld.2.size)⟩) (fun hHeld => ?_)
    clear hK K
    refine take_run 16 (some 51) (v := ?_) rfl rfl (by kernel_rfl) (by kernel_rfl) (by kernel_rfl) (fun _ _ _ h => h) (by rfl) ?_ hHeld ?_
    rotate_left
    · ((intro w hSw); (try dsimp only at hSw); go_simp <;> with_reducible rfl)
    simp only [Act.put, List.setIfInBounds_toArray, List.set_cons_zero, List.set_cons_succ]
    refine take_run 17 (some 52) (v := ?_) rfl rfl (by kernel_rfl) (by kernel_rfl) (by kernel_rfl) (fun _ _ _ h => h) (by rfl) ?_ hHeld ?_
    rotate_left
    · ((intro w hSw); (try dsimp only at hSw); go_simp <;> with_reducible rfl)
    simp only [Act.put, List.setIfInBounds_toArray, List.set_cons_zero, List.set_cons_succ]
    refine take_run 18 (some 53) (v := ?_) rfl rfl (by kernel_rfl) (by kernel_rfl) (by kernel_rfl) (fun _ _ _ h => h) (by rfl) ?_ hHeld ?_
    rotate_left
    · ((intro w hSw); (try dsimp only at hSw); go_simp <;> with_reducible rfl)
    simp only [Act.put, List.setIfInBounds_toArray, List.set_cons_zero, List.set_cons_succ]
    refine take_run 19 (some 54) (v := ?_) rfl rfl (by kernel_rfl) (by kernel_rfl) (by kernel_rfl) (fun _ _ _ h => h) (by rfl) ?_ hHeld ?_
    rotate_left
    · ((intro w hSw); (try dsimp only at hSw); go_simp <;> with_reducible rfl)
    simp only [Act.put, List.setIfInBounds_toArray, List.set_cons_zero, List.set_cons_succ]
    refine take_one 20 (by kernel_rfl) rfl (fun K hK => ?_)
    go_simp
    (refine (implVerOk_any v.k v.t v.u v.a v.c v.ts v.s v.g _ hv4' hvs' ((T6.on hHeld.2).up hHeld.2.size)).mono ?_; rintro e wc20 ⟨rfl, hb⟩; rw [HQ.out])
    try go_wp2_with fail
    refine hK.out _ _ (by exact ⟨⟨(B5.on (hHeld.2.trans (hb.mono hHeld.2.size))).at 0, (B6.on (hHeld.2.trans (hb.mono hHeld.2.size))).six.1, (B8.on (hHeld.2.trans (hb.mono hHeld.2.size))).six.1, (B9.on (hHeld.2.trans (hb.mono hHeld.2.size))).at 0⟩, hHeld.2.trans (hb.mono hHeld.2.size)⟩) (fun hHeld => ?_)
    clear hK K
    refine take_run 21 (some 56) (v := ?_) rfl rfl (by kernel_rfl) (by kernel_rfl) (by kernel_rfl) (fun _ _ _ h => h) (by rfl) ?_ hHeld ?_
    rotate_left
    · ((intro w hSw); (try dsimp only at hSw); go_simp <;> with_reducible rfl)
    simp only [Act.put, List.setIfInBounds_toArray, List.set_cons_zero, List.set_cons_succ]
    refine take_run 22 (some 57) (v := ?_) rfl rfl (by kernel_rfl) (by kernel_rfl) (by kernel_rfl) (fun _ _ _ h => h) (by rfl) ?_ hHeld ?_
    rotate_left
    · ((intro w hSw); (try dsimp only at hSw); go_simp <;> with_reducible rfl)
    simp only [Act.put, List.setIfInBounds_toArray, List.set_cons_zero, List.set_cons_succ]
    refine take_run 23 (some 58) (v := ?_) rfl rfl (by kernel_rfl) (by kernel_rfl) (by kernel_rfl) (fun _ _ _ h => h) (by rfl) ?_ hHeld ?_
    rotate_left
    · ((intro w hSw); (try dsimp only at hSw); go_simp <;> with_reducible rfl)
    simp only [Act.put, List.setIfInBounds_toArray, List.set_cons_zero, List.set_cons_succ]
    refine take_skip 24 (some 59) rfl rfl (by kernel_rfl) (by kernel_rfl) (by kernel_rfl) (fun _ _ _ h => h) (by rfl) hHeld ?_
    simp only [Act.put, List.setIfInBounds_toArray, List.set_cons_zero, List.set_cons_succ]
    refine take_skip 25 (some 60) rfl rfl (by kernel_rfl) (by kernel_rfl) (by kernel_rfl) (fun _ _ _ h => h) (by rfl) hHeld ?_
    simp only [Act.put, List.setIfInBounds_toArray, List.set_cons_zero, List.set_cons_succ]
    refine take_skip 26 (some 61) rfl rfl (by kernel_rfl) (by kernel_rfl) (by kernel_rfl) (fun _ _ _ h => h) (by rfl) hHeld ?_
    simp only [Act.put, List.setIfInBounds_toArray, List.set_cons_zero, List.set_cons_succ]
    refine take_run 27 (some 62) (v := ?_) rfl rfl (by kernel_rfl) (by kernel_rfl) (by kernel_rfl) (fun _ _ _ h => h) (by rfl) ?_ hHeld ?_
    rotate_left
    · ((intro w hSw); (try dsimp only at hSw); go_simp <;> with_reducible rfl)
    simp only [Act.put, List.setIfInBounds_toArray, List.set_cons_zero, List.set_cons_succ]
    refine wpAnyH_done (by kernel_rfl) ?_ _
    refine NoPanic.normal ?_
    have LX := hHeld.2
    clear hHeld
    go_wp2_with fail
    refine wp_region_noPanic ?_
    refine wp_region_held_drew (S := (fun w' => (w'.cell? ⟨p5, 0, none⟩ = some (.slice a1 vs.length c1) ∧ (w'.cell? ⟨p6, 0, none⟩ = some (.int .i64 v.k) ∧ w'.cell? ⟨p6, 1, none⟩ = some (.int .i64 v.t) ∧ w'.cell? ⟨p6, 2, none⟩ = some (.int .i64 v.u) ∧ w'.cell? ⟨p6, 3, none⟩ = some (.slice v.a v.ts.length v.c) ∧ w'.cell? ⟨p6, 4, none⟩ = some (.string v.s) ∧ w'.cell? ⟨p6, 5, none⟩ = some (.bool v.g)) ∧ (w'.cell? ⟨p8, 0, none⟩ = some (.int .i64 u.k) ∧ w'.cell? ⟨p8, 1, none⟩ = some (.int .i64 u.t) ∧ w'.cell? ⟨p8, 2, none⟩ = some (.int .i64 u.u) ∧ w'.cell? ⟨p8, 3, none⟩ = some (.slice u.a u.ts.length u.c) ∧ w'.cell? ⟨p8, 4, none⟩ = some (.string u.s) ∧ w'.cell? ⟨p8, 5, none⟩ = some (.bool u.g)) ∧ w'.cell? ⟨p9, 0, none⟩ = some (.slice A9 (addR vs v).length cap9)) ∧ Below W.heap.size W w')) (by kernel_rfl) (by exact ⟨⟨((B5.on (LX)).drew).at 0, ((B6.on (LX)).drew).six.1, ((B8.on (LX)).drew).six.1, ((B9.on (LX)).drew).at 0⟩, (LX).drew⟩) (fun hHeld => ?_)
    refine take_run 0 (some 63) (v := ?_) rfl rfl (by kernel_rfl) (by kernel_rfl) (by kernel_rfl) (fun _ _ _ h => h) (by rfl) ?_ hHeld ?_
    rotate_left
    · ((intro w hSw); (try dsimp only at hSw); go_simp <;> with_reducible rfl)
    simp only [Act.put, List.setIfInBounds_toArray, List.set_cons_zero, List.set_cons_succ]
    refine take_run 1 (some 64) (v := ?_) rfl rfl (by kernel_rfl) (by kernel_rfl) (by kernel_rfl) (fun _ _ _ h => h) (by rfl) ?_ hHeld ?_
    rotate_left
    · ((intro w hSw); (try dsimp only at hSw); go_simp <;> with_reducible rfl)
    simp only [Act.put, List.setIfInBounds_toArray, List.set_cons_zero, List.set_cons_succ]
    refine take_run 2 (some 65) (v := ?_) rfl rfl (by kernel_rfl) (by kernel_rfl) (by kernel_rfl) (fun _ _ _ h => h) (by rfl) ?_ hHeld ?_
    rotate_left
    · ((intro w hSw); (try dsimp only at hSw); go_simp <;> with_reducible rfl)
    simp only [Act.put, List.setIfInBounds_toArray, List.set_cons_zero, List.set_cons_succ]
    refine take_one 3 (by kernel_rfl) rfl (fun K hK => ?_)
    go_simp
    (refine (specStoreAdd_any a1 c1 vs v _ hn1 SM1.out ((V1.on hHeld.2).up hHeld.2.size) hv4' hvs' ((T6.on hHeld.2).up hHeld.2.size)).mono ?_; intro e wa3 ha; obtain ⟨A3, cap3, vs3, rfl, hl3, hi3, hR3, hb⟩ := answerS_form ha; clear ha)
    try go_wp2_with fail
    refine hK.out _ _ (by exact ⟨⟨(B5.on (hHeld.2.trans (hb.mono hHeld.2.size))).at 0, (B6.on (hHeld.2.trans (hb.mono hHeld.2.size))).six.1, (B8.on (hHeld.2.trans (hb.mono hHeld.2.size))).six.1, (B9.on (hHeld.2.trans (hb.mono hHeld.2.size))).at 0⟩, hHeld.2.trans (hb.mono hHeld.2.size)⟩) (fun hHeld => ?_)
    clear hK K
    refine take_one 4 (by kernel_rfl) rfl (fun K hK => ?_)
    go_simp
    (refine (cfStore_same A9 A3 cap9 cap3 _ vs9 vs3 _ hn9 HL9.out hl3 (like_via HL9.out HI9.out hl3 hi3) HM9.out ((V9.on hHeld.2).up hHeld.2.size) hR3.vg).mono ?_; rintro e wb4 ⟨rfl, hb⟩)
    try go_wp2_with fail
    refine hK.out _ _ (by exact ⟨⟨(B5.on (hHeld.2.trans (hb.mono hHeld.2.size))).at 0, (B6.on (hHeld.2.trans (hb.mono hHeld.2.size))).six.1, (B8.on (hHeld.2.trans (hb.mono hHeld.2.size))).six.1, (B9.on (hHeld.2.trans (hb.mono hHeld.2.size))).at 0⟩, hHeld.2.trans (hb.mono hHeld.2.size)⟩) (fun hHeld => ?_)
    clear hK K
    refine take_run 5 (some 68) (v := ?_) rfl rfl (by kernel_rfl) (by kernel_rfl) (by kernel_rfl) (fun _ _ _ h => h) (by rfl) ?_ hHeld ?_
    rotate_left
    · ((intro w hSw); (try dsimp only at hSw); go_simp <;> with_reducible rfl)
    simp only [Act.put, List.setIfInBounds_toArray, List.set_cons_zero, List.set_cons_succ]
    refine take_run 6 (some 69) (v := ?_) rfl rfl (by kernel_rfl) (by kernel_rfl) (by kernel_rfl) (fun _ _ _ h => h) (by rfl) ?_ hHeld ?_
    rotate_left
    · ((intro w hSw); (try dsimp only at hSw); go_simp <;> with_reducible rfl)
    simp only [Act.put, List.setIfInBounds_toArray, List.set_cons_zero, List.set_cons_succ]
    refine take_run 8 (some 71) (v := ?_) rfl rfl (by kernel_rfl) (by kernel_rfl) (by kernel_rfl) (fun _ _ _ h => h) (by rfl) ?_ hHeld ?_
    rotate_left
    · ((intro w hSw); (try dsimp only at hSw); go_simp <;> with_reducible rfl)
    simp only [Act.put, List.setIfInBounds_toArray, List.set_cons_zero, List.set_cons_succ]
    refine take_one 7 (by kernel_rfl) rfl (fun K hK => ?_)
    go_simp
    (refine (implStoreOk_any a1 c1 vs _ hn1 SM1.out ((V1.on hHeld.2).up hHeld.2.size)).mono ?_; rintro e wc7 ⟨rfl, hb⟩; rw [HP.out])
    try go_wp2_with fail
    refine hK.out _ _ (by exact ⟨⟨(B5.on (hHeld.2.trans (hb.mono hHeld.2.size))).at 0, (B6.on (hHeld.2.trans (hb.mono hHeld.2.size))).six.1, (B8.on (hHeld.2.trans (hb.mono hHeld.2.size))).six.1, (B9.on (hHeld.2.trans (hb.mono hHeld.2.size))).at 0⟩, hHeld.2.trans (hb.mono hHeld.2.size)⟩) (fun hHeld => ?_)
    clear hK K
    refine take_one 9 (by kernel_rfl) rfl (fun K hK => ?_)
    go_simp
    (refine (specStoreOk_any a1 c1 vs _ hn1 SM1.out ((V1.on hHeld.2).up hHeld.2.size)).mono ?_; rintro e wc9 ⟨rfl, hb⟩; rw [HP.out])
    try go_wp2_with fail
    refine hK.out _ _ (by exact ⟨⟨(B5.on (hHeld.2.trans (hb.mono hHeld.2.size))).at 0, (B6.on (hHeld.2.trans (hb.mono hHeld.2.size))).six.1, (B8.on (hHeld.2.trans (hb.mono hHeld.2.size))).six.1, (B9.on (hHeld.2.trans (hb.mono hHeld.2.size))).at 0⟩, hHeld.2.trans (hb.mono hHeld.2.size)⟩) (fun hHeld => ?_)
    clear hK K
    refine take_run 10 (some 73) (v := ?_) rfl rfl (by kernel_rfl) (by kernel_rfl) (by kernel_rfl) (fun _ _ _ h => h) (by rfl) ?_ hHeld ?_
    rotate_left
    · ((intro w hSw); (try dsimp only at hSw); go_simp <;> with_reducible rfl)
    simp only [Act.put, List.setIfInBounds_toArray, List.set_cons_zero, List.set_cons_succ]
    refine take_run 11 (some 74) (v := ?_) rfl rfl (by kernel_rfl) (by kernel_rfl) (by kernel_rfl) (fun _ _ _ h => h) (by rfl) ?_ hHeld ?_
    rotate_left
    · ((intro w hSw); (try dsimp only at hSw); go_simp <;> with_reducible rfl)
    simp only [Act.put, List.setIfInBounds_toArray, List.set_cons_zero, List.set_cons_succ]
    refine take_run 12 (some 4) (v := ?_) rfl rfl (by kernel_rfl) (by kernel_rfl) (by kernel_rfl) (fun _ _ _ h => h) (by rfl) ?_ hHeld ?_
    rotate_left
    · ((intro w hSw); (try dsimp only at hSw); go_simp <;> with_reducible rfl)
    simp only [Act.put, List.setIfInBounds_toArray, List.set_cons_zero, List.set_cons_succ]
    refine wpAnyH_done (by kernel_rfl) ?_ _
    refine NoPanic.normal ?_
    have L9 := L0.trans (hHeld.2.mono L0.size)
    clear hHeld
    go_wp2
    go_ret
    exact ⟨rfl, L9⟩
  have HQ := hide hq
  clear hq
  cases hr : verB u.k u.t u.u u.ts u.s u.g
  · have HR := hide hr
    clear hr
    refine wp_region_noPanic ?_
    refine wp_region_held_drew (S := (fun w' => (w'.cell? ⟨p5, 0, none⟩ = some (.slice a1 vs.length c1) ∧ (w'.cell? ⟨p6, 0, none⟩ = some (.int .i64 v.k) ∧ w'.cell? ⟨p6, 1, none⟩ = some (.int .i64 v.t) ∧ w'.cell? ⟨p6, 2, none⟩ = some (.int .i64 v.u) ∧ w'.cell? ⟨p6, 3, none⟩ = some (.slice v.a v.ts.length v.c) ∧ w'.cell? ⟨p6, 4, none⟩ = some (.string v.s) ∧ w'.cell? ⟨p6, 5, none⟩ = some (.bool v.g)) ∧ (w'.cell? ⟨p8, 0, none⟩ = some (.int .i64 u.k) ∧ w'.cell? ⟨p8, 1, none⟩ = some (.int .i64 u.t) ∧ w'.cell? ⟨p8, 2, none⟩ = some (.int .i64 u.u) ∧ w'.cell? ⟨p8, 3, none⟩ = some (.slice u.a u.ts.length u.c) ∧ w'.cell? ⟨p8, 4, none⟩ = some (.string u.s) ∧ w'.cell? ⟨p8, 5, none⟩ = some (.bool u.g)) ∧ w'.cell? ⟨p9, 0, none⟩ = some (.slice A9 (addR vs v).length cap9)) ∧ Below W.heap.size W w')) (by kernel_rfl) (by exact ⟨⟨((B5.on (LR)).drew).at 0, ((B6.on (LR)).drew).six.1, ((B8.on (LR)).drew).six.1, ((B9.on (LR)).drew).at 0⟩, (LR).drew⟩) (fun hHeld => ?_)
    refine take_run 0 (some 35) (v := ?_) rfl rfl (by kernel_rfl) (by kernel_rfl) (by kernel_rfl) (fun _ _ _ h => h) (by rfl) ?_ hHeld ?_
    rotate_left
    · ((intro w hSw); (try dsimp only at hSw); go_simp <;> with_reducible rfl)
    simp only [Act.put, List.setIfInBounds_toArray, List.set_cons_zero, List.set_cons_succ]
    refine take_run 1 (some 36) (v := ?_) rfl rfl (by kernel_rfl) (by kernel_rfl) (by kernel_rfl) (fun _ _ _ h => h) (by rfl) ?_ hHeld ?_
    rotate_left
    · ((intro w hSw); (try dsimp only at hSw); go_simp <;> with_reducible rfl)
    simp only [Act.put, List.setIfInBounds_toArray, List.set_cons_zero, List.set_cons_succ]
    refine take_run 2 (some 37) (v := ?_) rfl rfl (by kernel_rfl) (by kernel_rfl) (by kernel_rfl) (fun _ _ _ h => h) (by rfl) ?_ hHeld ?_
    rotate_left
    · ((intro w hSw); (try dsimp only at hSw); go_simp <;> with_reducible rfl)
    simp only [Act.put, List.setIfInBounds_toArray, List.set_cons_zero, List.set_cons_succ]
    refine take_one 3 (by kernel_rfl) rfl (fun K hK => ?_)
    go_simp
    (refine (specStoreAdd_any a1 c1 vs v _ hn1 SM1.out ((V1.on hHeld.2).up hHeld.2.size) hv4' hvs' ((T6.on hHeld.2).up hHeld.2.size)).mono ?_; intro e wa3 ha; obtain ⟨A3, cap3, vs3, rfl, hl3, hi3, hR3, hb⟩ := answerS_form ha; clear ha)
    try go_wp2_with fail
    refine hK.out _ _ (by exact ⟨⟨(B5.on (hHeld.2.trans (hb.mono hHeld.2.size))).at 0, (B6.on (hHeld.2.trans (hb.mono hHeld.2.size))).six.1, (B8.on (hHeld.2.trans (hb.mono hHeld.2.size))).six.1, (B9.on (hHeld.2.trans (hb.mono hHeld.2.size))).at 0⟩, hHeld.2.trans (hb.mono hHeld.2.size)⟩) (fun hHeld => ?_)
    clear hK K
    refine take_one 4 (by kernel_rfl) rfl (fun K hK => ?_)
    go_simp
    (refine (cfStore_same A9 A3 cap9 cap3 _ vs9 vs3 _ hn9 HL9.out hl3 (like_via HL9.out HI9.out hl3 hi3) HM9.out ((V9.on hHeld.2).up hHeld.2.size) hR3.vg).mono ?_; rintro e wb4 ⟨rfl, hb⟩)
    try go_wp2_with fail
    refine hK.out _ _ (by exact ⟨⟨(B5.on (hHeld.2.trans (hb.mono hHeld.2.size))).at 0, (B6.on (hHeld.2.trans (hb.mono hHeld.2.size))).six.1, (B8.on (hHeld.2.trans (hb.mono hHeld.2.size))).six.1, (B9.on (hHeld.2.trans (hb.mono hHeld.2.size))).at 0⟩, hHeld.2.trans (hb.mono hHeld.2.size)⟩) (fun hHeld => ?_)
    clear hK K
    refine take_run 5 (some 40) (v := ?_) rfl rfl (by kernel_rfl) (by kernel_rfl) (by kernel_rfl) (fun _ _ _ h => h) (by rfl) ?_ hHeld ?_
    rotate_left
    · ((intro w hSw); (try dsimp only at hSw); go_simp <;> with_reducible rfl)
    simp only [Act.put, List.setIfInBounds_toArray, List.set_cons_zero, List.set_cons_succ]
    refine take_run 6 (some 41) (v := ?_) rfl rfl (by kernel_rfl) (by kernel_rfl) (by kernel_rfl) (fun _ _ _ h => h) (by rfl) ?_ hHeld ?_
    rotate_left
    · ((intro w hSw); (try dsimp only at hSw); go_simp <;> with_reducible rfl)
    simp only [Act.put, List.setIfInBounds_toArray, List.set_cons_zero, List.set_cons_succ]
    refine take_run 7 (some 42) (v := ?_) rfl rfl (by kernel_rfl) (by kernel_rfl) (by kernel_rfl) (fun _ _ _ h => h) (by rfl) ?_ hHeld ?_
    rotate_left
    · ((intro w hSw); (try dsimp only at hSw); go_simp <;> with_reducible rfl)
    simp only [Act.put, List.setIfInBounds_toArray, List.set_cons_zero, List.set_cons_succ]
    refine take_run 9 (some 44) (v := ?_) rfl rfl (by kernel_rfl) (by kernel_rfl) (by kernel_rfl) (fun _ _ _ h => h) (by rfl) ?_ hHeld ?_
    rotate_left
    · ((intro w hSw); (try dsimp only at hSw); go_simp <;> with_reducible rfl)
    simp only [Act.put, List.setIfInBounds_toArray, List.set_cons_zero, List.set_cons_succ]
    refine take_one 8 (by kernel_rfl) rfl (fun K hK => ?_)
    go_simp
    (refine (implStoreOk_any a1 c1 vs _ hn1 SM1.out ((V1.on hHeld.2).up hHeld.2.size)).mono ?_; rintro e wc8 ⟨rfl, hb⟩; rw [HP.out])
    try go_wp2_with fail
    refine hK.out _ _ (by exact ⟨⟨(B5.on (hHeld.2.trans (hb.mono hHeld.2.size))).at 0, (B6.on (hHeld.2.trans (hb.mono hHeld.2.size))).six.1, (B8.on (hHeld.2.trans (hb.mono hHeld.2.size))).six.1, (B9.on (hHeld.2.trans (hb.mono hHeld.2.size))).at 0⟩, hHeld.2.trans (hb.mono hHeld.2.size)⟩) (fun hHeld => ?_)
    clear hK K
    refine take_one 10 (by kernel_rfl) rfl (fun K hK => ?_)
    go_simp
    (refine (specStoreOk_any a1 c1 vs _ hn1 SM1.out ((V1.on hHeld.2).up hHeld.2.size)).mono ?_; rintro e wc10 ⟨rfl, hb⟩; rw [HP.out])
    try go_wp2_with fail
    refine hK.out _ _ (by exact ⟨⟨(B5.on (hHeld.2.trans (hb.mono hHeld.2.size))).at 0, (B6.on (hHeld.2.trans (hb.mono hHeld.2.size))).six.1, (B8.on (hHeld.2.trans (hb.mono hHeld.2.size))).six.1, (B9.on (hHeld.2.trans (hb.mono hHeld.2.size))).at 0⟩, hHeld.2.trans (hb.mono hHeld.2.size)⟩) (fun hHeld => ?_)
    clear hK K
    refine take_run 11 (some 46) (v := ?_) rfl rfl (by kernel_rfl) (by kernel_rfl) (by kernel_rfl) (fun _ _ _ h => h) (by rfl) ?_ hHeld ?_
    rotate_left
    · ((intro w hSw); (try dsimp only at hSw); go_simp <;> with_reducible rfl)
    simp only [Act.put, List.setIfInBounds_toArray, List.set_cons_zero, List.set_cons_succ]
    refine take_run 12 (some 47) (v := ?_) rfl rfl (by kernel_rfl) (by kernel_rfl) (by kernel_rfl) (fun _ _ _ h => h) (by rfl) ?_ hHeld ?_
    rotate_left
    · ((intro w hSw); (try dsimp only at hSw); go_simp <;> with_reducible rfl)
    simp only [Act.put, List.setIfInBounds_toArray, List.set_cons_zero, List.set_cons_succ]
    refine take_run 13 (some 48) (v := ?_) rfl rfl (by kernel_rfl) (by kernel_rfl) (by kernel_rfl) (fun _ _ _ h => h) (by rfl) ?_ hHeld ?_
    rotate_left
    · ((intro w hSw); (try dsimp only at hSw); go_simp <;> with_reducible rfl)
    simp only [Act.put, List.setIfInBounds_toArray, List.set_cons_zero, List.set_cons_succ]
    refine take_run 14 (some 49) (v := ?_) rfl rfl (by kernel_rfl) (by kernel_rfl) (by kernel_rfl) (fun _ _ _ h => h) (by rfl) ?_ hHeld ?_
    rotate_left
    · ((intro w hSw); (try dsimp only at hSw); go_simp <;> with_reducible rfl)
    simp only [Act.put, List.setIfInBounds_toArray, List.set_cons_zero, List.set_cons_succ]
    refine take_one 15 (by kernel_rfl) rfl (fun K hK => ?_)
    go_simp
    (refine (implStoreOk_any a1 c1 vs _ hn1 SM1.out ((V1.on hHeld.2).up hHeld.2.size)).mono ?_; rintro e wc15 ⟨rfl, hb⟩; rw [HP.out])
    try go_wp2_with fail
    refine hK.out _ _ (by exact ⟨⟨(B5.on (hHeld.2.trans (hb.mono hHeld.2.size))).at 0, (B6.on (hHeld.2.trans (hb.mono hHeld.2.size))).six.1, (B8.on (hHeld.2.trans (hb.mono hHeld.2.size))).six.1, (B9.on (hHeld.2.trans (hb.mono hHeld.2.size))).at 0⟩, hHeld.2.trans (hb.mono hHeld.2.size)⟩) (fun hHeld => ?_)
    clear hK K
    refine take_run 16 (some 51) (v := ?_) rfl rfl (by kernel_rfl) (by kernel_rfl) (by kernel_rfl) (fun _ _ _ h => h) (by rfl) ?_ hHeld ?_
    rotate_left
    · ((intro w hSw); (try dsimp only at hSw); go_simp <;> with_reducible rfl)
    simp only [Act.put, List.setIfInBounds_toArray, List.set_cons_zero, List.set_cons_succ]
    refine take_run 17 (some 52) (v := ?_) rfl rfl (by kernel_rfl) (by kernel_rfl) (by kernel_rfl) (fun _ _ _ h => h) (by rfl) ?_ hHeld ?_
    rotate_left
    · ((intro w hSw); (try dsimp only at hSw); go_simp <;> with_reducible rfl)
    simp only [Act.put, List.setIfInBounds_toArray, List.set_cons_zero, List.set_cons_succ]
    refine take_run 18 (some 53) (v := ?_) rfl rfl (by kernel_rfl) (by kernel_rfl) (by kernel_rfl) (fun _ _ _ h => h) (by rfl) ?_ hHeld ?_
    rotate_left
    · ((intro w hSw); (try dsimp only at hSw); go_simp <;> with_reducible rfl)
    simp only [Act.put, List.setIfInBounds_toArray, List.set_cons_zero, List.set_cons_succ]
    refine take_run 19 (some 54) (v := ?_) rfl rfl (by kernel_rfl) (by kernel_rfl) (by kernel_rfl) (fun _ _ _ h => h) (by rfl) ?_ hHeld ?_
    rotate_left
    · ((intro w hSw); (try dsimp only at hSw); go_simp <;> with_reducible rfl)
    simp only [Act.put, List.setIfInBounds_toArray, List.set_cons_zero, List.set_cons_succ]
    refine take_one 20 (by kernel_rfl) rfl (fun K hK => ?_)
    go_simp
    (refine (implVerOk_any v.k v.t v.u v.a v.c v.ts v.s v.g _ hv4' hvs' ((T6.on hHeld.2).up hHeld.2.size)).mono ?_; rintro e wc20 ⟨rfl, hb⟩; rw [HQ.out])
    try go_wp2_with fail
    refine hK.out _ _ (by exact ⟨⟨(B5.on (hHeld.2.trans (hb.mono hHeld.2.size))).at 0, (B6.on (hHeld.2.trans (hb.mono hHeld.2.size))).six.1, (B8.on (hHeld.2.trans (hb.mono hHeld.2.size))).six.1, (B9.on (hHeld.2.trans (hb.mono hHeld.2.size))).at 0⟩, hHeld.2.trans (hb.mono hHeld.2.size)⟩) (fun hHeld => ?_)
    clear hK K
    refine take_run 21 (some 56) (v := ?_) rfl rfl (by kernel_rfl) (by kernel_rfl) (by kernel_rfl) (fun _ _ _ h => h) (by rfl) ?_ hHeld ?_
    rotate_left
    · ((intro w hSw); (try dsimp only at hSw); go_simp <;> with_reducible rfl)
    simp only [Act.put, List.setIfInBounds_toArray, List.set_cons_zero, List.set_cons_succ]
    refine take_run 22 (some 57) (v := ?_) rfl rfl (by kernel_rfl) (by kernel_rfl) (by kernel_rfl) (fun _ _ _ h => h) (by rfl) ?_ hHeld ?_
    rotate_left
    · ((intro w hSw); (try dsimp only at hSw); go_simp <;> with_reducible rfl)
    simp only [Act.put, List.setIfInBounds_toArray, List.set_cons_zero, List.set_cons_succ]
    refine take_run 23 (some 58) (v := ?_) rfl rfl (by kernel_rfl) (by kernel_rfl) (by kernel_rfl) (fun _ _ _ h => h) (by rfl) ?_ hHeld ?_
    rotate_left
    · ((intro w hSw); (try dsimp only at hSw); go_simp <;> with_reducible rfl)
    simp only [Act.put, List.setIfInBounds_toArray, List.set_cons_zero, List.set_cons_succ]
    refine take_run 24 (some 59) (v := ?_) rfl rfl (by kernel_rfl) (by kernel_rfl) (by kernel_rfl) (fun _ _ _ h => h) (by rfl) ?_ hHeld ?_
    rotate_left
    · ((intro w hSw); (try dsimp only at hSw); go_simp <;> with_reducible rfl)
    simp only [Act.put, List.setIfInBounds_toArray, List.set_cons_zero, List.set_cons_succ]
    refine take_one 25 (by kernel_rfl) rfl (fun K hK => ?_)
    go_simp
    (refine (implVerOk_any u.k u.t u.u u.a u.c u.ts u.s u.g _ hu4' hus' ((T8.on hHeld.2).up hHeld.2.size)).mono ?_; rintro e wc25 ⟨rfl, hb⟩; rw [HR.out])
    try go_wp2_with fail
    refine hK.out _ _ (by exact ⟨⟨(B5.on (hHeld.2.trans (hb.mono hHeld.2.size))).at 0, (B6.on (hHeld.2.trans (hb.mono hHeld.2.size))).six.1, (B8.on (hHeld.2.trans (hb.mono hHeld.2.size))).six.1, (B9.on (hHeld.2.trans (hb.mono hHeld.2.size))).at 0⟩, hHeld.2.trans (hb.mono hHeld.2.size)⟩) (fun hHeld => ?_)
    clear hK K
    refine take_run 26 (some 61) (v := ?_) rfl rfl (by kernel_rfl) (by kernel_rfl) (by kernel_rfl) (fun _ _ _ h => h) (by rfl) ?_ hHeld ?_
    rotate_left
    · ((intro w hSw); (try dsimp only at hSw); go_simp <;> with_reducible rfl)
    simp only [Act.put, List.setIfInBounds_toArray, List.set_cons_zero, List.set_cons_succ]
    refine take_run 27 (some 62) (v := ?_) rfl rfl (by kernel_rfl) (by kernel_rfl) (by kernel_rfl) (fun _ _ _ h => h) (by rfl) ?_ hHeld ?_
    rotate_left
    · ((intro w hSw); (try dsimp only at hSw); go_simp <;> with_reducible rfl)
    simp only [Act.put, List.setIfInBounds_toArray, List.set_cons_zero, List.set_cons_succ]
    refine wpAnyH_done (by kernel_rfl) ?_ _
    refine NoPanic.normal ?_
    have LX := hHeld.2
    clear hHeld
    go_wp2_with fail
    refine wp_region_noPanic ?_
    refine wp_region_held_drew (S := (fun w' => (w'.cell? ⟨p5, 0, none⟩ = some (.slice a1 vs.length c1) ∧ (w'.cell? ⟨p6, 0, none⟩ = some (.int .i64 v.k) ∧ w'.cell? ⟨p6, 1, none⟩ = some (.int .i64 v.t) ∧ w'.cell? ⟨p6, 2, none⟩ = some (.int .i64 v.u) ∧ w'.cell? ⟨p6, 3, none⟩ = some (.slice v.a v.ts.length v.c) ∧ w'.cell? ⟨p6, 4, none⟩ = some (.string v.s) ∧ w'.cell? ⟨p6, 5, none⟩ = some (.bool v.g)) ∧ (w'.cell? ⟨p8, 0, none⟩ = some (.int .i64 u.k) ∧ w'.cell? ⟨p8, 1, none⟩ = some (.int .i64 u.t) ∧ w'.cell? ⟨p8, 2, none⟩ = some (.int .i64 u.u) ∧ w'.cell? ⟨p8, 3, none⟩ = some (.slice u.a u.ts.length u.c) ∧ w'.cell? ⟨p8, 4, none⟩ = some (.string u.s) ∧ w'.cell? ⟨p8, 5, none⟩ = some (.bool u.g)) ∧ w'.cell? ⟨p9, 0, none⟩ = some (.slice A9 (addR vs v).length cap9)) ∧ Below W.heap.size W w')) (by kernel_rfl) (by exact ⟨⟨((B5.on (LX)).drew).at 0, ((B6.on (LX)).drew).six.1, ((B8.on (LX)).drew).six.1, ((B9.on (LX)).drew).at 0⟩, (LX).drew⟩) (fun hHeld => ?_)
    refine take_run 0 (some 63) (v := ?_) rfl rfl (by kernel_rfl) (by kernel_rfl) (by kernel_rfl) (fun _ _ _ h => h) (by rfl) ?_ hHeld ?_
    rotate_left
    · ((intro w hSw); (try dsimp only at hSw); go_simp <;> with_reducible rfl)
    simp only [Act.put, List.setIfInBounds_toArray, List.set_cons_zero, List.set_cons_succ]
    refine take_run 1 (some 64) (v := ?_) rfl rfl (by kernel_rfl) (by kernel_rfl) (by kernel_rfl) (fun _ _ _ h => h) (by rfl) ?_ hHeld ?_
    rotate_left
    · ((intro w hSw); (try dsimp only at hSw); go_simp <;> with_reducible rfl)
    simp only [Act.put, List.setIfInBounds_toArray, List.set_cons_zero, List.set_cons_succ]
    refine take_run 2 (some 65) (v := ?_) rfl rfl (by kernel_rfl) (by kernel_rfl) (by kernel_rfl) (fun _ _ _ h => h) (by rfl) ?_ hHeld ?_
    rotate_left
    · ((intro w hSw); (try dsimp only at hSw); go_simp <;> with_reducible rfl)
    simp only [Act.put, List.setIfInBounds_toArray, List.set_cons_zero, List.set_cons_succ]
    refine take_one 3 (by kernel_rfl) rfl (fun K hK => ?_)
    go_simp
    (refine (specStoreAdd_any a1 c1 vs v _ hn1 SM1.out ((V1.on hHeld.2).up hHeld.2.size) hv4' hvs' ((T6.on hHeld.2).up hHeld.2.size)).mono ?_; intro e wa3 ha; obtain ⟨A3, cap3, vs3, rfl, hl3, hi3, hR3, hb⟩ := answerS_form ha; clear ha)
    try go_wp2_with fail
    refine hK.out _ _ (by exact ⟨⟨(B5.on (hHeld.2.trans (hb.mono hHeld.2.size))).at 0, (B6.on (hHeld.2.trans (hb.mono hHeld.2.size))).six.1, (B8.on (hHeld.2.trans (hb.mono hHeld.2.size))).six.1, (B9.on (hHeld.2.trans (hb.mono hHeld.2.size))).at 0⟩, hHeld.2.trans (hb.mono hHeld.2.size)⟩) (fun hHeld => ?_)
    clear hK K
    refine take_one 4 (by kernel_rfl) rfl (fun K hK => ?_)
    go_simp
    (refine (cfStore_same A9 A3 cap9 cap3 _ vs9 vs3 _ hn9 HL9.out hl3 (like_via HL9.out HI9.out hl3 hi3) HM9.out ((V9.on hHeld.2).up hHeld.2.size) hR3.vg).mono ?_; rintro e wb4 ⟨rfl, hb⟩)
    try go_wp2_with fail
    refine hK.out _ _ (by exact ⟨⟨(B5.on (hHeld.2.trans (hb.mono hHeld.2.size))).at 0, (B6.on (hHeld.2.trans (hb.mono hHeld.2.size))).six.1, (B8.on (hHeld.2.trans (hb.mono hHeld.2.size))).six.1, (B9.on (hHeld.2.trans (hb.mono hHeld.2.size))).at 0⟩, hHeld.2.trans (hb.mono hHeld.2.size)⟩) (fun hHeld => ?_)
    clear hK K
    refine take_run 5 (some 68) (v := ?_) rfl rfl (by kernel_rfl) (by kernel_rfl) (by kernel_rfl) (fun _ _ _ h => h) (by rfl) ?_ hHeld ?_
    rotate_left
    · ((intro w hSw); (try dsimp only at hSw); go_simp <;> with_reducible rfl)
    simp only [Act.put, List.setIfInBounds_toArray, List.set_cons_zero, List.set_cons_succ]
    refine take_run 6 (some 69) (v := ?_) rfl rfl (by kernel_rfl) (by kernel_rfl) (by kernel_rfl) (fun _ _ _ h => h) (by rfl) ?_ hHeld ?_
    rotate_left
    · ((intro w hSw); (try dsimp only at hSw); go_simp <;> with_reducible rfl)
    simp only [Act.put, List.setIfInBounds_toArray, List.set_cons_zero, List.set_cons_succ]
    refine take_run 8 (some 71) (v := ?_) rfl rfl (by kernel_rfl) (by kernel_rfl) (by kernel_rfl) (fun _ _ _ h => h) (by rfl) ?_ hHeld ?_
    rotate_left
    · ((intro w hSw); (try dsimp only at hSw); go_simp <;> with_reducible rfl)
    simp only [Act.put, List.setIfInBounds_toArray, List.set_cons_zero, List.set_cons_succ]
    refine take_one 7 (by kernel_rfl) rfl (fun K hK => ?_)
    go_simp
    (refine (implStoreOk_any a1 c1 vs _ hn1 SM1.out ((V1.on hHeld.2).up hHeld.2.size)).mono ?_; rintro e wc7 ⟨rfl, hb⟩; rw [HP.out])
    try go_wp2_with fail
    refine hK.out _ _ (by exact ⟨⟨(B5.on (hHeld.2.trans (hb.mono hHeld.2.size))).at 0, (B6.on (hHeld.2.trans (hb.mono hHeld.2.size))).six.1, (B8.on (hHeld.2.trans (hb.mono hHeld.2.size))).six.1, (B9.on (hHeld.2.trans (hb.mono hHeld.2.size))).at 0⟩, hHeld.2.trans (hb.mono hHeld.2.size)⟩) (fun hHeld => ?_)
    clear hK K
    refine take_one 9 (by kernel_rfl) rfl (fun K hK => ?_)
    go_simp
    (refine (specStoreOk_any a1 c1 vs _ hn1 SM1.out ((V1.on hHeld.2).up hHeld.2.size)).mono ?_; rintro e wc9 ⟨rfl, hb⟩; rw [HP.out])
    try go_wp2_with fail
    refine hK.out _ _ (by exact ⟨⟨(B5.on (hHeld.2.trans (hb.mono hHeld.2.size))).at 0, (B6.on (hHeld.2.trans (hb.mono hHeld.2.size))).six.1, (B8.on (hHeld.2.trans (hb.mono hHeld.2.size))).six.1, (B9.on (hHeld.2.trans (hb.mono hHeld.2.size))).at 0⟩, hHeld.2.trans (hb.mono hHeld.2.size)⟩) (fun hHeld => ?_)
    clear hK K
    refine take_run 10 (some 73) (v := ?_) rfl rfl (by kernel_rfl) (by kernel_rfl) (by kernel_rfl) (fun _ _ _ h => h) (by rfl) ?_ hHeld ?_
    rotate_left
    · ((intro w hSw); (try dsimp only at hSw); go_simp <;> with_reducible rfl)
    simp only [Act.put, List.setIfInBounds_toArray, List.set_cons_zero, List.set_cons_succ]
    refine take_run 11 (some 74) (v := ?_) rfl rfl (by kernel_rfl) (by kernel_rfl) (by kernel_rfl) (fun _ _ _ h => h) (by rfl) ?_ hHeld ?_
    rotate_left
    · ((intro w hSw); (try dsimp only at hSw); go_simp <;> with_reducible rfl)
    simp only [Act.put, List.setIfInBounds_toArray, List.set_cons_zero, List.set_cons_succ]
    refine take_run 12 (some 4) (v := ?_) rfl rfl (by kernel_rfl) (by kernel_rfl) (by kernel_rfl) (fun _ _ _ h => h) (by rfl) ?_ hHeld ?_
    rotate_left
    · ((intro w hSw); (try dsimp only at hSw); go_simp <;> with_reducible rfl)
    simp only [Act.put, List.setIfInBounds_toArray, List.set_cons_zero, List.set_cons_succ]
    refine wpAnyH_done (by kernel_rfl) ?_ _
    refine NoPanic.normal ?_
    have L9 := L0.trans (hHeld.2.mono L0.size)
    clear hHeld
    go_wp2
    go_ret
    exact ⟨rfl, L9⟩
  have HR := hide hr
  clear hr
  refine wp_region_noPanic ?_
  refine wp_region_held_drew (S := (fun w' => (w'.cell? ⟨p5, 0, none⟩ = some (.slice a1 vs.length c1) ∧ (w'.cell? ⟨p6, 0, none⟩ = some (.int .i64 v.k) ∧ w'.cell? ⟨p6, 1, none⟩ = some (.int .i64 v.t) ∧ w'.cell? ⟨p6, 2, none⟩ = some (.int .i64 v.u) ∧ w'.cell? ⟨p6, 3, none⟩ = some (.slice v.a v.ts.length v.c) ∧ w'.cell? ⟨p6, 4, none⟩ = some (.string v.s) ∧ w'.cell? ⟨p6, 5, none⟩ = some (.bool v.g)) ∧ (w'.cell? ⟨p8, 0, none⟩ = some (.int .i64 u.k) ∧ w'.cell? ⟨p8, 1, none⟩ = some (.int .i64 u.t) ∧ w'.cell? ⟨p8, 2, none⟩ = some (.int .i64 u.u) ∧ w'.cell? ⟨p8, 3, none⟩ = some (.slice u.a u.ts.length u.c) ∧ w'.cell? ⟨p8, 4, none⟩ = some (.string u.s) ∧ w'.cell? ⟨p8, 5, none⟩ = some (.bool u.g)) ∧ w'.cell? ⟨p9, 0, none⟩ = some (.slice A9 (addR vs v).length cap9)) ∧ Below W.heap.size W w')) (by kernel_rfl) (by exact ⟨⟨((B5.on (LR)).drew).at 0, ((B6.on (LR)).drew).six.1, ((B8.on (LR)).drew).six.1, ((B9.on (LR)).drew).at 0⟩, (LR).drew⟩) (fun hHeld => ?_)
  refine take_run 0 (some 35) (v := ?_) rfl rfl (by kernel_rfl) (by kernel_rfl) (by kernel_rfl) (fun _ _ _ h => h) (by rfl) ?_ hHeld ?_
  rotate_left
  · ((intro w hSw); (try dsimp only at hSw); go_simp <;> with_reducible rfl)
  simp only [Act.put, List.setIfInBounds_toArray, List.set_cons_zero, List.set_cons_succ]
  refine take_run 1 (some 36) (v := ?_) rfl rfl (by kernel_rfl) (by kernel_rfl) (by kernel_rfl) (fun _ _ _ h => h) (by rfl) ?_ hHeld ?_
  rotate_left
  · ((intro w hSw); (try dsimp only at hSw); go_simp <;> with_reducible rfl)
  simp only [Act.put, List.setIfInBounds_toArray, List.set_cons_zero, List.set_cons_succ]
  refine take_run 2 (some 37) (v := ?_) rfl rfl (by kernel_rfl) (by kernel_rfl) (by kernel_rfl) (fun _ _ _ h => h) (by rfl) ?_ hHeld ?_
  rotate_left
  · ((intro w hSw); (try dsimp only at hSw); go_simp <;> with_reducible rfl)
  simp only [Act.put, List.setIfInBounds_toArray, List.set_cons_zero, List.set_cons_succ]
  refine take_one 3 (by kernel_rfl) rfl (fun K hK => ?_)
  go_simp
  (refine (specStoreAdd_any a1 c1 vs v _ hn1 SM1.out ((V1.on hHeld.2).up hHeld.2.size) hv4' hvs' ((T6.on hHeld.2).up hHeld.2.size)).mono ?_; intro e wa3 ha; obtain ⟨A3, cap3, vs3, rfl, hl3, hi3, hR3, hb⟩ := answerS_form ha; clear ha)
  try go_wp2_with fail
  refine hK.out _ _ (by exact ⟨⟨(B5.on (hHeld.2.trans (hb.mono hHeld.2.size))).at 0, (B6.on (hHeld.2.trans (hb.mono hHeld.2.size))).six.1, (B8.on (hHeld.2.trans (hb.mono hHeld.2.size))).six.1, (B9.on (hHeld.2.trans (hb.mono hHeld.2.size))).at 0⟩, hHeld.2.trans (hb.mono hHeld.2.size)⟩) (fun hHeld => ?_)
  clear hK K
  refine take_one 4 (by kernel_rfl) rfl (fun K hK => ?_)
  go_simp
  (refine (cfStore_same A9 A3 cap9 cap3 _ vs9 vs3 _ hn9 HL9.out hl3 (like_via HL9.out HI9.out hl3 hi3) HM9.out ((V9.on hHeld.2).up hHeld.2.size) hR3.vg).mono ?_; rintro e wb4 ⟨rfl, hb⟩)
  try go_wp2_with fail
  refine hK.out _ _ (by exact ⟨⟨(B5.on (hHeld.2.trans (hb.mono hHeld.2.size))).at 0, (B6.on (hHeld.2.trans (hb.mono hHeld.2.size))).six.1, (B8.on (hHeld.2.trans (hb.mono hHeld.2.size))).six.1, (B9.on (hHeld.2.trans (hb.mono hHeld.2.size))).at 0⟩, hHeld.2.trans (hb.mono hHeld.2.size)⟩) (fun hHeld => ?_)
  clear hK K
  refine take_run 5 (some 40) (v := ?_) rfl rfl (by kernel_rfl) (by kernel_rfl) (by kernel_rfl) (fun _ _ _ h => h) (by rfl) ?_ hHeld ?_
  rotate_left
  · ((intro w hSw); (try dsimp only at hSw); go_simp <;> with_reducible rfl)
  simp only [Act.put, List.setIfInBounds_toArray, List.set_cons_zero, List.set_cons_succ]
  refine take_run 6 (some 41) (v := ?_) rfl rfl (by kernel_rfl) (by kernel_rfl) (by kernel_rfl) (fun _ _ _ h => h) (by rfl) ?_ hHeld ?_
  rotate_left
  · ((intro w hSw); (try dsimp only at hSw); go_simp <;> with_reducible rfl)
  simp only [Act.put, List.setIfInBounds_toArray, List.set_cons_zero, List.set_cons_succ]
  refine take_run 7 (some 42) (v := ?_) rfl rfl (by kernel_rfl) (by kernel_rfl) (by kernel_rfl) (fun _ _ _ h => h) (by rfl) ?_ hHeld ?_
  rotate_left
  · ((intro w hSw); (try dsimp only at hSw); go_simp <;> with_reducible rfl)
  simp only [Act.put, List.setIfInBounds_toArray, List.set_cons_zero, List.set_cons_succ]
  refine take_run 9 (some 44) (v := ?_) rfl rfl (by kernel_rfl) (by kernel_rfl) (by kernel_rfl) (fun _ _ _ h => h) (by rfl) ?_ hHeld ?_
  rotate_left
  · ((intro w hSw); (try dsimp only at hSw); go_simp <;> with_reducible rfl)
  simp only [Act.put, List.setIfInBounds_toArray, List.set_cons_zero, List.set_cons_succ]
  refine take_one 8 (by kernel_rfl) rfl (fun K hK => ?_)
  go_simp
  (refine (implStoreOk_any a1 c1 vs _ hn1 SM1.out ((V1.on hHeld.2).up hHeld.2.size)).mono ?_; rintro e wc8 ⟨rfl, hb⟩; rw [HP.out])
  try go_wp2_with fail
  refine hK.out _ _ (by exact ⟨⟨(B5.on (hHeld.2.trans (hb.mono hHeld.2.size))).at 0, (B6.on (hHeld.2.trans (hb.mono hHeld.2.size))).six.1, (B8.on (hHeld.2.trans (hb.mono hHeld.2.size))).six.1, (B9.on (hHeld.2.trans (hb.mono hHeld.2.size))).at 0⟩, hHeld.2.trans (hb.mono hHeld.2.size)⟩) (fun hHeld => ?_)
  clear hK K
  refine take_one 10 (by kernel_rfl) rfl (fun K hK => ?_)
  go_simp
  (refine (specStoreOk_any a1 c1 vs _ hn1 SM1.out ((V1.on hHeld.2).up hHeld.2.size)).mono ?_; rintro e wc10 ⟨rfl, hb⟩; rw [HP.out])
  try go_wp2_with fail
  refine hK.out _ _ (by exact ⟨⟨(B5.on (hHeld.2.trans (hb.mono hHeld.2.size))).at 0, (B6.on (hHeld.2.trans (hb.mono hHeld.2.size))).six.1, (B8.on (hHeld.2.trans (hb.mono hHeld.2.size))).six.1, (B9.on (hHeld.2.trans (hb.mono hHeld.2.size))).at 0⟩, hHeld.2.trans (hb.mono hHeld.2.size)⟩) (fun hHeld => ?_)
  clear hK K
  refine take_run 11 (some 46) (v := ?_) rfl rfl (by kernel_rfl) (by kernel_rfl) (by kernel_rfl) (fun _ _ _ h => h) (by rfl) ?_ hHeld ?_
  rotate_left
  · ((intro w hSw); (try dsimp only at hSw); go_simp <;> with_reducible rfl)
  simp only [Act.put, List.setIfInBounds_toArray, List.set_cons_zero, List.set_cons_succ]
  refine take_run 12 (some 47) (v := ?_) rfl rfl (by kernel_rfl) (by kernel_rfl) (by kernel_rfl) (fun _ _ _ h => h) (by rfl) ?_ hHeld ?_
  rotate_left
  · ((intro w hSw); (try dsimp only at hSw); go_simp <;> with_reducible rfl)
  simp only [Act.put, List.setIfInBounds_toArray, List.set_cons_zero, List.set_cons_succ]
  refine take_run 13 (some 48) (v := ?_) rfl rfl (by kernel_rfl) (by kernel_rfl) (by kernel_rfl) (fun _ _ _ h => h) (by rfl) ?_ hHeld ?_
  rotate_left
  · ((intro w hSw); (try dsimp only at hSw); go_simp <;> with_reducible rfl)
  simp only [Act.put, List.setIfInBounds_toArray, List.set_cons_zero, List.set_cons_succ]
  refine take_run 14 (some 49) (v := ?_) rfl rfl (by kernel_rfl) (by kernel_rfl) (by kernel_rfl) (fun _ _ _ h => h) (by rfl) ?_ hHeld ?_
  rotate_left
  · ((intro w hSw); (try dsimp only at hSw); go_simp <;> with_reducible rfl)
  simp only [Act.put, List.setIfInBounds_toArray, List.set_cons_zero, List.set_cons_succ]
  refine take_one 15 (by kernel_rfl) rfl (fun K hK => ?_)
  go_simp
  (refine (implStoreOk_any a1 c1 vs _ hn1 SM1.out ((V1.on hHeld.2).up hHeld.2.size)).mono ?_; rintro e wc15 ⟨rfl, hb⟩; rw [HP.out])
  try go_wp2_with fail
  refine hK.out _ _ (by exact ⟨⟨(B5.on (hHeld.2.trans (hb.mono hHeld.2.size))).at 0, (B6.on (hHeld.2.trans (hb.mono hHeld.2.size))).six.1, (B8.on (hHeld.2.trans (hb.mono hHeld.2.size))).six.1, (B9.on (hHeld.2.trans (hb.mono hHeld.2.size))).at 0⟩, hHeld.2.trans (hb.mono hHeld.2.size)⟩) (fun hHeld => ?_)
  clear hK K
  refine take_run 16 (some 51) (v := ?_) rfl rfl (by kernel_rfl) (by kernel_rfl) (by kernel_rfl) (fun _ _ _ h => h) (by rfl) ?_ hHeld ?_
  rotate_left
  · ((intro w hSw); (try dsimp only at hSw); go_simp <;> with_reducible rfl)
  simp only [Act.put, List.setIfInBounds_toArray, List.set_cons_zero, List.set_cons_succ]
  refine take_run 17 (some 52) (v := ?_) rfl rfl (by kernel_rfl) (by kernel_rfl) (by kernel_rfl) (fun _ _ _ h => h) (by rfl) ?_ hHeld ?_
  rotate_left
  · ((intro w hSw); (try dsimp only at hSw); go_simp <;> with_reducible rfl)
  simp only [Act.put, List.setIfInBounds_toArray, List.set_cons_zero, List.set_cons_succ]
  refine take_run 18 (some 53) (v := ?_) rfl rfl (by kernel_rfl) (by kernel_rfl) (by kernel_rfl) (fun _ _ _ h => h) (by rfl) ?_ hHeld ?_
  rotate_left
  · ((intro w hSw); (try dsimp only at hSw); go_simp <;> with_reducible rfl)
  simp only [Act.put, List.setIfInBounds_toArray, List.set_cons_zero, List.set_cons_succ]
  refine take_run 19 (some 54) (v := ?_) rfl rfl (by kernel_rfl) (by kernel_rfl) (by kernel_rfl) (fun _ _ _ h => h) (by rfl) ?_ hHeld ?_
  rotate_left
  · ((intro w hSw); (try dsimp only at hSw); go_simp <;> with_reducible rfl)
  simp only [Act.put, List.setIfInBounds_toArray, List.set_cons_zero, List.set_cons_succ]
  refine take_one 20 (by kernel_rfl) rfl (fun K hK => ?_)
  go_simp
  (refine (implVerOk_any v.k v.t v.u v.a v.c v.ts v.s v.g _ hv4' hvs' ((T6.on hHeld.2).up hHeld.2.size)).mono ?_; rintro e wc20 ⟨rfl, hb⟩; rw [HQ.out])
  try go_wp2_with fail
  refine hK.out _ _ (by exact ⟨⟨(B5.on (hHeld.2.trans (hb.mono hHeld.2.size))).at 0, (B6.on (hHeld.2.trans (hb.mono hHeld.2.size))).six.1, (B8.on (hHeld.2.trans (hb.mono hHeld.2.size))).six.1, (B9.on (hHeld.2.trans (hb.mono hHeld.2.size))).at 0⟩, hHeld.2.trans (hb.mono hHeld.2.size)⟩) (fun hHeld => ?_)
  clear hK K
  refine take_run 21 (some 56) (v := ?_) rfl rfl (by kernel_rfl) (by kernel_rfl) (by kernel_rfl) (fun _ _ _ h => h) (by rfl) ?_ hHeld ?_
  rotate_left
  · ((intro w hSw); (try dsimp only at hSw); go_simp <;> with_reducible rfl)
  simp only [Act.put, List.setIfInBounds_toArray, List.set_cons_zero, List.set_cons_succ]
  refine take_run 22 (some 57) (v := ?_) rfl rfl (by kernel_rfl) (by kernel_rfl) (by kernel_rfl) (fun _ _ _ h => h) (by rfl) ?_ hHeld ?_
  rotate_left
  · ((intro w hSw); (try dsimp only at hSw); go_simp <;> with_reducible rfl)
  simp only [Act.put, List.setIfInBounds_toArray, List.set_cons_zero, List.set_cons_succ]
  refine take_run 23 (some 58) (v := ?_) rfl rfl (by kernel_rfl) (by kernel_rfl) (by kernel_rfl) (fun _ _ _ h => h) (by rfl) ?_ hHeld ?_
  rotate_left
  · ((intro w hSw); (try dsimp only at hSw); go_simp <;> with_reducible rfl)
  simp only [Act.put, List.setIfInBounds_toArray, List.set_cons_zero, List.set_cons_succ]
  refine take_run 24 (some 59) (v := ?_) rfl rfl (by kernel_rfl) (by kernel_rfl) (by kernel_rfl) (fun _ _ _ h => h) (by rfl) ?_ hHeld ?_
  rotate_left
  · ((intro w hSw); (try dsimp only at hSw); go_simp <;> with_reducible rfl)
  simp only [Act.put, List.setIfInBounds_toArray, List.set_cons_zero, List.set_cons_succ]
  refine take_one 25 (by kernel_rfl) rfl (fun K hK => ?_)
  go_simp
  (refine (implVerOk_any u.k u.t u.u u.a u.c u.ts u.s u.g _ hu4' hus' ((T8.on hHeld.2).up hHeld.2.size)).mono ?_; rintro e wc25 ⟨rfl, hb⟩; rw [HR.out])
  try go_wp2_with fail
  refine hK.out _ _ (by exact ⟨⟨(B5.on (hHeld.2.trans (hb.mono hHeld.2.size))).at 0, (B6.on (hHeld.2.trans (hb.mono hHeld.2.size))).six.1, (B8.on (hHeld.2.trans (hb.mono hHeld.2.size))).six.1, (B9.on (hHeld.2.trans (hb.mono hHeld.2.size))).at 0⟩, hHeld.2.trans (hb.mono hHeld.2.size)⟩) (fun hHeld => ?_)
  clear hK K
  refine take_run 26 (some 61) (v := ?_) rfl rfl (by kernel_rfl) (by kernel_rfl) (by kernel_rfl) (fun _ _ _ h => h) (by rfl) ?_ hHeld ?_
  rotate_left
  · ((intro w hSw); (try dsimp only at hSw); go_simp <;> with_reducible rfl)
  simp only [Act.put, List.setIfInBounds_toArray, List.set_cons_zero, List.set_cons_succ]
  refine take_run 27 (some 62) (v := ?_) rfl rfl (by kernel_rfl) (by kernel_rfl) (by kernel_rfl) (fun _ _ _ h => h) (by rfl) ?_ hHeld ?_
  rotate_left
  · ((intro w hSw); (try dsimp only at hSw); go_simp <;> with_reducible rfl)
  simp only [Act.put, List.setIfInBounds_toArray, List.set_cons_zero, List.set_cons_succ]
  refine wpAnyH_done (by kernel_rfl) ?_ _
  refine NoPanic.normal ?_
  have LX := hHeld.2
  clear hHeld
  have HVV : Hid (verV v = true) := HQ
  have HVU : Hid (verV u = true) := HR
  have EA : Hid (addR vs v = keepL vs v) := by unfold addR Hid; rw [HP.out, HVV.out]; rfl
  have EU : Hid (addR vs u = keepL vs u) := by unfold addR Hid; rw [HP.out, HVU.out]; rfl
  have H4 := hide (storeB_four HP.out)
  have S9 : Hid (storeB vs9 = true) := by unfold Hid; rw [storeB_like HL9.out HI9.out, EA.out]; exact store_keep HP.out HVV.out
  have E9 : Hid (addR vs9 u = keepL vs9 u) := by unfold addR Hid; rw [S9.out, HVU.out]; rfl
  have E9v : Hid (addR vs9 v = keepL vs9 v) := by unfold addR Hid; rw [S9.out, HVV.out]; rfl
  have h94 : vs9.length = 4 := storeB_four S9.out
  have H94 := hide h94
  clear h94
  replace B5 := B5.on LX
  replace B6 := B6.on LX
  replace B8 := B8.on LX
  replace B9 := B9.on LX
  replace V1 := (V1.on LX).up LX.size
  replace T6 := (T6.on LX).up LX.size
  replace T8 := (T8.on LX).up LX.size
  replace V9 := (V9.on LX).up LX.size
  replace L0 := L0.trans (LX.mono L0.size)
  clear LX LR
  have k9 := B9.one.1
  go_wp2_with fail
  obtain ⟨TT, eTT⟩ : ∃ TT, TT = tagsR vs9 := ⟨_, rfl⟩
  have CT := implStoreTags_any A9 cap9 vs9 _ (by rw [HL9.out]; exact hn9) SM9.out V9
  rw [HL9.out, ← eTT] at CT
  refine CT.mono ?_
  clear CT
  rintro e w8 ⟨A10, cap10, rfl, hR10, hb8⟩
  have LB := hb8.trans ((below_alloc1 w8 (.cells #[.slice A10 TT.length cap10] 30)).mono hb8.size)
  have HTT := hide eTT
  clear eTT
  replace B5 := B5.on LB
  replace B6 := B6.on LB
  replace B8 := B8.on LB
  replace B9 := B9.on LB
  have B10 := Blk.made w8 30 #[.slice A10 TT.length cap10]
  replace V1 := (V1.on LB).up LB.size
  replace T6 := (T6.on LB).up LB.size
  replace T8 := (T8.on LB).up LB.size
  replace V9 := (V9.on LB).up LB.size
  have T10 := (hR10.alloc (.cells #[.slice A10 TT.length cap10] 30)).tg
  replace L0 := L0.trans (LB.mono L0.size)
  clear LB hb8 hR10 k9
  have k9 := B9.one.1
  have k8 := B8.six.1
  go_wp2_with fail
  generalize w8.alloc (.cells #[.slice A10 TT.length cap10] 30) = W8 at B5 B6 B8 B9 B10 V1 T6 T8 V9 T10 L0 k9 k8 ⊢
  generalize w8.heap.size = p10 at *
  have CT := implStoreAdd_any A9 cap9 vs9 u W8 (by rw [HL9.out]; exact hn9) SM9.out V9 hu4' hus' T8
  rw [HL9.out] at CT
  refine CT.mono ?_
  clear CT
  intro e w11 ha
  obtain ⟨A11, cap11, vs11, rfl, hl11, hi11, hR11, hb11⟩ := answerS_form ha
  clear ha
  have e11 : (addR vs9 u).length = 4 := by rw [E9.out, keepL_len]; exact H94.out
  rw [e11] at hl11 ⊢
  have HL11 := hide hl11
  have HI11 := hide hi11
  clear hl11 hi11 e11
  have LB := hb11.trans ((below_alloc1 w11 (.cells #[.slice A11 4 cap11] 25)).mono hb11.size)
  replace B5 := B5.on LB
  replace B6 := B6.on LB
  replace B8 := B8.on LB
  replace B9 := B9.on LB
  replace B10 := B10.on LB
  have B11 := Blk.made w11 25 #[.slice A11 4 cap11]
  replace V1 := (V1.on LB).up LB.size
  replace T6 := (T6.on LB).up LB.size
  replace T8 := (T8.on LB).up LB.size
  replace V9 := (V9.on LB).up LB.size
  replace T10 := (T10.on LB).up LB.size
  have V11 := (hR11.alloc (.cells #[.slice A11 4 cap11] 25)).vg
  replace L0 := L0.trans (LB.mono L0.size)
  clear LB hb11 hR11 k9 k8
  go_wp2_with fail
  generalize w11.alloc (.cells #[.slice A11 4 cap11] 25) = Wb at B5 B6 B8 B9 B10 B11 V1 T6 T8 V9 T10 V11 L0 ⊢
  generalize w11.heap.size = p11 at *
  have LR := Below.refl Wb.heap.size Wb
  have FU := hide (few_addV hf1 ⟨hu4, hus⟩)
  rename_i K0 hK0
  have key : ∀ (z0 z1 z2 z3 z4 z7 z13 z14 z15 z16 z17 z18 z19 z20 z21 z22 z23 z24 z25 z26 z27 z28 z29 z30 z31 z32 z33 z34 z35 z36 z37 z38 z39 z40 z41 z42 z43 z44 z45 z46 z47 z48 z49 z50 z51 z52 z53 z54 z55 z56 z57 z58 z59 z60 z61 z62 z63 z64 z65 z66 z67 z68 z69 z70 z71 z72 z73 z74 z75 z76 z77 z78 z79 z80 z81 z82 z83 z84 z85 z86 z87 z88 z89 z90 z91 z92 z93 z94 z95 z96 z97 z98 z99 z100 z101 z102 z103 z104 z105 z106 z107 z108 z109 z110 z111 z112 z113 z114 z115 z116 z117 z118 z119 z120 z121 z122 z123 z124 z125 z126 z127 z128 z129 z130 z131 z132 z133 z134 z135 z136 z137 z138 z139 z140 z141 z142 z143 z144 z145 z146 z147 z148 z149 z150 : Value) (p12 cap12 : Nat) (A12 : Option Addr) (vs12 : List V) (w' : World), Blk w' p12 25 #[.slice A12 4 cap12] → vs12.length = 4 → Like vs12 (keepL (keepL vs u) v) → Vg w' w'.heap.size A12 vs12 → Below Wb.heap.size Wb w' →
      K0 { tmps := (z0 :: z1 :: z2 :: z3 :: z4 :: .pointer (some ⟨p5, 0, none⟩) :: .pointer (some ⟨p6, 0, none⟩) :: z7 :: .pointer (some ⟨p8, 0, none⟩) :: .pointer (some ⟨p9, 0, none⟩) :: .pointer (some ⟨p10, 0, none⟩) :: .pointer (some ⟨p11, 0, none⟩) :: .pointer (some ⟨p12, 0, none⟩) :: z13 :: z14 :: z15 :: z16 :: z17 :: z18 :: z19 :: z20 :: z21 :: z22 :: z23 :: z24 :: z25 :: z26 :: z27 :: z28 :: z29 :: z30 :: z31 :: z32 :: z33 :: z34 :: z35 :: z36 :: z37 :: z38 :: z39 :: z40 :: z41 :: z42 :: z43 :: z44 :: z45 :: z46 :: z47 :: z48 :: z49 :: z50 :: z51 :: z52 :: z53 :: z54 :: z55 :: z56 :: z57 :: z58 :: z59 :: z60 :: z61 :: z62 :: z63 :: z64 :: z65 :: z66 :: z67 :: z68 :: z69 :: z70 :: z71 :: z72 :: z73 :: z74 :: z75 :: z76 :: z77 :: z78 :: z79 :: z80 :: z81 :: z82 :: z83 :: z84 :: z85 :: z86 :: z87 :: z88 :: z89 :: z90 :: z91 :: z92 :: z93 :: z94 :: z95 :: z96 :: z97 :: z98 :: z99 :: z100 :: z101 :: z102 :: z103 :: z104 :: z105 :: z106 :: z107 :: z108 :: z109 :: z110 :: z111 :: z112 :: z113 :: z114 :: z115 :: z116 :: z117 :: z118 :: z119 :: z120 :: z121 :: z122 :: z123 :: z124 :: z125 :: z126 :: z127 :: z128 :: z129 :: z130 :: z131 :: z132 :: z133 :: z134 :: z135 :: z136 :: z137 :: z138 :: z139 :: z140 :: z141 :: z142 :: z143 :: z144 :: z145 :: z146 :: z147 :: z148 :: z149 :: z150 :: []).toArray, defers := [] } w' := by
    intro z0 z1 z2 z3 z4 z7 z13 z14 z15 z16 z17 z18 z19 z20 z21 z22 z23 z24 z25 z26 z27 z28 z29 z30 z31 z32 z33 z34 z35 z36 z37 z38 z39 z40 z41 z42 z43 z44 z45 z46 z47 z48 z49 z50 z51 z52 z53 z54 z55 z56 z57 z58 z59 z60 z61 z62 z63 z64 z65 z66 z67 z68 z69 z70 z71 z72 z73 z74 z75 z76 z77 z78 z79 z80 z81 z82 z83 z84 z85 z86 z87 z88 z89 z90 z91 z92 z93 z94 z95 z96 z97 z98 z99 z100 z101 z102 z103 z104 z105 z106 z107 z108 z109 z110 z111 z112 z113 z114 z115 z116 z117 z118 z119 z120 z121 z122 z123 z124 z125 z126 z127 z128 z129 z130 z131 z132 z133 z134 z135 z136 z137 z138 z139 z140 z141 z142 z143 z144 z145 z146 z147 z148 z149 z150 p12 cap12 A12 vs12 Wc B12 hl12 hi12 V12 hL
    have HL12 := hide hl12
    have HI12 := hide hi12
    have SM11 := hide (small_of (us := vs11) (vs := keepL vs9 u) (by rw [keepL_len, HL11.out, H94.out]) (by rw [← E9.out]; exact HI11.out) (small_few (few_keepV (fun v hv => fewV_like HL9.out HI9.out FJ.out v hv) ⟨hu4, hus⟩)))
    clear hl12 hi12
    replace B5 := B5.on hL
    replace B6 := B6.on hL
    replace B8 := B8.on hL
    replace B9 := B9.on hL
    replace B10 := B10.on hL
    replace B11 := B11.on hL
    replace V1 := (V1.on hL).up hL.size
    replace T6 := (T6.on hL).up hL.size
    replace T8 := (T8.on hL).up hL.size
    replace V9 := (V9.on hL).up hL.size
    replace T10 := (T10.on hL).up hL.size
    replace V11 := (V11.on hL).up hL.size
    replace L0 := L0.trans (hL.mono L0.size)
    clear hL LR
    apply hK0
    obtain ⟨kn, ek⟩ := Int.eq_ofNat_of_zero_le (ver_key HVV.out).1
    obtain ⟨un, eu⟩ := Int.eq_ofNat_of_zero_le (ver_key HVU.out).1
    have hkn : kn < 4 := by have := (ver_key HVV.out).2; omega
    have hun : un < 4 := by have := (ver_key HVU.out).2; omega
    have EK := hide ek
    have EUK := hide eu
    have B6k : Blk Wc p6 32 (verC (kn : Int) v.t v.u v.a v.ts.length v.c v.s v.g) := by rw [← ek]; exact B6
    have B8k : Blk Wc p8 32 (verC (un : Int) u.t u.u u.a u.ts.length u.c u.s u.g) := by rw [← eu]; exact B8
    obtain ⟨x, hx⟩ : ∃ x, vs[kn]? = some x := ⟨_, List.getElem?_eq_getElem (by have := H4.out; omega)⟩
    obtain ⟨y, hy⟩ : ∃ y, vs[un]? = some y := ⟨_, List.getElem?_eq_getElem (by have := H4.out; omega)⟩
    have tg := tag_at HP.out HVV.out HL9.out HI9.out ek hx
    rw [← HTT.out] at tg
    generalize em1 : mxT x.t x.u v.t v.u = m1 at tg
    generalize em2 : mxP x.t x.u v.t v.u = m2 at tg
    have EM1 := hide em1
    have EM2 := hide em2
    rcases T10 with e0 | ⟨b10, o10, rfl, bb10, q10⟩
    · rw [e0] at tg
      have := tg.2
      simp at this
    have M1 := hide (q10 kn _ tg.1).1
    have M2 := hide (q10 kn _ tg.1).2
    have V1z := V1
    rcases V1 with e0 | ⟨b1, o1, rfl, bb1, q1⟩
    · have := H4.out
      rw [e0] at this
      simp at this
    have X1 := hide (q1 kn x hx).1
    have Y1 := hide (q1 un y hy).1
    have i1 : (0 : Int) ≤ (kn : Int) := by omega
    have i2 : (kn : Int) < (vs.length : Int) := by have := H4.out; omega
    have i3 : (0 : Int) ≤ (un : Int) := by omega
    have i4 : (un : Int) < (vs.length : Int) := by have := H4.out; omega
    have i5 : (kn : Int) < (TT.length : Int) := by have := tg.2; omega
    clear q1 q10 hx hy tg em1 em2 ek eu B6 B8
    go_wp2_with fail
    rename_i K1 hK1
    have LR := Below.refl Wc.heap.size Wc
    have key2 : ∀ (y0 y1 y2 y3 y4 y7 y14 y15 y16 y17 y18 y19 y20 y21 y22 y23 y24 y25 y26 y27 y28 y29 y30 y31 y32 y33 y34 y35 y36 y37 y38 y39 y40 y41 y42 y43 y44 y45 y46 y47 y48 y49 y50 y51 y52 y53 y54 y55 y56 y57 y58 y59 y60 y61 y62 y63 y64 y65 y66 y67 y68 y69 y70 y71 y72 y73 y74 y75 y76 y77 y78 y79 y80 y81 y82 y83 y84 y85 y86 y87 y88 y89 y90 y91 y92 y93 y94 y95 y96 y97 y98 y99 y100 y101 y102 y103 y104 y105 y106 y107 y108 y109 y110 y111 y112 y113 y114 y115 y116 y117 y118 y119 y120 y121 y122 y123 y124 y125 y126 y127 y128 y129 y130 y131 y132 y133 y134 y135 y136 y137 y138 y139 y140 y141 y142 y143 y144 y145 y146 y147 y148 y149 y150 : Value) (q : Bool) (Wd : World), (q = true → ¬ (v.t = u.t ∧ v.u = u.u)) → Below Wc.heap.size Wc Wd → K1 { tmps := (y0 :: y1 :: y2 :: y3 :: y4 :: .pointer (some ⟨p5, 0, none⟩) :: .pointer (some ⟨p6, 0, none⟩) :: y7 :: .pointer (some ⟨p8, 0, none⟩) :: .pointer (some ⟨p9, 0, none⟩) :: .pointer (some ⟨p10, 0, none⟩) :: .pointer (some ⟨p11, 0, none⟩) :: .pointer (some ⟨p12, 0, none⟩) :: .bool q :: y14 :: y15 :: y16 :: y17 :: y18 :: y19 :: y20 :: y21 :: y22 :: y23 :: y24 :: y25 :: y26 :: y27 :: y28 :: y29 :: y30 :: y31 :: y32 :: y33 :: y34 :: y35 :: y36 :: y37 :: y38 :: y39 :: y40 :: y41 :: y42 :: y43 :: y44 :: y45 :: y46 :: y47 :: y48 :: y49 :: y50 :: y51 :: y52 :: y53 :: y54 :: y55 :: y56 :: y57 :: y58 :: y59 :: y60 :: y61 :: y62 :: y63 :: y64 :: y65 :: y66 :: y67 :: y68 :: y69 :: y70 :: y71 :: y72 :: y73 :: y74 :: y75 :: y76 :: y77 :: y78 :: y79 :: y80 :: y81 :: y82 :: y83 :: y84 :: y85 :: y86 :: y87 :: y88 :: y89 :: y90 :: y91 :: y92 :: y93 :: y94 :: y95 :: y96 :: y97 :: y98 :: y99 :: y100 :: y101 :: y102 :: y103 :: y104 :: y105 :: y106 :: y107 :: y108 :: y109 :: y110 :: y111 :: y112 :: y113 :: y114 :: y115 :: y116 :: y117 :: y118 :: y119 :: y120 :: y121 :: y122 :: y123 :: y124 :: y125 :: y126 :: y127 :: y128 :: y129 :: y130 :: y131 :: y132 :: y133 :: y134 :: y135 :: y136 :: y137 :: y138 :: y139 :: y140 :: y141 :: y142 :: y143 :: y144 :: y145 :: y146 :: y147 :: y148 :: y149 :: y150 :: []).toArray, defers := [] } Wd := by
      intro y0 y1 y2 y3 y4 y7 y14 y15 y16 y17 y18 y19 y20 y21 y22 y23 y24 y25 y26 y27 y28 y29 y30 y31 y32 y33 y34 y35 y36 y37 y38 y39 y40 y41 y42 y43 y44 y45 y46 y47 y48 y49 y50 y51 y52 y53 y54 y55 y56 y57 y58 y59 y60 y61 y62 y63 y64 y65 y66 y67 y68 y69 y70 y71 y72 y73 y74 y75 y76 y77 y78 y79 y80 y81 y82 y83 y84 y85 y86 y87 y88 y89 y90 y91 y92 y93 y94 y95 y96 y97 y98 y99 y100 y101 y102 y103 y104 y105 y106 y107 y108 y109 y110 y111 y112 y113 y114 y115 y116 y117 y118 y119 y120 y121 y122 y123 y124 y125 y126 y127 y128 y129 y130 y131 y132 y133 y134 y135 y136 y137 y138 y139 y140 y141 y142 y143 y144 y145 y146 y147 y148 y149 y150 q Wd hne hL
      have HNE := hide hne
      clear hne
      replace B5 := B5.on hL
      replace B6k := B6k.on hL
      replace B9 := B9.on hL
      replace B10 := B10.on hL
      replace B11 := B11.on hL
      replace B12 := B12.on hL
      replace T6 := (T6.on hL).up hL.size
      replace V9 := (V9.on hL).up hL.size
      replace V11 := (V11.on hL).up hL.size
      replace V12 := (V12.on hL).up hL.size
      replace X1 := hide (X1.out.keep bb1 (fun _ hp => hL.cell hp))
      replace M1 := hide ((hL.cell (p := ⟨b10, o10 + kn * 2, none⟩) bb10).trans M1.out)
      replace M2 := hide ((hL.cell (p := ⟨b10, o10 + kn * 2 + 1, none⟩) bb10).trans M2.out)
      replace bb1 : b1 < Wd.heap.size := Nat.lt_of_lt_of_le bb1 hL.size
      replace bb10 : b10 < Wd.heap.size := Nat.lt_of_lt_of_le bb10 hL.size
      replace L0 := L0.trans (hL.mono L0.size)
      clear hL LR Y1 B8k V1z T8 i3 i4
      have LR := Below.refl Wd.heap.size Wd
      apply hK1
      clear hK1 hK0
      cases q
      · clear HNE
        go_wp2_with fail
        refine wp_region_noPanic ?_
        refine wp_region_held_drew (S := (fun w' => (w'.cell? ⟨p5, 0, none⟩ = some (.slice (some ⟨b1, o1, none⟩) vs.length c1) ∧ (w'.cell? ⟨p6, 0, none⟩ = some (.int .i64 (kn : Int)) ∧ w'.cell? ⟨p6, 1, none⟩ = some (.int .i64 v.t) ∧ w'.cell? ⟨p6, 2, none⟩ = some (.int .i64 v.u) ∧ w'.cell? ⟨p6, 3, none⟩ = some (.slice v.a v.ts.length v.c) ∧ w'.cell? ⟨p6, 4, none⟩ = some (.string v.s) ∧ w'.cell? ⟨p6, 5, none⟩ = some (.bool v.g)) ∧ w'.cell? ⟨p9, 0, none⟩ = some (.slice A9 (addR vs v).length cap9) ∧ w'.cell? ⟨p10, 0, none⟩ = some (.slice (some ⟨b10, o10, none⟩) TT.length cap10) ∧ w'.cell? ⟨p11, 0, none⟩ = some (.slice A11 4 cap11) ∧ w'.cell? ⟨p12, 0, none⟩ = some (.slice A12 4 cap12) ∧ Six w' b1 (o1 + kn * 6) x ∧ w'.cell? ⟨b10, o10 + kn * 2, none⟩ = some (.int .i64 m1) ∧ w'.cell? ⟨b10, o10 + kn * 2 + 1, none⟩ = some (.int .i64 m2)) ∧ Below Wd.heap.size Wd w')) (by kernel_rfl) (by exact ⟨⟨((B5.on (LR)).drew).at 0, ((B6k.on (LR)).drew).six.1, ((B9.on (LR)).drew).at 0, ((B10.on (LR)).drew).at 0, ((B11.on (LR)).drew).at 0, ((B12.on (LR)).drew).at 0, X1.out.keep bb1 (fun _ hp => (LR).drew.cell hp), ((LR).drew.cell (p := ⟨b10, o10 + kn * 2, none⟩) bb10).trans M1.out, ((LR).drew.cell (p := ⟨b10, o10 + kn * 2 + 1, none⟩) bb10).trans M2.out⟩, (LR).drew⟩) (fun hHeld => ?_)
        refine take_run 0 (some 114) (v := ?_) rfl rfl (by kernel_rfl) (by kernel_rfl) (by kernel_rfl) (fun _ _ _ h => h) (by rfl) ?_ hHeld ?_
        rotate_left
        · ((intro w hSw); (try dsimp only at hSw); go_simp <;> with_reducible rfl)
        simp only [Act.put, List.setIfInBounds_toArray, List.set_cons_zero, List.set_cons_succ]
        refine take_one 1 (by kernel_rfl) rfl (fun K hK => ?_)
        go_simp
        (have CT := implStoreOk_any A9 cap9 vs9 _ (by rw [HL9.out]; exact hn9) SM9.out ((V9.on hHeld.2).up hHeld.2.size); rw [HL9.out, S9.out] at CT; (with_reducible refine CT.mono ?_); clear CT; rintro e wr1 ⟨rfl, hb⟩)
        try go_wp2_with fail
        refine hK.out _ _ (by exact ⟨⟨((B5.on (hHeld.2.trans (hb.mono hHeld.2.size)))).at 0, ((B6k.on (hHeld.2.trans (hb.mono hHeld.2.size)))).six.1, ((B9.on (hHeld.2.trans (hb.mono hHeld.2.size)))).at 0, ((B10.on (hHeld.2.trans (hb.mono hHeld.2.size)))).at 0, ((B11.on (hHeld.2.trans (hb.mono hHeld.2.size)))).at 0, ((B12.on (hHeld.2.trans (hb.mono hHeld.2.size)))).at 0, X1.out.keep bb1 (fun _ hp => (hHeld.2.trans (hb.mono hHeld.2.size)).cell hp), ((hHeld.2.trans (hb.mono hHeld.2.size)).cell (p := ⟨b10, o10 + kn * 2, none⟩) bb10).trans M1.out, ((hHeld.2.trans (hb.mono hHeld.2.size)).cell (p := ⟨b10, o10 + kn * 2 + 1, none⟩) bb10).trans M2.out⟩, hHeld.2.trans (hb.mono hHeld.2.size)⟩) (fun hHeld => ?_)
        clear hK K
        refine take_run 2 (some 116) (v := ?_) rfl rfl (by kernel_rfl) (by kernel_rfl) (by kernel_rfl) (fun _ _ _ h => h) (by rfl) ?_ hHeld ?_
        rotate_left
        · ((intro w hSw); (try dsimp only at hSw); go_simp <;> with_reducible rfl)
        simp only [Act.put, List.setIfInBounds_toArray, List.set_cons_zero, List.set_cons_succ]
        refine take_run 3 (some 117) (v := ?_) rfl rfl (by kernel_rfl) (by kernel_rfl) (by kernel_rfl) (fun _ _ _ h => h) (by rfl) ?_ hHeld ?_
        rotate_left
        · ((intro w hSw); (try dsimp only at hSw); go_simp <;> with_reducible rfl)
        simp only [Act.put, List.setIfInBounds_toArray, List.set_cons_zero, List.set_cons_succ]
        refine take_run 4 (some 118) (v := ?_) rfl rfl (by kernel_rfl) (by kernel_rfl) (by kernel_rfl) (fun _ _ _ h => h) (by rfl) ?_ hHeld ?_
        rotate_left
        · ((intro w hSw); (try dsimp only at hSw); go_simp <;> with_reducible rfl)
        simp only [Act.put, List.setIfInBounds_toArray, List.set_cons_zero, List.set_cons_succ]
        refine take_run 5 (some 119) (v := ?_) rfl rfl (by kernel_rfl) (by kernel_rfl) (by kernel_rfl) (fun _ _ _ h => h) (by rfl) ?_ hHeld ?_
        rotate_left
        · ((intro w hSw); (try dsimp only at hSw); go_simp <;> with_reducible rfl)
        simp only [Act.put, List.setIfInBounds_toArray, List.set_cons_zero, List.set_cons_succ]
        refine take_run 6 (some 120) (v := ?_) rfl rfl (by kernel_rfl) (by kernel_rfl) (by kernel_rfl) (fun _ _ _ h => h) (by rfl) ?_ hHeld ?_
        rotate_left
        · ((intro w hSw); (try dsimp only at hSw); go_simp <;> with_reducible rfl)
        simp only [Act.put, List.setIfInBounds_toArray, List.set_cons_zero, List.set_cons_succ]
        refine take_run 7 (some 121) (v := ?_) rfl rfl (by kernel_rfl) (by kernel_rfl) (by kernel_rfl) (fun _ _ _ h => h) (by rfl) ?_ hHeld ?_
        rotate_left
        · ((intro w hSw); (try dsimp only at hSw); go_simp <;> with_reducible rfl)
        simp only [Act.put, List.setIfInBounds_toArray, List.set_cons_zero, List.set_cons_succ]
        refine take_run 8 (some 122) (v := ?_) rfl rfl (by kernel_rfl) (by kernel_rfl) (by kernel_rfl) (fun _ _ _ h => h) (by rfl) ?_ hHeld ?_
        rotate_left
        · ((intro w hSw); (try dsimp only at hSw); go_simp <;> with_reducible rfl)
        simp only [Act.put, List.setIfInBounds_toArray, List.set_cons_zero, List.set_cons_succ]
        refine take_run 9 (some 123) (v := ?_) rfl rfl (by kernel_rfl) (by kernel_rfl) (by kernel_rfl) (fun _ _ _ h => h) (by rfl) ?_ hHeld ?_
        rotate_left
        · ((intro w hSw); (try dsimp only at hSw); go_simp <;> with_reducible rfl)
        simp only [Act.put, List.setIfInBounds_toArray, List.set_cons_zero, List.set_cons_succ]
        refine take_run 10 (some 124) (v := ?_) rfl rfl (by kernel_rfl) (by kernel_rfl) (by kernel_rfl) (fun _ _ _ h => h) (by rfl) ?_ hHeld ?_
        rotate_left
        · ((intro w hSw); (try dsimp only at hSw); go_simp <;> with_reducible rfl)
        simp only [Act.put, List.setIfInBounds_toArray, List.set_cons_zero, List.set_cons_succ]
        refine take_run 11 (some 125) (v := ?_) rfl rfl (by kernel_rfl) (by kernel_rfl) (by kernel_rfl) (fun _ _ _ h => h) (by rfl) ?_ hHeld ?_
        rotate_left
        · ((intro w hSw); (try dsimp only at hSw); go_simp <;> with_reducible rfl)
        simp only [Act.put, List.setIfInBounds_toArray, List.set_cons_zero, List.set_cons_succ]
        refine take_run 12 (some 126) (v := ?_) rfl rfl (by kernel_rfl) (by kernel_rfl) (by kernel_rfl) (fun _ _ _ h => h) (by rfl) ?_ hHeld ?_
        rotate_left
        · ((intro w hSw); (try dsimp only at hSw); go_simp <;> with_reducible rfl)
        simp only [Act.put, List.setIfInBounds_toArray, List.set_cons_zero, List.set_cons_succ]
        refine take_run 13 (some 127) (v := ?_) rfl rfl (by kernel_rfl) (by kernel_rfl) (by kernel_rfl) (fun _ _ _ h => h) (by rfl) ?_ hHeld ?_
        rotate_left
        · ((intro w hSw); (try dsimp only at hSw); go_simp <;> with_reducible rfl)
        simp only [Act.put, List.setIfInBounds_toArray, List.set_cons_zero, List.set_cons_succ]
        refine take_run 14 (some 128) (v := ?_) rfl rfl (by kernel_rfl) (by kernel_rfl) (by kernel_rfl) (fun _ _ _ h => h) (by rfl) ?_ hHeld ?_
        rotate_left
        · ((intro w hSw); (try dsimp only at hSw); go_simp <;> with_reducible rfl)
        simp only [Act.put, List.setIfInBounds_toArray, List.set_cons_zero, List.set_cons_succ]
        refine take_run 15 (some 129) (v := ?_) rfl rfl (by kernel_rfl) (by kernel_rfl) (by kernel_rfl) (fun _ _ _ h => h) (by rfl) ?_ hHeld ?_
        rotate_left
        · ((intro w hSw); (try dsimp only at hSw); go_simp <;> with_reducible rfl)
        simp only [Act.put, List.setIfInBounds_toArray, List.set_cons_zero, List.set_cons_succ]
        refine take_run 16 (some 130) (v := ?_) rfl rfl (by kernel_rfl) (by kernel_rfl) (by kernel_rfl) (fun _ _ _ h => h) (by rfl) ?_ hHeld ?_
        rotate_left
        · ((intro w hSw); (try dsimp only at hSw); go_simp <;> with_reducible rfl)
        simp only [Act.put, List.setIfInBounds_toArray, List.set_cons_zero, List.set_cons_succ]
        refine take_run 17 (some 131) (v := ?_) rfl rfl (by kernel_rfl) (by kernel_rfl) (by kernel_rfl) (fun _ _ _ h => h) (by rfl) ?_ hHeld ?_
        rotate_left
        · ((intro w hSw); (try dsimp only at hSw); go_simp <;> with_reducible rfl)
        simp only [Act.put, List.setIfInBounds_toArray, List.set_cons_zero, List.set_cons_succ]
        refine take_one 18 (by kernel_rfl) rfl (fun K hK => ?_)
        go_simp
        (have CT := implTagMax_any x.t x.u v.t v.u wr1; rw [EM1.out, EM2.out] at CT; (with_reducible refine CT.mono ?_); clear CT; rintro e wr2 ⟨rfl, hb⟩)
        try go_wp2_with fail
        refine hK.out _ _ (by exact ⟨⟨((B5.on (hHeld.2.trans (hb.mono hHeld.2.size)))).at 0, ((B6k.on (hHeld.2.trans (hb.mono hHeld.2.size)))).six.1, ((B9.on (hHeld.2.trans (hb.mono hHeld.2.size)))).at 0, ((B10.on (hHeld.2.trans (hb.mono hHeld.2.size)))).at 0, ((B11.on (hHeld.2.trans (hb.mono hHeld.2.size)))).at 0, ((B12.on (hHeld.2.trans (hb.mono hHeld.2.size)))).at 0, X1.out.keep bb1 (fun _ hp => (hHeld.2.trans (hb.mono hHeld.2.size)).cell hp), ((hHeld.2.trans (hb.mono hHeld.2.size)).cell (p := ⟨b10, o10 + kn * 2, none⟩) bb10).trans M1.out, ((hHeld.2.trans (hb.mono hHeld.2.size)).cell (p := ⟨b10, o10 + kn * 2 + 1, none⟩) bb10).trans M2.out⟩, hHeld.2.trans (hb.mono hHeld.2.size)⟩) (fun hHeld => ?_)
        clear hK K
        refine take_run 19 (some 133) (v := ?_) rfl rfl (by kernel_rfl) (by kernel_rfl) (by kernel_rfl) (fun _ _ _ h => h) (by rfl) ?_ hHeld ?_
        rotate_left
        · ((intro w hSw); (try dsimp only at hSw); go_simp <;> with_reducible rfl)
        simp only [Act.put, List.setIfInBounds_toArray, List.set_cons_zero, List.set_cons_succ]
        refine take_run 20 (some 134) (v := ?_) rfl rfl (by kernel_rfl) (by kernel_rfl) (by kernel_rfl) (fun _ _ _ h => h) (by rfl) ?_ hHeld ?_
        rotate_left
        · ((intro w hSw); (try dsimp only at hSw); go_simp <;> with_reducible rfl)
        simp only [Act.put, List.setIfInBounds_toArray, List.set_cons_zero, List.set_cons_succ]
        refine take_run 21 (some 135) (v := ?_) rfl rfl (by kernel_rfl) (by kernel_rfl) (by kernel_rfl) (fun _ _ _ h => h) (by rfl) ?_ hHeld ?_
        rotate_left
        · ((intro w hSw); (try dsimp only at hSw); go_simp <;> with_reducible rfl)
        simp only [Act.put, List.setIfInBounds_toArray, List.set_cons_zero, List.set_cons_succ]
        refine take_run 22 (some 136) (v := ?_) rfl rfl (by kernel_rfl) (by kernel_rfl) (by kernel_rfl) (fun _ _ _ h => h) (by rfl) ?_ hHeld ?_
        rotate_left
        · ((intro w hSw); (try dsimp only at hSw); go_simp <;> with_reducible rfl)
        simp only [Act.put, List.setIfInBounds_toArray, List.set_cons_zero, List.set_cons_succ]
        refine take_run 23 (some 137) (v := ?_) rfl rfl (by kernel_rfl) (by kernel_rfl) (by kernel_rfl) (fun _ _ _ h => h) (by rfl) ?_ hHeld ?_
        rotate_left
        · ((intro w hSw); (try dsimp only at hSw); go_simp <;> with_reducible rfl)
        simp only [Act.put, List.setIfInBounds_toArray, List.set_cons_zero, List.set_cons_succ]
        refine take_run 25 (some 139) (v := ?_) rfl rfl (by kernel_rfl) (by kernel_rfl) (by kernel_rfl) (fun _ _ _ h => h) (by rfl) ?_ hHeld ?_
        rotate_left
        · ((intro w hSw); (try dsimp only at hSw); go_simp <;> with_reducible rfl)
        simp only [Act.put, List.setIfInBounds_toArray, List.set_cons_zero, List.set_cons_succ]
        refine take_one 24 (by kernel_rfl) rfl (fun K hK => ?_)
        go_simp
        (have CT := implStoreAdd_any A9 cap9 vs9 v _ (by rw [HL9.out]; exact hn9) SM9.out ((V9.on hHeld.2).up hHeld.2.size) hv4' hvs' ((T6.on hHeld.2).up hHeld.2.size); rw [HL9.out, EK.out] at CT; (with_reducible refine CT.mono ?_); clear CT; intro e wr3 ha; obtain ⟨A24, cap24, vs24, rfl, hl24, hi24, hR24, hb⟩ := answerS_form ha; clear ha; have q24 := add_same HP.out HVV.out HL9.out HI9.out hl24 hi24; rw [q24.1] at hl24 ⊢)
        try go_wp2_with fail
        refine hK.out _ _ (by exact ⟨⟨((B5.on (hHeld.2.trans (hb.mono hHeld.2.size)))).at 0, ((B6k.on (hHeld.2.trans (hb.mono hHeld.2.size)))).six.1, ((B9.on (hHeld.2.trans (hb.mono hHeld.2.size)))).at 0, ((B10.on (hHeld.2.trans (hb.mono hHeld.2.size)))).at 0, ((B11.on (hHeld.2.trans (hb.mono hHeld.2.size)))).at 0, ((B12.on (hHeld.2.trans (hb.mono hHeld.2.size)))).at 0, X1.out.keep bb1 (fun _ hp => (hHeld.2.trans (hb.mono hHeld.2.size)).cell hp), ((hHeld.2.trans (hb.mono hHeld.2.size)).cell (p := ⟨b10, o10 + kn * 2, none⟩) bb10).trans M1.out, ((hHeld.2.trans (hb.mono hHeld.2.size)).cell (p := ⟨b10, o10 + kn * 2 + 1, none⟩) bb10).trans M2.out⟩, hHeld.2.trans (hb.mono hHeld.2.size)⟩) (fun hHeld => ?_)
        clear hK K
        refine take_one 26 (by kernel_rfl) rfl (fun K hK => ?_)
        go_simp
        (with_reducible refine (cfStore_same A24 A9 cap24 cap9 _ vs24 vs9 _ hn9 hl24 HL9.out q24.2 (small_of (hl24.trans HL9.out.symm) q24.2 SM9.out) hR24.vg ((V9.on hHeld.2).up hHeld.2.size)).mono ?_; rintro e wr4 ⟨rfl, hb⟩)
        try go_wp2_with fail
        refine hK.out _ _ (by exact ⟨⟨((B5.on (hHeld.2.trans (hb.mono hHeld.2.size)))).at 0, ((B6k.on (hHeld.2.trans (hb.mono hHeld.2.size)))).six.1, ((B9.on (hHeld.2.trans (hb.mono hHeld.2.size)))).at 0, ((B10.on (hHeld.2.trans (hb.mono hHeld.2.size)))).at 0, ((B11.on (hHeld.2.trans (hb.mono hHeld.2.size)))).at 0, ((B12.on (hHeld.2.trans (hb.mono hHeld.2.size)))).at 0, X1.out.keep bb1 (fun _ hp => (hHeld.2.trans (hb.mono hHeld.2.size)).cell hp), ((hHeld.2.trans (hb.mono hHeld.2.size)).cell (p := ⟨b10, o10 + kn * 2, none⟩) bb10).trans M1.out, ((hHeld.2.trans (hb.mono hHeld.2.size)).cell (p := ⟨b10, o10 + kn * 2 + 1, none⟩) bb10).trans M2.out⟩, hHeld.2.trans (hb.mono hHeld.2.size)⟩) (fun hHeld => ?_)
        clear hK K
        refine take_run 27 (some 141) (v := ?_) rfl rfl (by kernel_rfl) (by kernel_rfl) (by kernel_rfl) (fun _ _ _ h => h) (by rfl) ?_ hHeld ?_
        rotate_left
        · ((intro w hSw); (try dsimp only at hSw); go_simp <;> with_reducible rfl)
        simp only [Act.put, List.setIfInBounds_toArray, List.set_cons_zero, List.set_cons_succ]
        refine take_run 28 (some 142) (v := ?_) rfl rfl (by kernel_rfl) (by kernel_rfl) (by kernel_rfl) (fun _ _ _ h => h) (by rfl) ?_ hHeld ?_
        rotate_left
        · ((intro w hSw); (try dsimp only at hSw); go_simp <;> with_reducible rfl)
        simp only [Act.put, List.setIfInBounds_toArray, List.set_cons_zero, List.set_cons_succ]
        refine take_run 29 (some 143) (v := ?_) rfl rfl (by kernel_rfl) (by kernel_rfl) (by kernel_rfl) (fun _ _ _ h => h) (by rfl) ?_ hHeld ?_
        rotate_left
        · ((intro w hSw); (try dsimp only at hSw); go_simp <;> with_reducible rfl)
        simp only [Act.put, List.setIfInBounds_toArray, List.set_cons_zero, List.set_cons_succ]
        refine take_run 30 (some 144) (v := ?_) rfl rfl (by kernel_rfl) (by kernel_rfl) (by kernel_rfl) (fun _ _ _ h => h) (by rfl) ?_ hHeld ?_
        rotate_left
        · ((intro w hSw); (try dsimp only at hSw); go_simp <;> with_reducible rfl)
        simp only [Act.put, List.setIfInBounds_toArray, List.set_cons_zero, List.set_cons_succ]
        refine take_run 31 (some 145) (v := ?_) rfl rfl (by kernel_rfl) (by kernel_rfl) (by kernel_rfl) (fun _ _ _ h => h) (by rfl) ?_ hHeld ?_
        rotate_left
        · ((intro w hSw); (try dsimp only at hSw); go_simp <;> with_reducible rfl)
        simp only [Act.put, List.setIfInBounds_toArray, List.set_cons_zero, List.set_cons_succ]
        refine take_skip 32 (some 146) rfl rfl (by kernel_rfl) (by kernel_rfl) (by kernel_rfl) (fun _ _ _ h => h) (by rfl) hHeld ?_
        simp only [Act.put, List.setIfInBounds_toArray, List.set_cons_zero, List.set_cons_succ]
        refine take_skip 33 (some 147) rfl rfl (by kernel_rfl) (by kernel_rfl) (by kernel_rfl) (fun _ _ _ h => h) (by rfl) hHeld ?_
        simp only [Act.put, List.setIfInBounds_toArray, List.set_cons_zero, List.set_cons_succ]
        refine take_skip 34 (some 148) rfl rfl (by kernel_rfl) (by kernel_rfl) (by kernel_rfl) (fun _ _ _ h => h) (by rfl) hHeld ?_
        simp only [Act.put, List.setIfInBounds_toArray, List.set_cons_zero, List.set_cons_succ]
        refine take_run 35 (some 149) (v := ?_) rfl rfl (by kernel_rfl) (by kernel_rfl) (by kernel_rfl) (fun _ _ _ h => h) (by rfl) ?_ hHeld ?_
        rotate_left
        · ((intro w hSw); (try dsimp only at hSw); go_simp <;> with_reducible rfl)
        simp only [Act.put, List.setIfInBounds_toArray, List.set_cons_zero, List.set_cons_succ]
        refine take_run 36 (some 150) (v := ?_) rfl rfl (by kernel_rfl) (by kernel_rfl) (by kernel_rfl) (fun _ _ _ h => h) (by rfl) ?_ hHeld ?_
        rotate_left
        · ((intro w hSw); (try dsimp only at hSw); go_simp <;> with_reducible rfl)
        simp only [Act.put, List.setIfInBounds_toArray, List.set_cons_zero, List.set_cons_succ]
        refine take_run 37 (some 4) (v := ?_) rfl rfl (by kernel_rfl) (by kernel_rfl) (by kernel_rfl) (fun _ _ _ h => h) (by rfl) ?_ hHeld ?_
        rotate_left
        · ((intro w hSw); (try dsimp only at hSw); go_simp <;> with_reducible rfl)
        simp only [Act.put, List.setIfInBounds_toArray, List.set_cons_zero, List.set_cons_succ]
        refine wpAnyH_done (by kernel_rfl) ?_ _
        refine NoPanic.normal ?_
        have L9 := L0.trans (hHeld.2.mono L0.size)
        clear hHeld
        go_wp2
        go_ret
        exact ⟨rfl, L9⟩
      · skip
        go_wp2_with fail
        refine wp_region_noPanic ?_
        refine wp_region_held_drew (S := (fun w' => (w'.cell? ⟨p5, 0, none⟩ = some (.slice (some ⟨b1, o1, none⟩) vs.length c1) ∧ (w'.cell? ⟨p6, 0, none⟩ = some (.int .i64 (kn : Int)) ∧ w'.cell? ⟨p6, 1, none⟩ = some (.int .i64 v.t) ∧ w'.cell? ⟨p6, 2, none⟩ = some (.int .i64 v.u) ∧ w'.cell? ⟨p6, 3, none⟩ = some (.slice v.a v.ts.length v.c) ∧ w'.cell? ⟨p6, 4, none⟩ = some (.string v.s) ∧ w'.cell? ⟨p6, 5, none⟩ = some (.bool v.g)) ∧ w'.cell? ⟨p9, 0, none⟩ = some (.slice A9 (addR vs v).length cap9) ∧ w'.cell? ⟨p10, 0, none⟩ = some (.slice (some ⟨b10, o10, none⟩) TT.length cap10) ∧ w'.cell? ⟨p11, 0, none⟩ = some (.slice A11 4 cap11) ∧ w'.cell? ⟨p12, 0, none⟩ = some (.slice A12 4 cap12) ∧ Six w' b1 (o1 + kn * 6) x ∧ w'.cell? ⟨b10, o10 + kn * 2, none⟩ = some (.int .i64 m1) ∧ w'.cell? ⟨b10, o10 + kn * 2 + 1, none⟩ = some (.int .i64 m2)) ∧ Below Wd.heap.size Wd w')) (by kernel_rfl) (by exact ⟨⟨((B5.on (LR)).drew).at 0, ((B6k.on (LR)).drew).six.1, ((B9.on (LR)).drew).at 0, ((B10.on (LR)).drew).at 0, ((B11.on (LR)).drew).at 0, ((B12.on (LR)).drew).at 0, X1.out.keep bb1 (fun _ hp => (LR).drew.cell hp), ((LR).drew.cell (p := ⟨b10, o10 + kn * 2, none⟩) bb10).trans M1.out, ((LR).drew.cell (p := ⟨b10, o10 + kn * 2 + 1, none⟩) bb10).trans M2.out⟩, (LR).drew⟩) (fun hHeld => ?_)
        refine take_run 0 (some 114) (v := ?_) rfl rfl (by kernel_rfl) (by kernel_rfl) (by kernel_rfl) (fun _ _ _ h => h) (by rfl) ?_ hHeld ?_
        rotate_left
        · ((intro w hSw); (try dsimp only at hSw); go_simp <;> with_reducible rfl)
        simp only [Act.put, List.setIfInBounds_toArray, List.set_cons_zero, List.set_cons_succ]
        refine take_one 1 (by kernel_rfl) rfl (fun K hK => ?_)
        go_simp
        (have CT := implStoreOk_any A9 cap9 vs9 _ (by rw [HL9.out]; exact hn9) SM9.out ((V9.on hHeld.2).up hHeld.2.size); rw [HL9.out, S9.out] at CT; (with_reducible refine CT.mono ?_); clear CT; rintro e wr1 ⟨rfl, hb⟩)
        try go_wp2_with fail
        refine hK.out _ _ (by exact ⟨⟨((B5.on (hHeld.2.trans (hb.mono hHeld.2.size)))).at 0, ((B6k.on (hHeld.2.trans (hb.mono hHeld.2.size)))).six.1, ((B9.on (hHeld.2.trans (hb.mono hHeld.2.size)))).at 0, ((B10.on (hHeld.2.trans (hb.mono hHeld.2.size)))).at 0, ((B11.on (hHeld.2.trans (hb.mono hHeld.2.size)))).at 0, ((B12.on (hHeld.2.trans (hb.mono hHeld.2.size)))).at 0, X1.out.keep bb1 (fun _ hp => (hHeld.2.trans (hb.mono hHeld.2.size)).cell hp), ((hHeld.2.trans (hb.mono hHeld.2.size)).cell (p := ⟨b10, o10 + kn * 2, none⟩) bb10).trans M1.out, ((hHeld.2.trans (hb.mono hHeld.2.size)).cell (p := ⟨b10, o10 + kn * 2 + 1, none⟩) bb10).trans M2.out⟩, hHeld.2.trans (hb.mono hHeld.2.size)⟩) (fun hHeld => ?_)
        clear hK K
        refine take_run 2 (some 116) (v := ?_) rfl rfl (by kernel_rfl) (by kernel_rfl) (by kernel_rfl) (fun _ _ _ h => h) (by rfl) ?_ hHeld ?_
        rotate_left
        · ((intro w hSw); (try dsimp only at hSw); go_simp <;> with_reducible rfl)
        simp only [Act.put, List.setIfInBounds_toArray, List.set_cons_zero, List.set_cons_succ]
        refine take_run 3 (some 117) (v := ?_) rfl rfl (by kernel_rfl) (by kernel_rfl) (by kernel_rfl) (fun _ _ _ h => h) (by rfl) ?_ hHeld ?_
        rotate_left
        · ((intro w hSw); (try dsimp only at hSw); go_simp <;> with_reducible rfl)
        simp only [Act.put, List.setIfInBounds_toArray, List.set_cons_zero, List.set_cons_succ]
        refine take_run 4 (some 118) (v := ?_) rfl rfl (by kernel_rfl) (by kernel_rfl) (by kernel_rfl) (fun _ _ _ h => h) (by rfl) ?_ hHeld ?_
        rotate_left
        · ((intro w hSw); (try dsimp only at hSw); go_simp <;> with_reducible rfl)
        simp only [Act.put, List.setIfInBounds_toArray, List.set_cons_zero, List.set_cons_succ]
        refine take_run 5 (some 119) (v := ?_) rfl rfl (by kernel_rfl) (by kernel_rfl) (by kernel_rfl) (fun _ _ _ h => h) (by rfl) ?_ hHeld ?_
        rotate_left
        · ((intro w hSw); (try dsimp only at hSw); go_simp <;> with_reducible rfl)
        simp only [Act.put, List.setIfInBounds_toArray, List.set_cons_zero, List.set_cons_succ]
        refine take_run 6 (some 120) (v := ?_) rfl rfl (by kernel_rfl) (by kernel_rfl) (by kernel_rfl) (fun _ _ _ h => h) (by rfl) ?_ hHeld ?_
        rotate_left
        · ((intro w hSw); (try dsimp only at hSw); go_simp <;> with_reducible rfl)
        simp only [Act.put, List.setIfInBounds_toArray, List.set_cons_zero, List.set_cons_succ]
        refine take_run 7 (some 121) (v := ?_) rfl rfl (by kernel_rfl) (by kernel_rfl) (by kernel_rfl) (fun _ _ _ h => h) (by rfl) ?_ hHeld ?_
        rotate_left
        · ((intro w hSw); (try dsimp only at hSw); go_simp <;> with_reducible rfl)
        simp only [Act.put, List.setIfInBounds_toArray, List.set_cons_zero, List.set_cons_succ]
        refine take_run 8 (some 122) (v := ?_) rfl rfl (by kernel_rfl) (by kernel_rfl) (by kernel_rfl) (fun _ _ _ h => h) (by rfl) ?_ hHeld ?_
        rotate_left
        · ((intro w hSw); (try dsimp only at hSw); go_simp <;> with_reducible rfl)
        simp only [Act.put, List.setIfInBounds_toArray, List.set_cons_zero, List.set_cons_succ]
        refine take_run 9 (some 123) (v := ?_) rfl rfl (by kernel_rfl) (by kernel_rfl) (by kernel_rfl) (fun _ _ _ h => h) (by rfl) ?_ hHeld ?_
        rotate_left
        · ((intro w hSw); (try dsimp only at hSw); go_simp <;> with_reducible rfl)
        simp only [Act.put, List.setIfInBounds_toArray, List.set_cons_zero, List.set_cons_succ]
        refine take_run 10 (some 124) (v := ?_) rfl rfl (by kernel_rfl) (by kernel_rfl) (by kernel_rfl) (fun _ _ _ h => h) (by rfl) ?_ hHeld ?_
        rotate_left
        · ((intro w hSw); (try dsimp only at hSw); go_simp <;> with_reducible rfl)
        simp only [Act.put, List.setIfInBounds_toArray, List.set_cons_zero, List.set_cons_succ]
        refine take_run 11 (some 125) (v := ?_) rfl rfl (by kernel_rfl) (by kernel_rfl) (by kernel_rfl) (fun _ _ _ h => h) (by rfl) ?_ hHeld ?_
        rotate_left
        · ((intro w hSw); (try dsimp only at hSw); go_simp <;> with_reducible rfl)
        simp only [Act.put, List.setIfInBounds_toArray, List.set_cons_zero, List.set_cons_succ]
        refine take_run 12 (some 126) (v := ?_) rfl rfl (by kernel_rfl) (by kernel_rfl) (by kernel_rfl) (fun _ _ _ h => h) (by rfl) ?_ hHeld ?_
        rotate_left
        · ((intro w hSw); (try dsimp only at hSw); go_simp <;> with_reducible rfl)
        simp only [Act.put, List.setIfInBounds_toArray, List.set_cons_zero, List.set_cons_succ]
        refine take_run 13 (some 127) (v := ?_) rfl rfl (by kernel_rfl) (by kernel_rfl) (by kernel_rfl) (fun _ _ _ h => h) (by rfl) ?_ hHeld ?_
        rotate_left
        · ((intro w hSw); (try dsimp only at hSw); go_simp <;> with_reducible rfl)
        simp only [Act.put, List.setIfInBounds_toArray, List.set_cons_zero, List.set_cons_succ]
        refine take_run 14 (some 128) (v := ?_) rfl rfl (by kernel_rfl) (by kernel_rfl) (by kernel_rfl) (fun _ _ _ h => h) (by rfl) ?_ hHeld ?_
        rotate_left
        · ((intro w hSw); (try dsimp only at hSw); go_simp <;> with_reducible rfl)
        simp only [Act.put, List.setIfInBounds_toArray, List.set_cons_zero, List.set_cons_succ]
        refine take_run 15 (some 129) (v := ?_) rfl rfl (by kernel_rfl) (by kernel_rfl) (by kernel_rfl) (fun _ _ _ h => h) (by rfl) ?_ hHeld ?_
        rotate_left
        · ((intro w hSw); (try dsimp only at hSw); go_simp <;> with_reducible rfl)
        simp only [Act.put, List.setIfInBounds_toArray, List.set_cons_zero, List.set_cons_succ]
        refine take_run 16 (some 130) (v := ?_) rfl rfl (by kernel_rfl) (by kernel_rfl) (by kernel_rfl) (fun _ _ _ h => h) (by rfl) ?_ hHeld ?_
        rotate_left
        · ((intro w hSw); (try dsimp only at hSw); go_simp <;> with_reducible rfl)
        simp only [Act.put, List.setIfInBounds_toArray, List.set_cons_zero, List.set_cons_succ]
        refine take_run 17 (some 131) (v := ?_) rfl rfl (by kernel_rfl) (by kernel_rfl) (by kernel_rfl) (fun _ _ _ h => h) (by rfl) ?_ hHeld ?_
        rotate_left
        · ((intro w hSw); (try dsimp only at hSw); go_simp <;> with_reducible rfl)
        simp only [Act.put, List.setIfInBounds_toArray, List.set_cons_zero, List.set_cons_succ]
        refine take_one 18 (by kernel_rfl) rfl (fun K hK => ?_)
        go_simp
        (have CT := implTagMax_any x.t x.u v.t v.u wr1; rw [EM1.out, EM2.out] at CT; (with_reducible refine CT.mono ?_); clear CT; rintro e wr2 ⟨rfl, hb⟩)
        try go_wp2_with fail
        refine hK.out _ _ (by exact ⟨⟨((B5.on (hHeld.2.trans (hb.mono hHeld.2.size)))).at 0, ((B6k.on (hHeld.2.trans (hb.mono hHeld.2.size)))).six.1, ((B9.on (hHeld.2.trans (hb.mono hHeld.2.size)))).at 0, ((B10.on (hHeld.2.trans (hb.mono hHeld.2.size)))).at 0, ((B11.on (hHeld.2.trans (hb.mono hHeld.2.size)))).at 0, ((B12.on (hHeld.2.trans (hb.mono hHeld.2.size)))).at 0, X1.out.keep bb1 (fun _ hp => (hHeld.2.trans (hb.mono hHeld.2.size)).cell hp), ((hHeld.2.trans (hb.mono hHeld.2.size)).cell (p := ⟨b10, o10 + kn * 2, none⟩) bb10).trans M1.out, ((hHeld.2.trans (hb.mono hHeld.2.size)).cell (p := ⟨b10, o10 + kn * 2 + 1, none⟩) bb10).trans M2.out⟩, hHeld.2.trans (hb.mono hHeld.2.size)⟩) (fun hHeld => ?_)
        clear hK K
        refine take_run 19 (some 133) (v := ?_) rfl rfl (by kernel_rfl) (by kernel_rfl) (by kernel_rfl) (fun _ _ _ h => h) (by rfl) ?_ hHeld ?_
        rotate_left
        · ((intro w hSw); (try dsimp only at hSw); go_simp <;> with_reducible rfl)
        simp only [Act.put, List.setIfInBounds_toArray, List.set_cons_zero, List.set_cons_succ]
        refine take_run 20 (some 134) (v := ?_) rfl rfl (by kernel_rfl) (by kernel_rfl) (by kernel_rfl) (fun _ _ _ h => h) (by rfl) ?_ hHeld ?_
        rotate_left
        · ((intro w hSw); (try dsimp only at hSw); go_simp <;> with_reducible rfl)
        simp only [Act.put, List.setIfInBounds_toArray, List.set_cons_zero, List.set_cons_succ]
        refine take_run 21 (some 135) (v := ?_) rfl rfl (by kernel_rfl) (by kernel_rfl) (by kernel_rfl) (fun _ _ _ h => h) (by rfl) ?_ hHeld ?_
        rotate_left
        · ((intro w hSw); (try dsimp only at hSw); go_simp <;> with_reducible rfl)
        simp only [Act.put, List.setIfInBounds_toArray, List.set_cons_zero, List.set_cons_succ]
        refine take_run 22 (some 136) (v := ?_) rfl rfl (by kernel_rfl) (by kernel_rfl) (by kernel_rfl) (fun _ _ _ h => h) (by rfl) ?_ hHeld ?_
        rotate_left
        · ((intro w hSw); (try dsimp only at hSw); go_simp <;> with_reducible rfl)
        simp only [Act.put, List.setIfInBounds_toArray, List.set_cons_zero, List.set_cons_succ]
        refine take_run 23 (some 137) (v := ?_) rfl rfl (by kernel_rfl) (by kernel_rfl) (by kernel_rfl) (fun _ _ _ h => h) (by rfl) ?_ hHeld ?_
        rotate_left
        · ((intro w hSw); (try dsimp only at hSw); go_simp <;> with_reducible rfl)
        simp only [Act.put, List.setIfInBounds_toArray, List.set_cons_zero, List.set_cons_succ]
        refine take_run 25 (some 139) (v := ?_) rfl rfl (by kernel_rfl) (by kernel_rfl) (by kernel_rfl) (fun _ _ _ h => h) (by rfl) ?_ hHeld ?_
        rotate_left
        · ((intro w hSw); (try dsimp only at hSw); go_simp <;> with_reducible rfl)
        simp only [Act.put, List.setIfInBounds_toArray, List.set_cons_zero, List.set_cons_succ]
        refine take_one 24 (by kernel_rfl) rfl (fun K hK => ?_)
        go_simp
        (have CT := implStoreAdd_any A9 cap9 vs9 v _ (by rw [HL9.out]; exact hn9) SM9.out ((V9.on hHeld.2).up hHeld.2.size) hv4' hvs' ((T6.on hHeld.2).up hHeld.2.size); rw [HL9.out, EK.out] at CT; (with_reducible refine CT.mono ?_); clear CT; intro e wr3 ha; obtain ⟨A24, cap24, vs24, rfl, hl24, hi24, hR24, hb⟩ := answerS_form ha; clear ha; have q24 := add_same HP.out HVV.out HL9.out HI9.out hl24 hi24; rw [q24.1] at hl24 ⊢)
        try go_wp2_with fail
        refine hK.out _ _ (by exact ⟨⟨((B5.on (hHeld.2.trans (hb.mono hHeld.2.size)))).at 0, ((B6k.on (hHeld.2.trans (hb.mono hHeld.2.size)))).six.1, ((B9.on (hHeld.2.trans (hb.mono hHeld.2.size)))).at 0, ((B10.on (hHeld.2.trans (hb.mono hHeld.2.size)))).at 0, ((B11.on (hHeld.2.trans (hb.mono hHeld.2.size)))).at 0, ((B12.on (hHeld.2.trans (hb.mono hHeld.2.size)))).at 0, X1.out.keep bb1 (fun _ hp => (hHeld.2.trans (hb.mono hHeld.2.size)).cell hp), ((hHeld.2.trans (hb.mono hHeld.2.size)).cell (p := ⟨b10, o10 + kn * 2, none⟩) bb10).trans M1.out, ((hHeld.2.trans (hb.mono hHeld.2.size)).cell (p := ⟨b10, o10 + kn * 2 + 1, none⟩) bb10).trans M2.out⟩, hHeld.2.trans (hb.mono hHeld.2.size)⟩) (fun hHeld => ?_)
        clear hK K
        refine take_one 26 (by kernel_rfl) rfl (fun K hK => ?_)
        go_simp
        (with_reducible refine (cfStore_same A24 A9 cap24 cap9 _ vs24 vs9 _ hn9 hl24 HL9.out q24.2 (small_of (hl24.trans HL9.out.symm) q24.2 SM9.out) hR24.vg ((V9.on hHeld.2).up hHeld.2.size)).mono ?_; rintro e wr4 ⟨rfl, hb⟩)
        try go_wp2_with fail
        refine hK.out _ _ (by exact ⟨⟨((B5.on (hHeld.2.trans (hb.mono hHeld.2.size)))).at 0, ((B6k.on (hHeld.2.trans (hb.mono hHeld.2.size)))).six.1, ((B9.on (hHeld.2.trans (hb.mono hHeld.2.size)))).at 0, ((B10.on (hHeld.2.trans (hb.mono hHeld.2.size)))).at 0, ((B11.on (hHeld.2.trans (hb.mono hHeld.2.size)))).at 0, ((B12.on (hHeld.2.trans (hb.mono hHeld.2.size)))).at 0, X1.out.keep bb1 (fun _ hp => (hHeld.2.trans (hb.mono hHeld.2.size)).cell hp), ((hHeld.2.trans (hb.mono hHeld.2.size)).cell (p := ⟨b10, o10 + kn * 2, none⟩) bb10).trans M1.out, ((hHeld.2.trans (hb.mono hHeld.2.size)).cell (p := ⟨b10, o10 + kn * 2 + 1, none⟩) bb10).trans M2.out⟩, hHeld.2.trans (hb.mono hHeld.2.size)⟩) (fun hHeld => ?_)
        clear hK K
        refine take_run 27 (some 141) (v := ?_) rfl rfl (by kernel_rfl) (by kernel_rfl) (by kernel_rfl) (fun _ _ _ h => h) (by rfl) ?_ hHeld ?_
        rotate_left
        · ((intro w hSw); (try dsimp only at hSw); go_simp <;> with_reducible rfl)
        simp only [Act.put, List.setIfInBounds_toArray, List.set_cons_zero, List.set_cons_succ]
        refine take_run 28 (some 142) (v := ?_) rfl rfl (by kernel_rfl) (by kernel_rfl) (by kernel_rfl) (fun _ _ _ h => h) (by rfl) ?_ hHeld ?_
        rotate_left
        · ((intro w hSw); (try dsimp only at hSw); go_simp <;> with_reducible rfl)
        simp only [Act.put, List.setIfInBounds_toArray, List.set_cons_zero, List.set_cons_succ]
        refine take_run 29 (some 143) (v := ?_) rfl rfl (by kernel_rfl) (by kernel_rfl) (by kernel_rfl) (fun _ _ _ h => h) (by rfl) ?_ hHeld ?_
        rotate_left
        · ((intro w hSw); (try dsimp only at hSw); go_simp <;> with_reducible rfl)
        simp only [Act.put, List.setIfInBounds_toArray, List.set_cons_zero, List.set_cons_succ]
        refine take_run 30 (some 144) (v := ?_) rfl rfl (by kernel_rfl) (by kernel_rfl) (by kernel_rfl) (fun _ _ _ h => h) (by rfl) ?_ hHeld ?_
        rotate_left
        · ((intro w hSw); (try dsimp only at hSw); go_simp <;> with_reducible rfl)
        simp only [Act.put, List.setIfInBounds_toArray, List.set_cons_zero, List.set_cons_succ]
        refine take_run 31 (some 145) (v := ?_) rfl rfl (by kernel_rfl) (by kernel_rfl) (by kernel_rfl) (fun _ _ _ h => h) (by rfl) ?_ hHeld ?_
        rotate_left
        · ((intro w hSw); (try dsimp only at hSw); go_simp <;> with_reducible rfl)
        simp only [Act.put, List.setIfInBounds_toArray, List.set_cons_zero, List.set_cons_succ]
        refine take_run 32 (some 146) (v := ?_) rfl rfl (by kernel_rfl) (by kernel_rfl) (by kernel_rfl) (fun _ _ _ h => h) (by rfl) ?_ hHeld ?_
        rotate_left
        · ((intro w hSw); (try dsimp only at hSw); go_simp <;> with_reducible rfl)
        simp only [Act.put, List.setIfInBounds_toArray, List.set_cons_zero, List.set_cons_succ]
        refine take_run 33 (some 147) (v := ?_) rfl rfl (by kernel_rfl) (by kernel_rfl) (by kernel_rfl) (fun _ _ _ h => h) (by rfl) ?_ hHeld ?_
        rotate_left
        · ((intro w hSw); (try dsimp only at hSw); go_simp <;> with_reducible rfl)
        simp only [Act.put, List.setIfInBounds_toArray, List.set_cons_zero, List.set_cons_succ]
        refine take_one 34 (by kernel_rfl) rfl (fun K hK => ?_)
        go_simp
        (with_reducible refine (cfStore_same A11 A12 cap11 cap12 4 vs11 vs12 _ (by omega) HL11.out HL12.out (add_swap HP.out HVV.out HVU.out HL9.out HI9.out HL11.out HI11.out HI12.out (HNE.out (by first | rfl | trivial))) SM11.out ((V11.on hHeld.2).up hHeld.2.size) ((V12.on hHeld.2).up hHeld.2.size)).mono ?_; rintro e wr5 ⟨rfl, hb⟩)
        try go_wp2_with fail
        refine hK.out _ _ (by exact ⟨⟨((B5.on (hHeld.2.trans (hb.mono hHeld.2.size)))).at 0, ((B6k.on (hHeld.2.trans (hb.mono hHeld.2.size)))).six.1, ((B9.on (hHeld.2.trans (hb.mono hHeld.2.size)))).at 0, ((B10.on (hHeld.2.trans (hb.mono hHeld.2.size)))).at 0, ((B11.on (hHeld.2.trans (hb.mono hHeld.2.size)))).at 0, ((B12.on (hHeld.2.trans (hb.mono hHeld.2.size)))).at 0, X1.out.keep bb1 (fun _ hp => (hHeld.2.trans (hb.mono hHeld.2.size)).cell hp), ((hHeld.2.trans (hb.mono hHeld.2.size)).cell (p := ⟨b10, o10 + kn * 2, none⟩) bb10).trans M1.out, ((hHeld.2.trans (hb.mono hHeld.2.size)).cell (p := ⟨b10, o10 + kn * 2 + 1, none⟩) bb10).trans M2.out⟩, hHeld.2.trans (hb.mono hHeld.2.size)⟩) (fun hHeld => ?_)
        clear hK K
        refine take_run 35 (some 149) (v := ?_) rfl rfl (by kernel_rfl) (by kernel_rfl) (by kernel_rfl) (fun _ _ _ h => h) (by rfl) ?_ hHeld ?_
        rotate_left
        · ((intro w hSw); (try dsimp only at hSw); go_simp <;> with_reducible rfl)
        simp only [Act.put, List.setIfInBounds_toArray, List.set_cons_zero, List.set_cons_succ]
        refine take_run 36 (some 150) (v := ?_) rfl rfl (by kernel_rfl) (by kernel_rfl) (by kernel_rfl) (fun _ _ _ h => h) (by rfl) ?_ hHeld ?_
        rotate_left
        · ((intro w hSw); (try dsimp only at hSw); go_simp <;> with_reducible rfl)
        simp only [Act.put, List.setIfInBounds_toArray, List.set_cons_zero, List.set_cons_succ]
        refine take_run 37 (some 4) (v := ?_) rfl rfl (by kernel_rfl) (by kernel_rfl) (by kernel_rfl) (fun _ _ _ h => h) (by rfl) ?_ hHeld ?_
        rotate_left
        · ((intro w hSw); (try dsimp only at hSw); go_simp <;> with_reducible rfl)
        simp only [Act.put, List.setIfInBounds_toArray, List.set_cons_zero, List.set_cons_succ]
        refine wpAnyH_done (by kernel_rfl) ?_ _
        refine NoPanic.normal ?_
        have L9 := L0.trans (hHeld.2.mono L0.size)
        clear hHeld
        go_wp2
        go_ret
        exact ⟨rfl, L9⟩
    have KEY2 := hide key2
    clear key2
    by_cases hvu : v.t = u.t ∧ v.u = u.u
    · have hn0 := neq_eq hvu
      clear hvu
      refine wp_region_noPanic ?_
      refine wp_region_held_drew (S := (fun w' => (w'.cell? ⟨p5, 0, none⟩ = some (.slice (some ⟨b1, o1, none⟩) vs.length c1) ∧ (w'.cell? ⟨p6, 0, none⟩ = some (.int .i64 (kn : Int)) ∧ w'.cell? ⟨p6, 1, none⟩ = some (.int .i64 v.t) ∧ w'.cell? ⟨p6, 2, none⟩ = some (.int .i64 v.u) ∧ w'.cell? ⟨p6, 3, none⟩ = some (.slice v.a v.ts.length v.c) ∧ w'.cell? ⟨p6, 4, none⟩ = some (.string v.s) ∧ w'.cell? ⟨p6, 5, none⟩ = some (.bool v.g)) ∧ (w'.cell? ⟨p8, 0, none⟩ = some (.int .i64 (un : Int)) ∧ w'.cell? ⟨p8, 1, none⟩ = some (.int .i64 u.t) ∧ w'.cell? ⟨p8, 2, none⟩ = some (.int .i64 u.u) ∧ w'.cell? ⟨p8, 3, none⟩ = some (.slice u.a u.ts.length u.c) ∧ w'.cell? ⟨p8, 4, none⟩ = some (.string u.s) ∧ w'.cell? ⟨p8, 5, none⟩ = some (.bool u.g)) ∧ Six w' b1 (o1 + kn * 6) x ∧ Six w' b1 (o1 + un * 6) y) ∧ Below Wc.heap.size Wc w')) (by kernel_rfl) (by exact ⟨⟨((B5.on (LR)).drew).at 0, ((B6k.on (LR)).drew).six.1, ((B8k.on (LR)).drew).six.1, X1.out.keep bb1 (fun _ hp => (LR).drew.cell hp), Y1.out.keep bb1 (fun _ hp => (LR).drew.cell hp)⟩, (LR).drew⟩) (fun hHeld => ?_)
      refine take_run 0 (some 85) (v := ?_) rfl rfl (by kernel_rfl) (by kernel_rfl) (by kernel_rfl) (fun _ _ _ h => h) (by rfl) ?_ hHeld ?_
      rotate_left
      · ((intro w hSw); (try dsimp only at hSw); go_simp <;> with_reducible rfl)
      simp only [Act.put, List.setIfInBounds_toArray, List.set_cons_zero, List.set_cons_succ]
      refine take_run 1 (some 86) (v := ?_) rfl rfl (by kernel_rfl) (by kernel_rfl) (by kernel_rfl) (fun _ _ _ h => h) (by rfl) ?_ hHeld ?_
      rotate_left
      · ((intro w hSw); (try dsimp only at hSw); go_simp <;> with_reducible rfl)
      simp only [Act.put, List.setIfInBounds_toArray, List.set_cons_zero, List.set_cons_succ]
      refine take_run 2 (some 87) (v := ?_) rfl rfl (by kernel_rfl) (by kernel_rfl) (by kernel_rfl) (fun _ _ _ h => h) (by rfl) ?_ hHeld ?_
      rotate_left
      · ((intro w hSw); (try dsimp only at hSw); go_simp <;> with_reducible rfl)
      simp only [Act.put, List.setIfInBounds_toArray, List.set_cons_zero, List.set_cons_succ]
      refine take_run 3 (some 88) (v := ?_) rfl rfl (by kernel_rfl) (by kernel_rfl) (by kernel_rfl) (fun _ _ _ h => h) (by rfl) ?_ hHeld ?_
      rotate_left
      · ((intro w hSw); (try dsimp only at hSw); go_simp <;> with_reducible rfl)
      simp only [Act.put, List.setIfInBounds_toArray, List.set_cons_zero, List.set_cons_succ]
      refine take_run 4 (some 89) (v := ?_) rfl rfl (by kernel_rfl) (by kernel_rfl) (by kernel_rfl) (fun _ _ _ h => h) (by rfl) ?_ hHeld ?_
      rotate_left
      · ((intro w hSw); (try dsimp only at hSw); go_simp <;> with_reducible rfl)
      simp only [Act.put, List.setIfInBounds_toArray, List.set_cons_zero, List.set_cons_succ]
      refine take_run 5 (some 90) (v := ?_) rfl rfl (by kernel_rfl) (by kernel_rfl) (by kernel_rfl) (fun _ _ _ h => h) (by rfl) ?_ hHeld ?_
      rotate_left
      · ((intro w hSw); (try dsimp only at hSw); go_simp <;> with_reducible rfl)
      simp only [Act.put, List.setIfInBounds_toArray, List.set_cons_zero, List.set_cons_succ]
      refine take_skip 6 (some 91) rfl rfl (by kernel_rfl) (by kernel_rfl) (by kernel_rfl) (fun _ _ _ h => h) (by rfl) hHeld ?_
      simp only [Act.put, List.setIfInBounds_toArray, List.set_cons_zero, List.set_cons_succ]
      refine take_skip 7 (some 92) rfl rfl (by kernel_rfl) (by kernel_rfl) (by kernel_rfl) (fun _ _ _ h => h) (by rfl) hHeld ?_
      simp only [Act.put, List.setIfInBounds_toArray, List.set_cons_zero, List.set_cons_succ]
      refine take_skip 8 (some 93) rfl rfl (by kernel_rfl) (by kernel_rfl) (by kernel_rfl) (fun _ _ _ h => h) (by rfl) hHeld ?_
      simp only [Act.put, List.setIfInBounds_toArray, List.set_cons_zero, List.set_cons_succ]
      refine take_skip 9 (some 94) rfl rfl (by kernel_rfl) (by kernel_rfl) (by kernel_rfl) (fun _ _ _ h => h) (by rfl) hHeld ?_
      simp only [Act.put, List.setIfInBounds_toArray, List.set_cons_zero, List.set_cons_succ]
      refine take_skip 10 (some 95) rfl rfl (by kernel_rfl) (by kernel_rfl) (by kernel_rfl) (fun _ _ _ h => h) (by rfl) hHeld ?_
      simp only [Act.put, List.setIfInBounds_toArray, List.set_cons_zero, List.set_cons_succ]
      refine take_skip 11 (some 96) rfl rfl (by kernel_rfl) (by kernel_rfl) (by kernel_rfl) (fun _ _ _ h => h) (by rfl) hHeld ?_
      simp only [Act.put, List.setIfInBounds_toArray, List.set_cons_zero, List.set_cons_succ]
      refine take_skip 12 (some 97) rfl rfl (by kernel_rfl) (by kernel_rfl) (by kernel_rfl) (fun _ _ _ h => h) (by rfl) hHeld ?_
      simp only [Act.put, List.setIfInBounds_toArray, List.set_cons_zero, List.set_cons_succ]
      refine take_skip 13 (some 98) rfl rfl (by kernel_rfl) (by kernel_rfl) (by kernel_rfl) (fun _ _ _ h => h) (by rfl) hHeld ?_
      simp only [Act.put, List.setIfInBounds_toArray, List.set_cons_zero, List.set_cons_succ]
      refine take_skip 14 (some 99) rfl rfl (by kernel_rfl) (by kernel_rfl) (by kernel_rfl) (fun _ _ _ h => h) (by rfl) hHeld ?_
      simp only [Act.put, List.setIfInBounds_toArray, List.set_cons_zero, List.set_cons_succ]
      refine take_skip 15 (some 100) rfl rfl (by kernel_rfl) (by kernel_rfl) (by kernel_rfl) (fun _ _ _ h => h) (by rfl) hHeld ?_
      simp only [Act.put, List.setIfInBounds_toArray, List.set_cons_zero, List.set_cons_succ]
      refine take_run 16 (some 101) (v := ?_) rfl rfl (by kernel_rfl) (by kernel_rfl) (by kernel_rfl) (fun _ _ _ h => h) (by rfl) ?_ hHeld ?_
      rotate_left
      · ((intro w hSw); (try dsimp only at hSw); go_simp <;> with_reducible rfl)
      simp only [Act.put, List.setIfInBounds_toArray, List.set_cons_zero, List.set_cons_succ]
      refine take_run 17 (some 102) (v := ?_) rfl rfl (by kernel_rfl) (by kernel_rfl) (by kernel_rfl) (fun _ _ _ h => h) (by rfl) ?_ hHeld ?_
      rotate_left
      · ((intro w hSw); (try dsimp only at hSw); go_simp <;> with_reducible rfl)
      simp only [Act.put, List.setIfInBounds_toArray, List.set_cons_zero, List.set_cons_succ]
      refine take_skip 18 (some 103) rfl rfl (by kernel_rfl) (by kernel_rfl) (by kernel_rfl) (fun _ _ _ h => h) (by rfl) hHeld ?_
      simp only [Act.put, List.setIfInBounds_toArray, List.set_cons_zero, List.set_cons_succ]
      refine take_skip 19 (some 104) rfl rfl (by kernel_rfl) (by kernel_rfl) (by kernel_rfl) (fun _ _ _ h => h) (by rfl) hHeld ?_
      simp only [Act.put, List.setIfInBounds_toArray, List.set_cons_zero, List.set_cons_succ]
      refine take_skip 20 (some 105) rfl rfl (by kernel_rfl) (by kernel_rfl) (by kernel_rfl) (fun _ _ _ h => h) (by rfl) hHeld ?_
      simp only [Act.put, List.setIfInBounds_toArray, List.set_cons_zero, List.set_cons_succ]
      refine take_skip 21 (some 106) rfl rfl (by kernel_rfl) (by kernel_rfl) (by kernel_rfl) (fun _ _ _ h => h) (by rfl) hHeld ?_
      simp only [Act.put, List.setIfInBounds_toArray, List.set_cons_zero, List.set_cons_succ]
      refine take_skip 22 (some 107) rfl rfl (by kernel_rfl) (by kernel_rfl) (by kernel_rfl) (fun _ _ _ h => h) (by rfl) hHeld ?_
      simp only [Act.put, List.setIfInBounds_toArray, List.set_cons_zero, List.set_cons_succ]
      refine take_skip 23 (some 108) rfl rfl (by kernel_rfl) (by kernel_rfl) (by kernel_rfl) (fun _ _ _ h => h) (by rfl) hHeld ?_
      simp only [Act.put, List.setIfInBounds_toArray, List.set_cons_zero, List.set_cons_succ]
      refine take_skip 24 (some 109) rfl rfl (by kernel_rfl) (by kernel_rfl) (by kernel_rfl) (fun _ _ _ h => h) (by rfl) hHeld ?_
      simp only [Act.put, List.setIfInBounds_toArray, List.set_cons_zero, List.set_cons_succ]
      refine take_skip 25 (some 110) rfl rfl (by kernel_rfl) (by kernel_rfl) (by kernel_rfl) (fun _ _ _ h => h) (by rfl) hHeld ?_
      simp only [Act.put, List.setIfInBounds_toArray, List.set_cons_zero, List.set_cons_succ]
      refine take_skip 26 (some 111) rfl rfl (by kernel_rfl) (by kernel_rfl) (by kernel_rfl) (fun _ _ _ h => h) (by rfl) hHeld ?_
      simp only [Act.put, List.setIfInBounds_toArray, List.set_cons_zero, List.set_cons_succ]
      refine take_skip 27 (some 112) rfl rfl (by kernel_rfl) (by kernel_rfl) (by kernel_rfl) (fun _ _ _ h => h) (by rfl) hHeld ?_
      simp only [Act.put, List.setIfInBounds_toArray, List.set_cons_zero, List.set_cons_succ]
      refine take_run 28 (some 113) (v := ?_) rfl rfl (by kernel_rfl) (by kernel_rfl) (by kernel_rfl) (fun _ _ _ h => h) (by rfl) ?_ hHeld ?_
      rotate_left
      · ((intro w hSw); (try dsimp only at hSw); go_simp <;> with_reducible rfl)
      simp only [Act.put, List.setIfInBounds_toArray, List.set_cons_zero, List.set_cons_succ]
      refine take_run 29 (some 13) (v := ?_) rfl rfl (by kernel_rfl) (by kernel_rfl) (by kernel_rfl) (fun _ _ _ h => h) (by rfl) ?_ hHeld ?_
      rotate_left
      · ((intro w hSw); (try dsimp only at hSw); go_simp <;> with_reducible rfl)
      simp only [Act.put, List.setIfInBounds_toArray, List.set_cons_zero, List.set_cons_succ]
      refine wpAnyH_done (by kernel_rfl) ?_ _
      refine NoPanic.normal ?_
      exact KEY2.out _ _ _ _ _ _ _ _ _ _ _ _ _ _ _ _ _ _ _ _ _ _ _ _ _ _ _ _ _ _ _ _ _ _ _ _ _ _ _ _ _ _ _ _ _ _ _ _ _ _ _ _ _ _ _ _ _ _ _ _ _ _ _ _ _ _ _ _ _ _ _ _ _ _ _ _ _ _ _ _ _ _ _ _ _ _ _ _ _ _ _ _ _ _ _ _ _ _ _ _ _ _ _ _ _ _ _ _ _ _ _ _ _ _ _ _ _ _ _ _ _ _ _ _ _ _ _ _ _ _ _ _ _ _ _ _ _ _ _ _ _ _ _ false _ (fun h => by cases h) hHeld.2
    · have hn0 := neq_ne hvu
      have HVN := hide hvu
      clear hvu
      obtain ⟨qa, hqa⟩ := neq_some v.t v.u x.t x.u
      obtain ⟨qb, hqb⟩ := neq_some u.t u.u y.t y.u
      cases qa
      · skip
        refine wp_region_noPanic ?_
        refine wp_region_held_drew (S := (fun w' => (w'.cell? ⟨p5, 0, none⟩ = some (.slice (some ⟨b1, o1, none⟩) vs.length c1) ∧ (w'.cell? ⟨p6, 0, none⟩ = some (.int .i64 (kn : Int)) ∧ w'.cell? ⟨p6, 1, none⟩ = some (.int .i64 v.t) ∧ w'.cell? ⟨p6, 2, none⟩ = some (.int .i64 v.u) ∧ w'.cell? ⟨p6, 3, none⟩ = some (.slice v.a v.ts.length v.c) ∧ w'.cell? ⟨p6, 4, none⟩ = some (.string v.s) ∧ w'.cell? ⟨p6, 5, none⟩ = some (.bool v.g)) ∧ (w'.cell? ⟨p8, 0, none⟩ = some (.int .i64 (un : Int)) ∧ w'.cell? ⟨p8, 1, none⟩ = some (.int .i64 u.t) ∧ w'.cell? ⟨p8, 2, none⟩ = some (.int .i64 u.u) ∧ w'.cell? ⟨p8, 3, none⟩ = some (.slice u.a u.ts.length u.c) ∧ w'.cell? ⟨p8, 4, none⟩ = some (.string u.s) ∧ w'.cell? ⟨p8, 5, none⟩ = some (.bool u.g)) ∧ Six w' b1 (o1 + kn * 6) x ∧ Six w' b1 (o1 + un * 6) y) ∧ Below Wc.heap.size Wc w')) (by kernel_rfl) (by exact ⟨⟨((B5.on (LR)).drew).at 0, ((B6k.on (LR)).drew).six.1, ((B8k.on (LR)).drew).six.1, X1.out.keep bb1 (fun _ hp => (LR).drew.cell hp), Y1.out.keep bb1 (fun _ hp => (LR).drew.cell hp)⟩, (LR).drew⟩) (fun hHeld => ?_)
        refine take_run 0 (some 85) (v := ?_) rfl rfl (by kernel_rfl) (by kernel_rfl) (by kernel_rfl) (fun _ _ _ h => h) (by rfl) ?_ hHeld ?_
        rotate_left
        · ((intro w hSw); (try dsimp only at hSw); go_simp <;> with_reducible rfl)
        simp only [Act.put, List.setIfInBounds_toArray, List.set_cons_zero, List.set_cons_succ]
        refine take_run 1 (some 86) (v := ?_) rfl rfl (by kernel_rfl) (by kernel_rfl) (by kernel_rfl) (fun _ _ _ h => h) (by rfl) ?_ hHeld ?_
        rotate_left
        · ((intro w hSw); (try dsimp only at hSw); go_simp <;> with_reducible rfl)
        simp only [Act.put, List.setIfInBounds_toArray, List.set_cons_zero, List.set_cons_succ]
        refine take_run 2 (some 87) (v := ?_) rfl rfl (by kernel_rfl) (by kernel_rfl) (by kernel_rfl) (fun _ _ _ h => h) (by rfl) ?_ hHeld ?_
        rotate_left
        · ((intro w hSw); (try dsimp only at hSw); go_simp <;> with_reducible rfl)
        simp only [Act.put, List.setIfInBounds_toArray, List.set_cons_zero, List.set_cons_succ]
        refine take_run 3 (some 88) (v := ?_) rfl rfl (by kernel_rfl) (by kernel_rfl) (by kernel_rfl) (fun _ _ _ h => h) (by rfl) ?_ hHeld ?_
        rotate_left
        · ((intro w hSw); (try dsimp only at hSw); go_simp <;> with_reducible rfl)
        simp only [Act.put, List.setIfInBounds_toArray, List.set_cons_zero, List.set_cons_succ]
        refine take_run 4 (some 89) (v := ?_) rfl rfl (by kernel_rfl) (by kernel_rfl) (by kernel_rfl) (fun _ _ _ h => h) (by rfl) ?_ hHeld ?_
        rotate_left
        · ((intro w hSw); (try dsimp only at hSw); go_simp <;> with_reducible rfl)
        simp only [Act.put, List.setIfInBounds_toArray, List.set_cons_zero, List.set_cons_succ]
        refine take_run 5 (some 90) (v := ?_) rfl rfl (by kernel_rfl) (by kernel_rfl) (by kernel_rfl) (fun _ _ _ h => h) (by rfl) ?_ hHeld ?_
        rotate_left
        · ((intro w hSw); (try dsimp only at hSw); go_simp <;> with_reducible rfl)
        simp only [Act.put, List.setIfInBounds_toArray, List.set_cons_zero, List.set_cons_succ]
        refine take_run 6 (some 91) (v := ?_) rfl rfl (by kernel_rfl) (by kernel_rfl) (by kernel_rfl) (fun _ _ _ h => h) (by rfl) ?_ hHeld ?_
        rotate_left
        · ((intro w hSw); (try dsimp only at hSw); go_simp <;> with_reducible rfl)
        simp only [Act.put, List.setIfInBounds_toArray, List.set_cons_zero, List.set_cons_succ]
        refine take_run 7 (some 92) (v := ?_) rfl rfl (by kernel_rfl) (by kernel_rfl) (by kernel_rfl) (fun _ _ _ h => h) (by rfl) ?_ hHeld ?_
        rotate_left
        · ((intro w hSw); (try dsimp only at hSw); go_simp <;> with_reducible rfl)
        simp only [Act.put, List.setIfInBounds_toArray, List.set_cons_zero, List.set_cons_succ]
        refine take_run 8 (some 93) (v := ?_) rfl rfl (by kernel_rfl) (by kernel_rfl) (by kernel_rfl) (fun _ _ _ h => h) (by rfl) ?_ hHeld ?_
        rotate_left
        · ((intro w hSw); (try dsimp only at hSw); go_simp <;> with_reducible rfl)
        simp only [Act.put, List.setIfInBounds_toArray, List.set_cons_zero, List.set_cons_succ]
        refine take_run 9 (some 94) (v := ?_) rfl rfl (by kernel_rfl) (by kernel_rfl) (by kernel_rfl) (fun _ _ _ h => h) (by rfl) ?_ hHeld ?_
        rotate_left
        · ((intro w hSw); (try dsimp only at hSw); go_simp <;> with_reducible rfl)
        simp only [Act.put, List.setIfInBounds_toArray, List.set_cons_zero, List.set_cons_succ]
        refine take_run 10 (some 95) (v := ?_) rfl rfl (by kernel_rfl) (by kernel_rfl) (by kernel_rfl) (fun _ _ _ h => h) (by rfl) ?_ hHeld ?_
        rotate_left
        · ((intro w hSw); (try dsimp only at hSw); go_simp <;> with_reducible rfl)
        simp only [Act.put, List.setIfInBounds_toArray, List.set_cons_zero, List.set_cons_succ]
        refine take_run 11 (some 96) (v := ?_) rfl rfl (by kernel_rfl) (by kernel_rfl) (by kernel_rfl) (fun _ _ _ h => h) (by rfl) ?_ hHeld ?_
        rotate_left
        · ((intro w hSw); (try dsimp only at hSw); go_simp <;> with_reducible rfl)
        simp only [Act.put, List.setIfInBounds_toArray, List.set_cons_zero, List.set_cons_succ]
        refine take_run 12 (some 97) (v := ?_) rfl rfl (by kernel_rfl) (by kernel_rfl) (by kernel_rfl) (fun _ _ _ h => h) (by rfl) ?_ hHeld ?_
        rotate_left
        · ((intro w hSw); (try dsimp only at hSw); go_simp <;> with_reducible rfl)
        simp only [Act.put, List.setIfInBounds_toArray, List.set_cons_zero, List.set_cons_succ]
        refine take_run 13 (some 98) (v := ?_) rfl rfl (by kernel_rfl) (by kernel_rfl) (by kernel_rfl) (fun _ _ _ h => h) (by rfl) ?_ hHeld ?_
        rotate_left
        · ((intro w hSw); (try dsimp only at hSw); go_simp <;> with_reducible rfl)
        simp only [Act.put, List.setIfInBounds_toArray, List.set_cons_zero, List.set_cons_succ]
        refine take_run 14 (some 99) (v := ?_) rfl rfl (by kernel_rfl) (by kernel_rfl) (by kernel_rfl) (fun _ _ _ h => h) (by rfl) ?_ hHeld ?_
        rotate_left
        · ((intro w hSw); (try dsimp only at hSw); go_simp <;> with_reducible rfl)
        simp only [Act.put, List.setIfInBounds_toArray, List.set_cons_zero, List.set_cons_succ]
        refine take_run 15 (some 100) (v := ?_) rfl rfl (by kernel_rfl) (by kernel_rfl) (by kernel_rfl) (fun _ _ _ h => h) (by rfl) ?_ hHeld ?_
        rotate_left
        · ((intro w hSw); (try dsimp only at hSw); go_simp <;> with_reducible rfl)
        simp only [Act.put, List.setIfInBounds_toArray, List.set_cons_zero, List.set_cons_succ]
        refine take_run 16 (some 101) (v := ?_) rfl rfl (by kernel_rfl) (by kernel_rfl) (by kernel_rfl) (fun _ _ _ h => h) (by rfl) ?_ hHeld ?_
        rotate_left
        · ((intro w hSw); (try dsimp only at hSw); go_simp <;> with_reducible rfl)
        simp only [Act.put, List.setIfInBounds_toArray, List.set_cons_zero, List.set_cons_succ]
        refine take_run 17 (some 102) (v := ?_) rfl rfl (by kernel_rfl) (by kernel_rfl) (by kernel_rfl) (fun _ _ _ h => h) (by rfl) ?_ hHeld ?_
        rotate_left
        · ((intro w hSw); (try dsimp only at hSw); go_simp <;> with_reducible rfl)
        simp only [Act.put, List.setIfInBounds_toArray, List.set_cons_zero, List.set_cons_succ]
        refine take_skip 18 (some 103) rfl rfl (by kernel_rfl) (by kernel_rfl) (by kernel_rfl) (fun _ _ _ h => h) (by rfl) hHeld ?_
        simp only [Act.put, List.setIfInBounds_toArray, List.set_cons_zero, List.set_cons_succ]
        refine take_skip 19 (some 104) rfl rfl (by kernel_rfl) (by kernel_rfl) (by kernel_rfl) (fun _ _ _ h => h) (by rfl) hHeld ?_
        simp only [Act.put, List.setIfInBounds_toArray, List.set_cons_zero, List.set_cons_succ]
        refine take_skip 20 (some 105) rfl rfl (by kernel_rfl) (by kernel_rfl) (by kernel_rfl) (fun _ _ _ h => h) (by rfl) hHeld ?_
        simp only [Act.put, List.setIfInBounds_toArray, List.set_cons_zero, List.set_cons_succ]
        refine take_skip 21 (some 106) rfl rfl (by kernel_rfl) (by kernel_rfl) (by kernel_rfl) (fun _ _ _ h => h) (by rfl) hHeld ?_
        simp only [Act.put, List.setIfInBounds_toArray, List.set_cons_zero, List.set_cons_succ]
        refine take_skip 22 (some 107) rfl rfl (by kernel_rfl) (by kernel_rfl) (by kernel_rfl) (fun _ _ _ h => h) (by rfl) hHeld ?_
        simp only [Act.put, List.setIfInBounds_toArray, List.set_cons_zero, List.set_cons_succ]
        refine take_skip 23 (some 108) rfl rfl (by kernel_rfl) (by kernel_rfl) (by kernel_rfl) (fun _ _ _ h => h) (by rfl) hHeld ?_
        simp only [Act.put, List.setIfInBounds_toArray, List.set_cons_zero, List.set_cons_succ]
        refine take_skip 24 (some 109) rfl rfl (by kernel_rfl) (by kernel_rfl) (by kernel_rfl) (fun _ _ _ h => h) (by rfl) hHeld ?_
        simp only [Act.put, List.setIfInBounds_toArray, List.set_cons_zero, List.set_cons_succ]
        refine take_skip 25 (some 110) rfl rfl (by kernel_rfl) (by kernel_rfl) (by kernel_rfl) (fun _ _ _ h => h) (by rfl) hHeld ?_
        simp only [Act.put, List.setIfInBounds_toArray, List.set_cons_zero, List.set_cons_succ]
        refine take_skip 26 (some 111) rfl rfl (by kernel_rfl) (by kernel_rfl) (by kernel_rfl) (fun _ _ _ h => h) (by rfl) hHeld ?_
        simp only [Act.put, List.setIfInBounds_toArray, List.set_cons_zero, List.set_cons_succ]
        refine take_skip 27 (some 112) rfl rfl (by kernel_rfl) (by kernel_rfl) (by kernel_rfl) (fun _ _ _ h => h) (by rfl) hHeld ?_
        simp only [Act.put, List.setIfInBounds_toArray, List.set_cons_zero, List.set_cons_succ]
        refine take_run 28 (some 113) (v := ?_) rfl rfl (by kernel_rfl) (by kernel_rfl) (by kernel_rfl) (fun _ _ _ h => h) (by rfl) ?_ hHeld ?_
        rotate_left
        · ((intro w hSw); (try dsimp only at hSw); go_simp <;> with_reducible rfl)
        simp only [Act.put, List.setIfInBounds_toArray, List.set_cons_zero, List.set_cons_succ]
        refine take_run 29 (some 13) (v := ?_) rfl rfl (by kernel_rfl) (by kernel_rfl) (by kernel_rfl) (fun _ _ _ h => h) (by rfl) ?_ hHeld ?_
        rotate_left
        · ((intro w hSw); (try dsimp only at hSw); go_simp <;> with_reducible rfl)
        simp only [Act.put, List.setIfInBounds_toArray, List.set_cons_zero, List.set_cons_succ]
        refine wpAnyH_done (by kernel_rfl) ?_ _
        refine NoPanic.normal ?_
        exact KEY2.out _ _ _ _ _ _ _ _ _ _ _ _ _ _ _ _ _ _ _ _ _ _ _ _ _ _ _ _ _ _ _ _ _ _ _ _ _ _ _ _ _ _ _ _ _ _ _ _ _ _ _ _ _ _ _ _ _ _ _ _ _ _ _ _ _ _ _ _ _ _ _ _ _ _ _ _ _ _ _ _ _ _ _ _ _ _ _ _ _ _ _ _ _ _ _ _ _ _ _ _ _ _ _ _ _ _ _ _ _ _ _ _ _ _ _ _ _ _ _ _ _ _ _ _ _ _ _ _ _ _ _ _ _ _ _ _ _ _ _ _ _ _ _ false _ (fun h => by cases h) hHeld.2
      · skip
        refine wp_region_noPanic ?_
        refine wp_region_held_drew (S := (fun w' => (w'.cell? ⟨p5, 0, none⟩ = some (.slice (some ⟨b1, o1, none⟩) vs.length c1) ∧ (w'.cell? ⟨p6, 0, none⟩ = some (.int .i64 (kn : Int)) ∧ w'.cell? ⟨p6, 1, none⟩ = some (.int .i64 v.t) ∧ w'.cell? ⟨p6, 2, none⟩ = some (.int .i64 v.u) ∧ w'.cell? ⟨p6, 3, none⟩ = some (.slice v.a v.ts.length v.c) ∧ w'.cell? ⟨p6, 4, none⟩ = some (.string v.s) ∧ w'.cell? ⟨p6, 5, none⟩ = some (.bool v.g)) ∧ (w'.cell? ⟨p8, 0, none⟩ = some (.int .i64 (un : Int)) ∧ w'.cell? ⟨p8, 1, none⟩ = some (.int .i64 u.t) ∧ w'.cell? ⟨p8, 2, none⟩ = some (.int .i64 u.u) ∧ w'.cell? ⟨p8, 3, none⟩ = some (.slice u.a u.ts.length u.c) ∧ w'.cell? ⟨p8, 4, none⟩ = some (.string u.s) ∧ w'.cell? ⟨p8, 5, none⟩ = some (.bool u.g)) ∧ Six w' b1 (o1 + kn * 6) x ∧ Six w' b1 (o1 + un * 6) y) ∧ Below Wc.heap.size Wc w')) (by kernel_rfl) (by exact ⟨⟨((B5.on (LR)).drew).at 0, ((B6k.on (LR)).drew).six.1, ((B8k.on (LR)).drew).six.1, X1.out.keep bb1 (fun _ hp => (LR).drew.cell hp), Y1.out.keep bb1 (fun _ hp => (LR).drew.cell hp)⟩, (LR).drew⟩) (fun hHeld => ?_)
        refine take_run 0 (some 85) (v := ?_) rfl rfl (by kernel_rfl) (by kernel_rfl) (by kernel_rfl) (fun _ _ _ h => h) (by rfl) ?_ hHeld ?_
        rotate_left
        · ((intro w hSw); (try dsimp only at hSw); go_simp <;> with_reducible rfl)
        simp only [Act.put, List.setIfInBounds_toArray, List.set_cons_zero, List.set_cons_succ]
        refine take_run 1 (some 86) (v := ?_) rfl rfl (by kernel_rfl) (by kernel_rfl) (by kernel_rfl) (fun _ _ _ h => h) (by rfl) ?_ hHeld ?_
        rotate_left
        · ((intro w hSw); (try dsimp only at hSw); go_simp <;> with_reducible rfl)
        simp only [Act.put, List.setIfInBounds_toArray, List.set_cons_zero, List.set_cons_succ]
        refine take_run 2 (some 87) (v := ?_) rfl rfl (by kernel_rfl) (by kernel_rfl) (by kernel_rfl) (fun _ _ _ h => h) (by rfl) ?_ hHeld ?_
        rotate_left
        · ((intro w hSw); (try dsimp only at hSw); go_simp <;> with_reducible rfl)
        simp only [Act.put, List.setIfInBounds_toArray, List.set_cons_zero, List.set_cons_succ]
        refine take_run 3 (some 88) (v := ?_) rfl rfl (by kernel_rfl) (by kernel_rfl) (by kernel_rfl) (fun _ _ _ h => h) (by rfl) ?_ hHeld ?_
        rotate_left
        · ((intro w hSw); (try dsimp only at hSw); go_simp <;> with_reducible rfl)
        simp only [Act.put, List.setIfInBounds_toArray, List.set_cons_zero, List.set_cons_succ]
        refine take_run 4 (some 89) (v := ?_) rfl rfl (by kernel_rfl) (by kernel_rfl) (by kernel_rfl) (fun _ _ _ h => h) (by rfl) ?_ hHeld ?_
        rotate_left
        · ((intro w hSw); (try dsimp only at hSw); go_simp <;> with_reducible rfl)
        simp only [Act.put, List.setIfInBounds_toArray, List.set_cons_zero, List.set_cons_succ]
        refine take_run 5 (some 90) (v := ?_) rfl rfl (by kernel_rfl) (by kernel_rfl) (by kernel_rfl) (fun _ _ _ h => h) (by rfl) ?_ hHeld ?_
        rotate_left
        · ((intro w hSw); (try dsimp only at hSw); go_simp <;> with_reducible rfl)
        simp only [Act.put, List.setIfInBounds_toArray, List.set_cons_zero, List.set_cons_succ]
        refine take_run 6 (some 91) (v := ?_) rfl rfl (by kernel_rfl) (by kernel_rfl) (by kernel_rfl) (fun _ _ _ h => h) (by rfl) ?_ hHeld ?_
        rotate_left
        · ((intro w hSw); (try dsimp only at hSw); go_simp <;> with_reducible rfl)
        simp only [Act.put, List.setIfInBounds_toArray, List.set_cons_zero, List.set_cons_succ]
        refine take_run 7 (some 92) (v := ?_) rfl rfl (by kernel_rfl) (by kernel_rfl) (by kernel_rfl) (fun _ _ _ h => h) (by rfl) ?_ hHeld ?_
        rotate_left
        · ((intro w hSw); (try dsimp only at hSw); go_simp <;> with_reducible rfl)
        simp only [Act.put, List.setIfInBounds_toArray, List.set_cons_zero, List.set_cons_succ]
        refine take_run 8 (some 93) (v := ?_) rfl rfl (by kernel_rfl) (by kernel_rfl) (by kernel_rfl) (fun _ _ _ h => h) (by rfl) ?_ hHeld ?_
        rotate_left
        · ((intro w hSw); (try dsimp only at hSw); go_simp <;> with_reducible rfl)
        simp only [Act.put, List.setIfInBounds_toArray, List.set_cons_zero, List.set_cons_succ]
        refine take_run 9 (some 94) (v := ?_) rfl rfl (by kernel_rfl) (by kernel_rfl) (by kernel_rfl) (fun _ _ _ h => h) (by rfl) ?_ hHeld ?_
        rotate_left
        · ((intro w hSw); (try dsimp only at hSw); go_simp <;> with_reducible rfl)
        simp only [Act.put, List.setIfInBounds_toArray, List.set_cons_zero, List.set_cons_succ]
        refine take_run 10 (some 95) (v := ?_) rfl rfl (by kernel_rfl) (by kernel_rfl) (by kernel_rfl) (fun _ _ _ h => h) (by rfl) ?_ hHeld ?_
        rotate_left
        · ((intro w hSw); (try dsimp only at hSw); go_simp <;> with_reducible rfl)
        simp only [Act.put, List.setIfInBounds_toArray, List.set_cons_zero, List.set_cons_succ]
        refine take_run 11 (some 96) (v := ?_) rfl rfl (by kernel_rfl) (by kernel_rfl) (by kernel_rfl) (fun _ _ _ h => h) (by rfl) ?_ hHeld ?_
        rotate_left
        · ((intro w hSw); (try dsimp only at hSw); go_simp <;> with_reducible rfl)
        simp only [Act.put, List.setIfInBounds_toArray, List.set_cons_zero, List.set_cons_succ]
        refine take_run 12 (some 97) (v := ?_) rfl rfl (by kernel_rfl) (by kernel_rfl) (by kernel_rfl) (fun _ _ _ h => h) (by rfl) ?_ hHeld ?_
        rotate_left
        · ((intro w hSw); (try dsimp only at hSw); go_simp <;> with_reducible rfl)
        simp only [Act.put, List.setIfInBounds_toArray, List.set_cons_zero, List.set_cons_succ]
        refine take_run 13 (some 98) (v := ?_) rfl rfl (by kernel_rfl) (by kernel_rfl) (by kernel_rfl) (fun _ _ _ h => h) (by rfl) ?_ hHeld ?_
        rotate_left
        · ((intro w hSw); (try dsimp only at hSw); go_simp <;> with_reducible rfl)
        simp only [Act.put, List.setIfInBounds_toArray, List.set_cons_zero, List.set_cons_succ]
        refine take_run 14 (some 99) (v := ?_) rfl rfl (by kernel_rfl) (by kernel_rfl) (by kernel_rfl) (fun _ _ _ h => h) (by rfl) ?_ hHeld ?_
        rotate_left
        · ((intro w hSw); (try dsimp only at hSw); go_simp <;> with_reducible rfl)
        simp only [Act.put, List.setIfInBounds_toArray, List.set_cons_zero, List.set_cons_succ]
        refine take_run 15 (some 100) (v := ?_) rfl rfl (by kernel_rfl) (by kernel_rfl) (by kernel_rfl) (fun _ _ _ h => h) (by rfl) ?_ hHeld ?_
        rotate_left
        · ((intro w hSw); (try dsimp only at hSw); go_simp <;> with_reducible rfl)
        simp only [Act.put, List.setIfInBounds_toArray, List.set_cons_zero, List.set_cons_succ]
        refine take_run 16 (some 101) (v := ?_) rfl rfl (by kernel_rfl) (by kernel_rfl) (by kernel_rfl) (fun _ _ _ h => h) (by rfl) ?_ hHeld ?_
        rotate_left
        · ((intro w hSw); (try dsimp only at hSw); go_simp <;> with_reducible rfl)
        simp only [Act.put, List.setIfInBounds_toArray, List.set_cons_zero, List.set_cons_succ]
        refine take_run 17 (some 102) (v := ?_) rfl rfl (by kernel_rfl) (by kernel_rfl) (by kernel_rfl) (fun _ _ _ h => h) (by rfl) ?_ hHeld ?_
        rotate_left
        · ((intro w hSw); (try dsimp only at hSw); go_simp <;> with_reducible rfl)
        simp only [Act.put, List.setIfInBounds_toArray, List.set_cons_zero, List.set_cons_succ]
        refine take_run 18 (some 103) (v := ?_) rfl rfl (by kernel_rfl) (by kernel_rfl) (by kernel_rfl) (fun _ _ _ h => h) (by rfl) ?_ hHeld ?_
        rotate_left
        · ((intro w hSw); (try dsimp only at hSw); go_simp <;> with_reducible rfl)
        simp only [Act.put, List.setIfInBounds_toArray, List.set_cons_zero, List.set_cons_succ]
        refine take_run 19 (some 104) (v := ?_) rfl rfl (by kernel_rfl) (by kernel_rfl) (by kernel_rfl) (fun _ _ _ h => h) (by rfl) ?_ hHeld ?_
        rotate_left
        · ((intro w hSw); (try dsimp only at hSw); go_simp <;> with_reducible rfl)
        simp only [Act.put, List.setIfInBounds_toArray, List.set_cons_zero, List.set_cons_succ]
        refine take_run 20 (some 105) (v := ?_) rfl rfl (by kernel_rfl) (by kernel_rfl) (by kernel_rfl) (fun _ _ _ h => h) (by rfl) ?_ hHeld ?_
        rotate_left
        · ((intro w hSw); (try dsimp only at hSw); go_simp <;> with_reducible rfl)
        simp only [Act.put, List.setIfInBounds_toArray, List.set_cons_zero, List.set_cons_succ]
        refine take_run 21 (some 106) (v := ?_) rfl rfl (by kernel_rfl) (by kernel_rfl) (by kernel_rfl) (fun _ _ _ h => h) (by rfl) ?_ hHeld ?_
        rotate_left
        · ((intro w hSw); (try dsimp only at hSw); go_simp <;> with_reducible rfl)
        simp only [Act.put, List.setIfInBounds_toArray, List.set_cons_zero, List.set_cons_succ]
        refine take_run 22 (some 107) (v := ?_) rfl rfl (by kernel_rfl) (by kernel_rfl) (by kernel_rfl) (fun _ _ _ h => h) (by rfl) ?_ hHeld ?_
        rotate_left
        · ((intro w hSw); (try dsimp only at hSw); go_simp <;> with_reducible rfl)
        simp only [Act.put, List.setIfInBounds_toArray, List.set_cons_zero, List.set_cons_succ]
        refine take_run 23 (some 108) (v := ?_) rfl rfl (by kernel_rfl) (by kernel_rfl) (by kernel_rfl) (fun _ _ _ h => h) (by rfl) ?_ hHeld ?_
        rotate_left
        · ((intro w hSw); (try dsimp only at hSw); go_simp <;> with_reducible rfl)
        simp only [Act.put, List.setIfInBounds_toArray, List.set_cons_zero, List.set_cons_succ]
        refine take_run 24 (some 109) (v := ?_) rfl rfl (by kernel_rfl) (by kernel_rfl) (by kernel_rfl) (fun _ _ _ h => h) (by rfl) ?_ hHeld ?_
        rotate_left
        · ((intro w hSw); (try dsimp only at hSw); go_simp <;> with_reducible rfl)
        simp only [Act.put, List.setIfInBounds_toArray, List.set_cons_zero, List.set_cons_succ]
        refine take_run 25 (some 110) (v := ?_) rfl rfl (by kernel_rfl) (by kernel_rfl) (by kernel_rfl) (fun _ _ _ h => h) (by rfl) ?_ hHeld ?_
        rotate_left
        · ((intro w hSw); (try dsimp only at hSw); go_simp <;> with_reducible rfl)
        simp only [Act.put, List.setIfInBounds_toArray, List.set_cons_zero, List.set_cons_succ]
        refine take_run 26 (some 111) (v := ?_) rfl rfl (by kernel_rfl) (by kernel_rfl) (by kernel_rfl) (fun _ _ _ h => h) (by rfl) ?_ hHeld ?_
        rotate_left
        · ((intro w hSw); (try dsimp only at hSw); go_simp <;> with_reducible rfl)
        simp only [Act.put, List.setIfInBounds_toArray, List.set_cons_zero, List.set_cons_succ]
        refine take_run 27 (some 112) (v := ?_) rfl rfl (by kernel_rfl) (by kernel_rfl) (by kernel_rfl) (fun _ _ _ h => h) (by rfl) ?_ hHeld ?_
        rotate_left
        · ((intro w hSw); (try dsimp only at hSw); go_simp <;> with_reducible rfl)
        simp only [Act.put, List.setIfInBounds_toArray, List.set_cons_zero, List.set_cons_succ]
        refine take_run 28 (some 113) (v := ?_) rfl rfl (by kernel_rfl) (by kernel_rfl) (by kernel_rfl) (fun _ _ _ h => h) (by rfl) ?_ hHeld ?_
        rotate_left
        · ((intro w hSw); (try dsimp only at hSw); go_simp <;> with_reducible rfl)
        simp only [Act.put, List.setIfInBounds_toArray, List.set_cons_zero, List.set_cons_succ]
        refine take_run 29 (some 13) (v := ?_) rfl rfl (by kernel_rfl) (by kernel_rfl) (by kernel_rfl) (fun _ _ _ h => h) (by rfl) ?_ hHeld ?_
        rotate_left
        · ((intro w hSw); (try dsimp only at hSw); go_simp <;> with_reducible rfl)
        simp only [Act.put, List.setIfInBounds_toArray, List.set_cons_zero, List.set_cons_succ]
        refine wpAnyH_done (by kernel_rfl) ?_ _
        refine NoPanic.normal ?_
        exact KEY2.out _ _ _ _ _ _ _ _ _ _ _ _ _ _ _ _ _ _ _ _ _ _ _ _ _ _ _ _ _ _ _ _ _ _ _ _ _ _ _ _ _ _ _ _ _ _ _ _ _ _ _ _ _ _ _ _ _ _ _ _ _ _ _ _ _ _ _ _ _ _ _ _ _ _ _ _ _ _ _ _ _ _ _ _ _ _ _ _ _ _ _ _ _ _ _ _ _ _ _ _ _ _ _ _ _ _ _ _ _ _ _ _ _ _ _ _ _ _ _ _ _ _ _ _ _ _ _ _ _ _ _ _ _ _ _ _ _ _ _ _ _ _ _ qb _ (fun _ => HVN.out) hHeld.2
  have KEY := hide key
  clear key
  refine wp_region_noPanic ?_
  refine wp_region_held_drew (S := (fun w' => (w'.cell? ⟨p5, 0, none⟩ = some (.slice a1 vs.length c1) ∧ (w'.cell? ⟨p6, 0, none⟩ = some (.int .i64 v.k) ∧ w'.cell? ⟨p6, 1, none⟩ = some (.int .i64 v.t) ∧ w'.cell? ⟨p6, 2, none⟩ = some (.int .i64 v.u) ∧ w'.cell? ⟨p6, 3, none⟩ = some (.slice v.a v.ts.length v.c) ∧ w'.cell? ⟨p6, 4, none⟩ = some (.string v.s) ∧ w'.cell? ⟨p6, 5, none⟩ = some (.bool v.g)) ∧ (w'.cell? ⟨p8, 0, none⟩ = some (.int .i64 u.k) ∧ w'.cell? ⟨p8, 1, none⟩ = some (.int .i64 u.t) ∧ w'.cell? ⟨p8, 2, none⟩ = some (.int .i64 u.u) ∧ w'.cell? ⟨p8, 3, none⟩ = some (.slice u.a u.ts.length u.c) ∧ w'.cell? ⟨p8, 4, none⟩ = some (.string u.s) ∧ w'.cell? ⟨p8, 5, none⟩ = some (.bool u.g)) ∧ w'.cell? ⟨p9, 0, none⟩ = some (.slice A9 (addR vs v).length cap9)) ∧ Below Wb.heap.size Wb w')) (by kernel_rfl) (by exact ⟨⟨((B5.on (LR)).drew).at 0, ((B6.on (LR)).drew).six.1, ((B8.on (LR)).drew).six.1, ((B9.on (LR)).drew).at 0⟩, (LR).drew⟩) (fun hHeld => ?_)
  refine take_run 0 (some 80) (v := ?_) rfl rfl (by kernel_rfl) (by kernel_rfl) (by kernel_rfl) (fun _ _ _ h => h) (by rfl) ?_ hHeld ?_
  rotate_left
  · ((intro w hSw); (try dsimp only at hSw); go_simp <;> with_reducible rfl)
  simp only [Act.put, List.setIfInBounds_toArray, List.set_cons_zero, List.set_cons_succ]
  refine take_run 1 (some 81) (v := ?_) rfl rfl (by kernel_rfl) (by kernel_rfl) (by kernel_rfl) (fun _ _ _ h => h) (by rfl) ?_ hHeld ?_
  rotate_left
  · ((intro w hSw); (try dsimp only at hSw); go_simp <;> with_reducible rfl)
  simp only [Act.put, List.setIfInBounds_toArray, List.set_cons_zero, List.set_cons_succ]
  refine take_run 3 (some 83) (v := ?_) rfl rfl (by kernel_rfl) (by kernel_rfl) (by kernel_rfl) (fun _ _ _ h => h) (by rfl) ?_ hHeld ?_
  rotate_left
  · ((intro w hSw); (try dsimp only at hSw); go_simp <;> with_reducible rfl)
  simp only [Act.put, List.setIfInBounds_toArray, List.set_cons_zero, List.set_cons_succ]
  refine wpAnyH_ready (rs := [2, 5]) (by kernel_rfl) (by simp) ?_
  refine AllReadyH.cons rfl (fun K hK => ?_) (AllReadyH.cons rfl (fun K hK => ?_) AllReadyH.nil)
  · skip
    go_simp
    (refine (implStoreAdd_any a1 c1 vs u _ hn1 SM1.out ((V1.on hHeld.2).up hHeld.2.size) hu4' hus' ((T8.on hHeld.2).up hHeld.2.size)).mono ?_; intro e wx2 ha; obtain ⟨Ax, capx, vsx, rfl, hlx, hix, hRx, hb⟩ := answerS_form ha; clear ha; have z2 := (hHeld.2.trans (hb.mono hHeld.2.size)).size; have z2' := hb.size; (try simp at z2'); have HVX0 := hide hRx; (try have BA2 := hide (BA.out.on hb)); have HLX := hide hlx; have HIX := hide hix; have FX := hide (small_few (fewV_like hlx hix FU.out)); have lxl : (addR vs u).length ≤ 1048576 := (by have := add_len u hl1; omega); clear hlx hix)
    try go_wp2_with fail
    refine hK.out _ _ (by exact ⟨⟨(B5.on (hHeld.2.trans (hb.mono hHeld.2.size))).at 0, (B6.on (hHeld.2.trans (hb.mono hHeld.2.size))).six.1, (B8.on (hHeld.2.trans (hb.mono hHeld.2.size))).six.1, (B9.on (hHeld.2.trans (hb.mono hHeld.2.size))).at 0⟩, hHeld.2.trans (hb.mono hHeld.2.size)⟩) (fun hHeld => ?_)
    clear hK K
    refine wpAnyH_ready (rs := [4, 5]) (by kernel_rfl) (by simp) ?_
    refine AllReadyH.cons rfl (fun K hK => ?_) (AllReadyH.cons rfl (fun K hK => ?_) AllReadyH.nil)
    · skip
      go_simp
      ((first | have CT := implStoreAdd_any Ax capx vsx v _ (by rw [HLX.out]; exact lxl) FX.out (HVX0.out.alloc (.cells #[.slice none 0 0] 25)).vg hv4' hvs' ((T6.on hHeld.2).up hHeld.2.size) | have CT := implStoreAdd_any Ax capx vsx v _ (by rw [HLX.out]; exact lxl) FX.out HVX0.out.vg hv4' hvs' ((T6.on hHeld.2).up hHeld.2.size)); rw [HLX.out] at CT; (with_reducible refine CT.mono ?_); clear CT; intro e wx4 ha; obtain ⟨A12, cap12, vs12, rfl, hl12, hi12, hR12, hb⟩ := answerS_form ha; clear ha; have LH4 := hide (hHeld.2.trans (hb.mono hHeld.2.size)); (first | have BA4 := hide (BA2.out.on hb) | have BA4 := hide (BA.out.on hb) | skip); (try have k12 := BA4.out.one); have q12 := add_two HP.out HVV.out HVU.out HLX.out HIX.out hl12 hi12; rw [q12.1]; have HQ12 := hide q12; clear q12 hl12 hi12)
      try go_wp2_with fail
      refine hK.out _ _ (by exact ⟨⟨(B5.on (hHeld.2.trans (hb.mono hHeld.2.size))).at 0, (B6.on (hHeld.2.trans (hb.mono hHeld.2.size))).six.1, (B8.on (hHeld.2.trans (hb.mono hHeld.2.size))).six.1, (B9.on (hHeld.2.trans (hb.mono hHeld.2.size))).at 0⟩, hHeld.2.trans (hb.mono hHeld.2.size)⟩) (fun hHeld => ?_)
      clear hK K
      refine take_one 5 (by kernel_rfl) rfl (fun K hK => ?_)
      go_simp
      (first | (have BA := hide (Blk.made wx4 25 #[.slice none 0 0])) | (have BA := hide (Blk.made wx2 25 #[.slice none 0 0])) | (have BA := hide (Blk.made Wb 25 #[.slice none 0 0]).drew))
      try go_wp2_with fail
      refine hK.out _ _ (by exact ⟨⟨(B5.on (hHeld.2.trans ((below_alloc1 _ _).mono hHeld.2.size))).at 0, (B6.on (hHeld.2.trans ((below_alloc1 _ _).mono hHeld.2.size))).six.1, (B8.on (hHeld.2.trans ((below_alloc1 _ _).mono hHeld.2.size))).six.1, (B9.on (hHeld.2.trans ((below_alloc1 _ _).mono hHeld.2.size))).at 0⟩, hHeld.2.trans ((below_alloc1 _ _).mono hHeld.2.size)⟩) (fun hHeld => ?_)
      clear hK K
      refine take_one 6 (by kernel_rfl) rfl (fun K hK => ?_)
      go_simp
      refine hK.out _ _ (by first | exact ⟨⟨(B5.on (LH4.out.trans ((below_alloc1 _ _).mono LH4.out.size))).at 0, (B6.on (LH4.out.trans ((below_alloc1 _ _).mono LH4.out.size))).six.1, (B8.on (LH4.out.trans ((below_alloc1 _ _).mono LH4.out.size))).six.1, (B9.on (LH4.out.trans ((below_alloc1 _ _).mono LH4.out.size))).at 0⟩, LH4.out.trans ((below_alloc1 _ _).mono LH4.out.size)⟩ | exact ⟨⟨(B5.on (LH4.out.setCell (by first | (simp only; omega) | simp) _)).at 0, (B6.on (LH4.out.setCell (by first | (simp only; omega) | simp) _)).six.1, (B8.on (LH4.out.setCell (by first | (simp only; omega) | simp) _)).six.1, (B9.on (LH4.out.setCell (by first | (simp only; omega) | simp) _)).at 0⟩, LH4.out.setCell (by first | (simp only; omega) | simp) _⟩) (fun hHeld => ?_)
      clear hK K
      refine wpAnyH_done (by kernel_rfl) ?_ _
      refine NoPanic.normal ?_
      first | exact KEY.out _ _ _ _ _ _ _ _ _ _ _ _ _ _ _ _ _ _ _ _ _ _ _ _ _ _ _ _ _ _ _ _ _ _ _ _ _ _ _ _ _ _ _ _ _ _ _ _ _ _ _ _ _ _ _ _ _ _ _ _ _ _ _ _ _ _ _ _ _ _ _ _ _ _ _ _ _ _ _ _ _ _ _ _ _ _ _ _ _ _ _ _ _ _ _ _ _ _ _ _ _ _ _ _ _ _ _ _ _ _ _ _ _ _ _ _ _ _ _ _ _ _ _ _ _ _ _ _ _ _ _ _ _ _ _ _ _ _ _ _ _ _ _ _ wx4.heap.size cap12 A12 vs12 _ (Blk.made _ _ _) HQ12.out.2.1 HQ12.out.2.2 (hR12.alloc _).vg hHeld.2 | exact KEY.out _ _ _ _ _ _ _ _ _ _ _ _ _ _ _ _ _ _ _ _ _ _ _ _ _ _ _ _ _ _ _ _ _ _ _ _ _ _ _ _ _ _ _ _ _ _ _ _ _ _ _ _ _ _ _ _ _ _ _ _ _ _ _ _ _ _ _ _ _ _ _ _ _ _ _ _ _ _ _ _ _ _ _ _ _ _ _ _ _ _ _ _ _ _ _ _ _ _ _ _ _ _ _ _ _ _ _ _ _ _ _ _ _ _ _ _ _ _ _ _ _ _ _ _ _ _ _ _ _ _ _ _ _ _ _ _ _ _ _ _ _ _ _ _ wx2.heap.size cap12 A12 vs12 _ (BA4.out.put 0 _) HQ12.out.2.1 HQ12.out.2.2 (hR12.set (p := ⟨wx2.heap.size, 0, none⟩) (.inl (by simp)) _).vg hHeld.2 | exact KEY.out _ _ _ _ _ _ _ _ _ _ _ _ _ _ _ _ _ _ _ _ _ _ _ _ _ _ _ _ _ _ _ _ _ _ _ _ _ _ _ _ _ _ _ _ _ _ _ _ _ _ _ _ _ _ _ _ _ _ _ _ _ _ _ _ _ _ _ _ _ _ _ _ _ _ _ _ _ _ _ _ _ _ _ _ _ _ _ _ _ _ _ _ _ _ _ _ _ _ _ _ _ _ _ _ _ _ _ _ _ _ _ _ _ _ _ _ _ _ _ _ _ _ _ _ _ _ _ _ _ _ _ _ _ _ _ _ _ _ _ _ _ _ _ _ Wb.heap.size cap12 A12 vs12 _ (BA4.out.put 0 _) HQ12.out.2.1 HQ12.out.2.2 (hR12.set (p := ⟨Wb.heap.size, 0, none⟩) (.inl (by simp only; omega)) _).vg hHeld.2
    · skip
      go_simp
      (first | (have BA := hide (Blk.made wx4 25 #[.slice none 0 0])) | (have BA := hide (Blk.made wx2 25 #[.slice none 0 0])) | (have BA := hide (Blk.made Wb 25 #[.slice none 0 0]).drew))
      try go_wp2_with fail
      refine hK.out _ _ (by exact ⟨⟨(B5.on (hHeld.2.trans ((below_alloc1 _ _).mono hHeld.2.size))).at 0, (B6.on (hHeld.2.trans ((below_alloc1 _ _).mono hHeld.2.size))).six.1, (B8.on (hHeld.2.trans ((below_alloc1 _ _).mono hHeld.2.size))).six.1, (B9.on (hHeld.2.trans ((below_alloc1 _ _).mono hHeld.2.size))).at 0⟩, hHeld.2.trans ((below_alloc1 _ _).mono hHeld.2.size)⟩) (fun hHeld => ?_)
      clear hK K
      refine take_one 4 (by kernel_rfl) rfl (fun K hK => ?_)
      go_simp
      ((first | have CT := implStoreAdd_any Ax capx vsx v _ (by rw [HLX.out]; exact lxl) FX.out (HVX0.out.alloc (.cells #[.slice none 0 0] 25)).vg hv4' hvs' ((T6.on hHeld.2).up hHeld.2.size) | have CT := implStoreAdd_any Ax capx vsx v _ (by rw [HLX.out]; exact lxl) FX.out HVX0.out.vg hv4' hvs' ((T6.on hHeld.2).up hHeld.2.size)); rw [HLX.out] at CT; (with_reducible refine CT.mono ?_); clear CT; intro e wx4 ha; obtain ⟨A12, cap12, vs12, rfl, hl12, hi12, hR12, hb⟩ := answerS_form ha; clear ha; have LH4 := hide (hHeld.2.trans (hb.mono hHeld.2.size)); (first | have BA4 := hide (BA2.out.on hb) | have BA4 := hide (BA.out.on hb) | skip); (try have k12 := BA4.out.one); have q12 := add_two HP.out HVV.out HVU.out HLX.out HIX.out hl12 hi12; rw [q12.1]; have HQ12 := hide q12; clear q12 hl12 hi12)
      try go_wp2_with fail
      refine hK.out _ _ (by exact ⟨⟨(B5.on (hHeld.2.trans (hb.mono hHeld.2.size))).at 0, (B6.on (hHeld.2.trans (hb.mono hHeld.2.size))).six.1, (B8.on (hHeld.2.trans (hb.mono hHeld.2.size))).six.1, (B9.on (hHeld.2.trans (hb.mono hHeld.2.size))).at 0⟩, hHeld.2.trans (hb.mono hHeld.2.size)⟩) (fun hHeld => ?_)
      clear hK K
      refine take_one 6 (by kernel_rfl) rfl (fun K hK => ?_)
      go_simp
      refine hK.out _ _ (by first | exact ⟨⟨(B5.on (LH4.out.trans ((below_alloc1 _ _).mono LH4.out.size))).at 0, (B6.on (LH4.out.trans ((below_alloc1 _ _).mono LH4.out.size))).six.1, (B8.on (LH4.out.trans ((below_alloc1 _ _).mono LH4.out.size))).six.1, (B9.on (LH4.out.trans ((below_alloc1 _ _).mono LH4.out.size))).at 0⟩, LH4.out.trans ((below_alloc1 _ _).mono LH4.out.size)⟩ | exact ⟨⟨(B5.on (LH4.out.setCell (by first | (simp only; omega) | simp) _)).at 0, (B6.on (LH4.out.setCell (by first | (simp only; omega) | simp) _)).six.1, (B8.on (LH4.out.setCell (by first | (simp only; omega) | simp) _)).six.1, (B9.on (LH4.out.setCell (by first | (simp only; omega) | simp) _)).at 0⟩, LH4.out.setCell (by first | (simp only; omega) | simp) _⟩) (fun hHeld => ?_)
      clear hK K
      refine wpAnyH_done (by kernel_rfl) ?_ _
      refine NoPanic.normal ?_
      first | exact KEY.out _ _ _ _ _ _ _ _ _ _ _ _ _ _ _ _ _ _ _ _ _ _ _ _ _ _ _ _ _ _ _ _ _ _ _ _ _ _ _ _ _ _ _ _ _ _ _ _ _ _ _ _ _ _ _ _ _ _ _ _ _ _ _ _ _ _ _ _ _ _ _ _ _ _ _ _ _ _ _ _ _ _ _ _ _ _ _ _ _ _ _ _ _ _ _ _ _ _ _ _ _ _ _ _ _ _ _ _ _ _ _ _ _ _ _ _ _ _ _ _ _ _ _ _ _ _ _ _ _ _ _ _ _ _ _ _ _ _ _ _ _ _ _ _ wx4.heap.size cap12 A12 vs12 _ (Blk.made _ _ _) HQ12.out.2.1 HQ12.out.2.2 (hR12.alloc _).vg hHeld.2 | exact KEY.out _ _ _ _ _ _ _ _ _ _ _ _ _ _ _ _ _ _ _ _ _ _ _ _ _ _ _ _ _ _ _ _ _ _ _ _ _ _ _ _ _ _ _ _ _ _ _ _ _ _ _ _ _ _ _ _ _ _ _ _ _ _ _ _ _ _ _ _ _ _ _ _ _ _ _ _ _ _ _ _ _ _ _ _ _ _ _ _ _ _ _ _ _ _ _ _ _ _ _ _ _ _ _ _ _ _ _ _ _ _ _ _ _ _ _ _ _ _ _ _ _ _ _ _ _ _ _ _ _ _ _ _ _ _ _ _ _ _ _ _ _ _ _ _ wx2.heap.size cap12 A12 vs12 _ (BA4.out.put 0 _) HQ12.out.2.1 HQ12.out.2.2 (hR12.set (p := ⟨wx2.heap.size, 0, none⟩) (.inl (by simp)) _).vg hHeld.2 | exact KEY.out _ _ _ _ _ _ _ _ _ _ _ _ _ _ _ _ _ _ _ _ _ _ _ _ _ _ _ _ _ _ _ _ _ _ _ _ _ _ _ _ _ _ _ _ _ _ _ _ _ _ _ _ _ _ _ _ _ _ _ _ _ _ _ _ _ _ _ _ _ _ _ _ _ _ _ _ _ _ _ _ _ _ _ _ _ _ _ _ _ _ _ _ _ _ _ _ _ _ _ _ _ _ _ _ _ _ _ _ _ _ _ _ _ _ _ _ _ _ _ _ _ _ _ _ _ _ _ _ _ _ _ _ _ _ _ _ _ _ _ _ _ _ _ _ Wb.heap.size cap12 A12 vs12 _ (BA4.out.put 0 _) HQ12.out.2.1 HQ12.out.2.2 (hR12.set (p := ⟨Wb.heap.size, 0, none⟩) (.inl (by simp only; omega)) _).vg hHeld.2
  · skip
    go_simp
    (first | (have BA := hide (Blk.made wx4 25 #[.slice none 0 0])) | (have BA := hide (Blk.made wx2 25 #[.slice none 0 0])) | (have BA := hide (Blk.made Wb 25 #[.slice none 0 0]).drew))
    try go_wp2_with fail
    refine hK.out _ _ (by exact ⟨⟨(B5.on (hHeld.2.trans ((below_alloc1 _ _).mono hHeld.2.size))).at 0, (B6.on (hHeld.2.trans ((below_alloc1 _ _).mono hHeld.2.size))).six.1, (B8.on (hHeld.2.trans ((below_alloc1 _ _).mono hHeld.2.size))).six.1, (B9.on (hHeld.2.trans ((below_alloc1 _ _).mono hHeld.2.size))).at 0⟩, hHeld.2.trans ((below_alloc1 _ _).mono hHeld.2.size)⟩) (fun hHeld => ?_)
    clear hK K
    refine take_one 2 (by kernel_rfl) rfl (fun K hK => ?_)
    go_simp
    (refine (implStoreAdd_any a1 c1 vs u _ hn1 SM1.out ((V1.on hHeld.2).up hHeld.2.size) hu4' hus' ((T8.on hHeld.2).up hHeld.2.size)).mono ?_; intro e wx2 ha; obtain ⟨Ax, capx, vsx, rfl, hlx, hix, hRx, hb⟩ := answerS_form ha; clear ha; have z2 := (hHeld.2.trans (hb.mono hHeld.2.size)).size; have z2' := hb.size; (try simp at z2'); have HVX0 := hide hRx; (try have BA2 := hide (BA.out.on hb)); have HLX := hide hlx; have HIX := hide hix; have FX := hide (small_few (fewV_like hlx hix FU.out)); have lxl : (addR vs u).length ≤ 1048576 := (by have := add_len u hl1; omega); clear hlx hix)
    try go_wp2_with fail
    refine hK.out _ _ (by exact ⟨⟨(B5.on (hHeld.2.trans (hb.mono hHeld.2.size))).at 0, (B6.on (hHeld.2.trans (hb.mono hHeld.2.size))).six.1, (B8.on (hHeld.2.trans (hb.mono hHeld.2.size))).six.1, (B9.on (hHeld.2.trans (hb.mono hHeld.2.size))).at 0⟩, hHeld.2.trans (hb.mono hHeld.2.size)⟩) (fun hHeld => ?_)
    clear hK K
    refine take_one 4 (by kernel_rfl) rfl (fun K hK => ?_)
    go_simp
    ((first | have CT := implStoreAdd_any Ax capx vsx v _ (by rw [HLX.out]; exact lxl) FX.out (HVX0.out.alloc (.cells #[.slice none 0 0] 25)).vg hv4' hvs' ((T6.on hHeld.2).up hHeld.2.size) | have CT := implStoreAdd_any Ax capx vsx v _ (by rw [HLX.out]; exact lxl) FX.out HVX0.out.vg hv4' hvs' ((T6.on hHeld.2).up hHeld.2.size)); rw [HLX.out] at CT; (with_reducible refine CT.mono ?_); clear CT; intro e wx4 ha; obtain ⟨A12, cap12, vs12, rfl, hl12, hi12, hR12, hb⟩ := answerS_form ha; clear ha; have LH4 := hide (hHeld.2.trans (hb.mono hHeld.2.size)); (first | have BA4 := hide (BA2.out.on hb) | have BA4 := hide (BA.out.on hb) | skip); (try have k12 := BA4.out.one); have q12 := add_two HP.out HVV.out HVU.out HLX.out HIX.out hl12 hi12; rw [q12.1]; have HQ12 := hide q12; clear q12 hl12 hi12)
    try go_wp2_with fail
    refine hK.out _ _ (by exact ⟨⟨(B5.on (hHeld.2.trans (hb.mono hHeld.2.size))).at 0, (B6.on (hHeld.2.trans (hb.mono hHeld.2.size))).six.1, (B8.on (hHeld.2.trans (hb.mono hHeld.2.size))).six.1, (B9.on (hHeld.2.trans (hb.mono hHeld.2.size))).at 0⟩, hHeld.2.trans (hb.mono hHeld.2.size)⟩) (fun hHeld => ?_)
    clear hK K
    refine take_one 6 (by kernel_rfl) rfl (fun K hK => ?_)
    go_simp
    refine hK.out _ _ (by first | exact ⟨⟨(B5.on (LH4.out.trans ((below_alloc1 _ _).mono LH4.out.size))).at 0, (B6.on (LH4.out.trans ((below_alloc1 _ _).mono LH4.out.size))).six.1, (B8.on (LH4.out.trans ((below_alloc1 _ _).mono LH4.out.size))).six.1, (B9.on (LH4.out.trans ((below_alloc1 _ _).mono LH4.out.size))).at 0⟩, LH4.out.trans ((below_alloc1 _ _).mono LH4.out.size)⟩ | exact ⟨⟨(B5.on (LH4.out.setCell (by first | (simp only; omega) | simp) _)).at 0, (B6.on (LH4.out.setCell (by first | (simp only; omega) | simp) _)).six.1, (B8.on (LH4.out.setCell (by first | (simp only; omega) | simp) _)).six.1, (B9.on (LH4.out.setCell (by first | (simp only; omega) | simp) _)).at 0⟩, LH4.out.setCell (by first | (simp only; omega) | simp) _⟩) (fun hHeld => ?_)
    clear hK K
    refine wpAnyH_done (by kernel_rfl) ?_ _
    refine NoPanic.normal ?_
    first | exact KEY.out _ _ _ _ _ _ _ _ _ _ _ _ _ _ _ _ _ _ _ _ _ _ _ _ _ _ _ _ _ _ _ _ _ _ _ _ _ _ _ _ _ _ _ _ _ _ _ _ _ _ _ _ _ _ _ _ _ _ _ _ _ _ _ _ _ _ _ _ _ _ _ _ _ _ _ _ _ _ _ _ _ _ _ _ _ _ _ _ _ _ _ _ _ _ _ _ _ _ _ _ _ _ _ _ _ _ _ _ _ _ _ _ _ _ _ _ _ _ _ _ _ _ _ _ _ _ _ _ _ _ _ _ _ _ _ _ _ _ _ _ _ _ _ _ wx4.heap.size cap12 A12 vs12 _ (Blk.made _ _ _) HQ12.out.2.1 HQ12.out.2.2 (hR12.alloc _).vg hHeld.2 | exact KEY.out _ _ _ _ _ _ _ _ _ _ _ _ _ _ _ _ _ _ _ _ _ _ _ _ _ _ _ _ _ _ _ _ _ _ _ _ _ _ _ _ _ _ _ _ _ _ _ _ _ _ _ _ _ _ _ _ _ _ _ _ _ _ _ _ _ _ _ _ _ _ _ _ _ _ _ _ _ _ _ _ _ _ _ _ _ _ _ _ _ _ _ _ _ _ _ _ _ _ _ _ _ _ _ _ _ _ _ _ _ _ _ _ _ _ _ _ _ _ _ _ _ _ _ _ _ _ _ _ _ _ _ _ _ _ _ _ _ _ _ _ _ _ _ _ wx2.heap.size cap12 A12 vs12 _ (BA4.out.put 0 _) HQ12.out.2.1 HQ12.out.2.2 (hR12.set (p := ⟨wx2.heap.size, 0, none⟩) (.inl (by simp)) _).vg hHeld.2 | exact KEY.out _ _ _ _ _ _ _ _ _ _ _ _ _ _ _ _ _ _ _ _ _ _ _ _ _ _ _ _ _ _ _ _ _ _ _ _ _ _ _ _ _ _ _ _ _ _ _ _ _ _ _ _ _ _ _ _ _ _ _ _ _ _ _ _ _ _ _ _ _ _ _ _ _ _ _ _ _ _ _ _ _ _ _ _ _ _ _ _ _ _ _ _ _ _ _ _ _ _ _ _ _ _ _ _ _ _ _ _ _ _ _ _ _ _ _ _ _ _ _ _ _ _ _ _ _ _ _ _ _ _ _ _ _ _ _ _ _ _ _ _ _ _ _ _ Wb.heap.size cap12 A12 vs12 _ (BA4.out.put 0 _) HQ12.out.2.1 HQ12.out.2.2 (hR12.set (p := ⟨Wb.heap.size, 0, none⟩) (.inl (by simp only; omega)) _).vg hHeld.2

set_option maxRecDepth 100000 in
theorem lifted (os : Os) (started : os.Started) (H : Type) (enc : TypeId × Value → H) :
    ReturnsInHanded {} Try.checked os 3 .any (Rows.fnStoreAddSpec.pre6 enc Try.prog Try.f3 Rows.fnStoreAddRow.domain false) (Rows.fnStoreAddSpec.post enc Try.prog Try.f3 false true false false) := by
  refine returnsInHanded_of_change (C := Try.checked) own started (by kernel_rfl) Try.func3
    (ChangeSpec.witness6 (enc := enc) (C := Try.checked) false ⟨#[], #[.slice none 0 0, .slice none 0 0], []⟩ 8 (by kernel_rfl) (by kernel_rfl) (by kernel_rfl) (by kernel_rfl)) ?_
  intro W base args ds gs before hval0 hW hcnd _
  have hval : ∀ (j : Nat) t v, Try.f3.params[j]? = some t → args[j]? = some v → Value.okWide Try.prog W .any base t v := hval0
  have hW' := hW
  obtain ⟨p, q, hA0, hV, rfl, hfz, hnd⟩ := hW
  have hA : DataW.TrodAll enc Try.prog W 0 (fun _ => true) true Try.f3.params.toList args.toList ds p := hA0
  rw [Try.params3] at hA hval
  have hK := hA
  obtain ⟨v0, vs0, d0, ds0, p0, q0, hargs, rfl, rfl, h0, r0⟩ := trodAll_cons hA
  obtain ⟨v1, vs1, d1, ds1, p1, q1, rfl, rfl, rfl, h1, r1⟩ := trodAll_cons r0
  obtain ⟨rfl, rfl, rfl⟩ := trodAll_nil r1
  obtain rfl : args = #[v0, v1] := by cases args; simp_all
  obtain ⟨rfl, rfl⟩ := trodVars_none hV
  obtain ⟨a0, len0, cap0, rfl, b0⟩ := read_bytes (hval 0 22 v0 rfl rfl) h0
  obtain ⟨a1, len1, cap1, rfl, b1⟩ := read_bytes (hval 1 22 v1 rfl rfl) h1
  clear hA0 hval0
  refine (walk a0 len0 cap0 a1 len1 cap1 W b0 b1).mono fun e W' ⟨he, hb⟩ => ?_
  subst he
  have hK' := stay_all hb (by intro t ht; simp only [List.mem_cons, List.not_mem_nil, or_false] at ht; rcases ht with rfl | rfl <;> exact ⟨by kernel_rfl, of_decide_eq_true (by kernel_rfl)⟩) hK
  exact ⟨_, rfl, _, _, _, [], _, [], hW', trodAll_mk1 (shut_bool Try.underlying4 _), hK', rfl, hb.frame _, fun h => by cases h⟩

theorem over : Rows.fnStoreAddRow.holds Try.pinned (OpenSpec.ofChange Rows.fnStoreAddSpec) :=
  OpenClaim.holds_of_wide 3 Try.f3 rfl rfl rfl rfl rfl rfl rfl ⟨rfl, rfl, rfl, rfl, rfl⟩ rfl rfl rfl rfl rfl (by kernel_rfl) Try.func3
    (by refine joined_of ?_; kernel_rfl) (of_decide_eq_true (by kernel_rfl)) (by unfold Func.isWrapper; first | (rw [if_pos (by decide +kernel)]; kernel_rfl) | (rw [if_neg (by decide +kernel)]; exact ⟨rfl, rfl⟩))
    (fun os started H enc _ => lifted os started H enc)
end Go.Proofs.Ytgofeljmpkhkbaa.FnStoreAdd
namespace Go.Proofs.Ytgofeljmpkhkbaa
/-- The statement itself. -/
theorem fnStoreAdd_holds : Rows.FnStoreAddSaid := FnStoreAdd.over
#print axioms fnStoreAdd_holds
end Go.Proofs.Ytgofeljmpkhkbaa
namespace Go.Proofs.Ytgofeljmpkhkbaa.FnStoreAdd
end Go.Proofs.Ytgofeljmpkhkbaa.FnStoreAdd

