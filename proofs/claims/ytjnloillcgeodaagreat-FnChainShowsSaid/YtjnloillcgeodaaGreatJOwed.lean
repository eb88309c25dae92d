/- What a node owes, sorted by tags and then by keys downwards, is what the model says: there is one such order. No condition. -/
import Derived.Test.YtjnloillcgeodaaGreatJChainFall2
import Derived.Sort.Statements
import Derived.Shelf.SlSortCmp.Insertion
import Derived.Sort.Grow
import Derived.Test.YtjnloillcgeodaaGreatJLift0
import Derived.Shelf.SlSortCmp.SmallK
import Derived.Shelf.SlSortCmp.NoneTotal
import Derived.Shelf.Small.Bits
import Derived.Test.YtjnloillcgeodaaGreatJChainClone
import Derived.Test.YtjnloillcgeodaaGreatJChainPass4
namespace Go.Proofs.YtjnloillcgeodaaGreat
open Go.RowKit Go.Joins

instance : Inhabited V := ⟨v0⟩
/-- How the program's byTag compares two versions. -/
def cfV (x y : V) : Int := orI (cmpT x.t x.u y.t y.u) (cmpI y.k x.k)
abbrev ltV : V → V → Bool := Go.Proofs.ltOf cfV
theorem ltV_iff (x y : V) : ltV x y = true ↔ (x.t < y.t ∨ x.t = y.t ∧ (x.u < y.u ∨ x.u = y.u ∧ y.k < x.k)) := by
  unfold ltV Go.Proofs.ltOf cfV cmpT orI cmpI
  simp only [decide_eq_true_eq]
  repeat' split
  all_goals omega
theorem ltV_not (x y : V) : ltV x y = false ↔ ¬ (x.t < y.t ∨ x.t = y.t ∧ (x.u < y.u ∨ x.u = y.u ∧ y.k < x.k)) := by
  rw [← ltV_iff]
  cases ltV x y <;> simp
theorem swoV : Go.Sort.SWO ltV where
  irrefl x := by rw [ltV_not]; omega
  trans x y z h k := by rw [ltV_iff] at *; omega
  ntrans x y z h k := by rw [ltV_not] at *; omega
/-- What the program lists before it sorts. -/
def filtL (xs ys : List V) : Nat → List V
  | 0 => []
  | i + 1 => match xs[i]?, ys[i]? with
    | some x, some y => if lessB y.t y.u x.t x.u = true then filtL xs ys i ++ [x] else filtL xs ys i
    | _, _ => filtL xs ys i
theorem filtL_yes {xs ys : List V} {i : Nat} {x y : V} (hx : xs[i]? = some x) (hy : ys[i]? = some y) (h : lessB y.t y.u x.t x.u = true) : filtL xs ys (i + 1) = filtL xs ys i ++ [x] := by
  rw [filtL, hx, hy]
  simp only [h, if_true]
theorem filtL_not {xs ys : List V} {i : Nat} {x y : V} (hx : xs[i]? = some x) (hy : ys[i]? = some y) (h : lessB y.t y.u x.t x.u = false) : filtL xs ys (i + 1) = filtL xs ys i := by
  rw [filtL, hx, hy]
  simp only [h]
  rfl
theorem filtL_set {xs ys : List V} {j : Nat} {v : V} : ∀ (i : Nat), i ≤ j → filtL (xs.set j v) ys i = filtL xs ys i
  | 0, _ => rfl
  | i + 1, h => by
    have e : (xs.set j v)[i]? = xs[i]? := List.getElem?_set_ne (by omega)
    rw [filtL, filtL, e, filtL_set i (by omega)]
theorem filtL_len (xs ys : List V) : ∀ i, (filtL xs ys i).length ≤ i
  | 0 => Nat.le_refl _
  | i + 1 => by
    have ih := filtL_len xs ys i
    unfold filtL
    split
    · split
      · rw [List.length_append]; simp; omega
      · omega
    · omega
theorem filt_perm (xs ys : List V) : ∀ i, (lackN xs ys i).Perm (filtL xs ys i)
  | 0 => List.Perm.refl _
  | i + 1 => by
    have ih := filt_perm xs ys i
    cases hx : xs[i]? with
    | none => simp only [lackN, filtL, hx]; exact ih
    | some x =>
      cases hy : ys[i]? with
      | none => simp only [lackN, filtL, hx, hy]; exact ih
      | some y =>
        cases hb : lessB y.t y.u x.t x.u
        · rw [lackN_not hx hy hb, filtL_not hx hy hb]
          exact ih
        · rw [lackN_yes hx hy hb, filtL_yes hx hy hb]
          exact (insL_perm _ _).trans ((List.Perm.cons _ ih).trans (List.perm_append_singleton _ _).symm)
/-- What a node lacks is in order. -/
theorem lack_sorted {xs ys : List V} (hx : storeB xs = true) (hy : storeB ys = true) : ∀ i, (lackN xs ys i).Pairwise (fun a b => ltV a b = true)
  | 0 => List.Pairwise.nil
  | i + 1 => by
    have ih := lack_sorted hx hy i
    unfold lackN
    split
    · rename_i x y h1 h2
      split
      · rename_i hb
        obtain ⟨hkx, hvx⟩ := lack_key hx hy h1 h2 hb
        have hx0 := (ver_key hvx).1
        have low : ∀ v ∈ lackN xs ys i, v.k < x.k := fun v hv => by
          obtain ⟨j, hj, q1, z, q2, q3⟩ := lack_in i v hv
          obtain ⟨hk, hvv⟩ := lack_key hx hy q1 q2 q3
          have := (ver_key hvv).1
          omega
        obtain ⟨p, hp, hp1, hp2⟩ := insL_cut (lackN xs ys i) x
        rw [insL_at ⟨hp, hp1, hp2⟩]
        have hsplit : (lackN xs ys i).take p ++ (lackN xs ys i).drop p = lackN xs ys i := List.take_append_drop _ _
        rw [← hsplit, List.pairwise_append] at ih
        obtain ⟨ihA, ihB, ihC⟩ := ih
        have before : ∀ a ∈ (lackN xs ys i).take p, lessB a.t a.u x.t x.u = true := fun a ha => by
          obtain ⟨j, hj⟩ := List.getElem?_of_mem ha
          have hjp : j < p := by have := (List.getElem?_eq_some_iff.1 hj).1; rw [List.length_take] at this; omega
          rw [List.getElem?_take_of_lt hjp] at hj
          exact hp1 j a hjp hj
        have behind : ∀ b ∈ (lackN xs ys i).drop p, lessB b.t b.u x.t x.u = false := fun b hb' => by
          cases hd : (lackN xs ys i).drop p with
          | nil => rw [hd] at hb'; simp at hb'
          | cons d r =>
            have hd0 : (lackN xs ys i)[p]? = some d := by
              have : ((lackN xs ys i).drop p)[0]? = some d := by rw [hd]; rfl
              rw [List.getElem?_drop, Nat.add_zero] at this
              exact this
            have hdl := hp2 d hd0
            rw [hd] at hb' ihB
            rcases List.mem_cons.1 hb' with rfl | hb'
            · exact hdl
            · have := (ltV_iff d b).1 ((List.pairwise_cons.1 ihB).1 b hb')
              unfold lessB at hdl ⊢
              simp only [decide_eq_false_iff_not] at hdl ⊢
              omega
        refine List.pairwise_append.2 ⟨ihA, List.pairwise_cons.2 ⟨fun b hb' => ?_, ihB⟩, fun a ha b hb' => ?_⟩
        · have h3 := behind b hb'
          have h4 := low b (List.mem_of_mem_drop hb')
          rw [ltV_iff]
          unfold lessB at h3
          simp only [decide_eq_false_iff_not] at h3
          omega
        · rcases List.mem_cons.1 hb' with rfl | hb'
          · have h3 := before a ha
            rw [ltV_iff]
            unfold lessB at h3
            simp only [decide_eq_true_eq] at h3
            omega
          · exact ihC a ha b hb'
      · exact ih
    · exact ih
/-- There is one order. -/
theorem lack_unique {xs ys us : List V} (hx : storeB xs = true) (hy : storeB ys = true) (hp : us.Perm (filtL xs ys 4)) (hs : us.Pairwise (fun a b => ltV b a = false)) : us = lackN xs ys 4 := by
  refine List.Perm.eq_of_pairwise (le := fun a b => ltV b a = false) (fun a b ha hb h1 h2 => ?_) hs ((lack_sorted hx hy 4).imp fun {a b} q => ?_) (hp.trans (filt_perm xs ys 4).symm)
  · have ha' := (hp.trans (filt_perm xs ys 4).symm).mem_iff.1 ha
    obtain ⟨i, _, p1, z, p2, p3⟩ := lack_in 4 a ha'
    obtain ⟨j, _, q1, z', q2, q3⟩ := lack_in 4 b hb
    obtain ⟨e1, e2⟩ := lack_key hx hy p1 p2 p3
    obtain ⟨f1, f2⟩ := lack_key hx hy q1 q2 q3
    have := (ver_key e2).1
    have := (ver_key f2).1
    rw [ltV_not] at h1 h2
    have e : i = j := by omega
    subst e
    rw [p1] at q1
    injection q1
  · rw [ltV_iff] at q
    rw [ltV_not]
    omega
end Go.Proofs.YtjnloillcgeodaaGreat
/- How the program's byTag compares two versions: it lays blocks, and turns nothing. No condition. -/
namespace Go.Proofs.YtjnloillcgeodaaGreat
open Go.RowKit Go.Joins
attribute [local go_sem ↓] Go.wp_at_zero Go.wp_at_succ

/-- Nothing but draws and new blocks. -/
def Gr (w w' : World) : Prop := ∃ q os, w' = Go.Sort.grow (w.drewN q) os
theorem Gr.refl (w : World) : Gr w w := ⟨0, #[], by rw [Go.Sort.grow_empty]; rfl⟩
theorem Gr.alloc {w w' : World} (h : Gr w w') (o : Obj) : Gr w (w'.alloc o) := by
  obtain ⟨q, os, rfl⟩ := h
  exact ⟨q, os ++ #[o], by rw [Go.Sort.alloc_eq_grow, Go.Sort.grow_grow]⟩
theorem Gr.drew {w w' : World} (h : Gr w w') : Gr w w'.drew := by
  obtain ⟨q, os, rfl⟩ := h
  exact ⟨q + 1, os, rfl⟩
theorem Gr.trans {a b c : World} (h : Gr a b) (k : Gr b c) : Gr a c := by
  obtain ⟨q, os, rfl⟩ := h
  obtain ⟨q', os', rfl⟩ := k
  refine ⟨q + q', os ++ os', ?_⟩
  rw [← Go.Sort.grow_grow]
  unfold Go.Sort.grow World.drewN
  simp only [Nat.add_assoc]
theorem gr_below {w w' : World} (h : Gr w w') : Below w.heap.size w w' := by
  obtain ⟨q, os, rfl⟩ := h
  refine ⟨rfl, rfl, rfl, by simp [Go.Sort.grow], fun k hk => ?_⟩
  show ((w.drewN q).heap ++ os)[k]? = _
  rw [Array.getElem?_append_left (by simpa using hk)]
  rfl
set_option maxRecDepth 100000 in
set_option maxHeartbeats 2000000 in
theorem compare_gr (t p t' p' : Int) (w : World) :
    Calls Tryz.prog 79 #[.agg #[.int .i64 t, .int .i64 p], .agg #[.int .i64 t', .int .i64 p']] w fun e w' => e = .returned (.int .i64 (cmpT t p t' p')) ∧ Gr w w' := by
  have S0 := ((Inv.start w).box 49 #[.int .i64 t, .int .i64 p]).box 49 #[.int .i64 t', .int .i64 p']
  have HG := hide (((Gr.refl w).alloc (.cells #[.int .i64 t, .int .i64 p] 49)).alloc (.cells #[.int .i64 t', .int .i64 p'] 49))
  simp only [World.size_alloc] at S0
  go_enter Tryz.func79, Tryz.ntmps79
  go_wp2_with fail
  generalize (w.alloc (.cells #[.int .i64 t, .int .i64 p] 49)).alloc (.cells #[.int .i64 t', .int .i64 p'] 49) = W at S0 HG ⊢
  refine wp_region_noPanic ?_
  refine wp_region_held_drew (S := (fun w' => w'.cell? ⟨w.heap.size, 0, none⟩ = some (.int .i64 t) ∧ w'.cell? ⟨w.heap.size, 1, none⟩ = some (.int .i64 p) ∧ w'.cell? ⟨w.heap.size + 1, 0, none⟩ = some (.int .i64 t') ∧ w'.cell? ⟨w.heap.size + 1, 1, none⟩ = some (.int .i64 p') ∧ Inv w (w.heap.size + 1 + 1) [(w.heap.size + 1, 49, #[.int .i64 t', .int .i64 p']), (w.heap.size, 49, #[.int .i64 t, .int .i64 p])] w' ∧ Hid (Gr w w'))) (by kernel_rfl) (by exact ⟨(S0.nth 1 rfl).at 0, (S0.nth 1 rfl).at 1, (S0.nth 0 rfl).at 0, (S0.nth 0 rfl).at 1, S0.drew, HG.out.drew⟩) (fun hHeld => ?_)
  refine take_run 0 (some 5) (v := ?_) rfl rfl (by kernel_rfl) (by kernel_rfl) (by kernel_rfl) (fun _ _ _ h => h) (by rfl) ?_ hHeld ?_
  rotate_left
  · ((intro w hSw); (try dsimp only at hSw); go_simp <;> with_reducible rfl)
  simp only [Act.put, List.setIfInBounds_toArray, List.set_cons_zero, List.set_cons_succ]
  refine take_run 1 (some 6) (v := ?_) rfl rfl (by kernel_rfl) (by kernel_rfl) (by kernel_rfl) (fun _ _ _ h => h) (by rfl) ?_ hHeld ?_
  rotate_left
  · ((intro w hSw); (try dsimp only at hSw); go_simp <;> with_reducible rfl)
  simp only [Act.put, List.setIfInBounds_toArray, List.set_cons_zero, List.set_cons_succ]
  refine take_run 2 (some 7) (v := ?_) rfl rfl (by kernel_rfl) (by kernel_rfl) (by kernel_rfl) (fun _ _ _ h => h) (by rfl) ?_ hHeld ?_
  rotate_left
  · ((intro w hSw); (try dsimp only at hSw); go_simp <;> with_reducible rfl)
  simp only [Act.put, List.setIfInBounds_toArray, List.set_cons_zero, List.set_cons_succ]
  refine take_run 3 (some 8) (v := ?_) rfl rfl (by kernel_rfl) (by kernel_rfl) (by kernel_rfl) (fun _ _ _ h => h) (by rfl) ?_ hHeld ?_
  rotate_left
  · ((intro w hSw); (try dsimp only at hSw); go_simp <;> with_reducible rfl)
  simp only [Act.put, List.setIfInBounds_toArray, List.set_cons_zero, List.set_cons_succ]
  refine take_run 5 (some 10) (v := ?_) rfl rfl (by kernel_rfl) (by kernel_rfl) (by kernel_rfl) (fun _ _ _ h => h) (by rfl) ?_ hHeld ?_
  rotate_left
  · ((intro w hSw); (try dsimp only at hSw); go_simp <;> with_reducible rfl)
  simp only [Act.put, List.setIfInBounds_toArray, List.set_cons_zero, List.set_cons_succ]
  refine take_run 6 (some 11) (v := ?_) rfl rfl (by kernel_rfl) (by kernel_rfl) (by kernel_rfl) (fun _ _ _ h => h) (by rfl) ?_ hHeld ?_
  rotate_left
  · ((intro w hSw); (try dsimp only at hSw); go_simp <;> with_reducible rfl)
  simp only [Act.put, List.setIfInBounds_toArray, List.set_cons_zero, List.set_cons_succ]
  refine take_run 7 (some 12) (v := ?_) rfl rfl (by kernel_rfl) (by kernel_rfl) (by kernel_rfl) (fun _ _ _ h => h) (by rfl) ?_ hHeld ?_
  rotate_left
  · ((intro w hSw); (try dsimp only at hSw); go_simp <;> with_reducible rfl)
  simp only [Act.put, List.setIfInBounds_toArray, List.set_cons_zero, List.set_cons_succ]
  refine take_run 8 (some 13) (v := ?_) rfl rfl (by kernel_rfl) (by kernel_rfl) (by kernel_rfl) (fun _ _ _ h => h) (by rfl) ?_ hHeld ?_
  rotate_left
  · ((intro w hSw); (try dsimp only at hSw); go_simp <;> with_reducible rfl)
  simp only [Act.put, List.setIfInBounds_toArray, List.set_cons_zero, List.set_cons_succ]
  refine take_one 4 (by kernel_rfl) rfl (fun K hK => ?_)
  go_simp
  (refine (cmpInt_any _ _ _).mono ?_; rintro e w1 ⟨rfl, rfl⟩)
  try go_wp2_with fail
  refine hK.out _ _ (by exact hHeld) (fun hHeld => ?_)
  clear hK K
  refine take_one 9 (by kernel_rfl) rfl (fun K hK => ?_)
  go_simp
  (refine (cmpInt_any _ _ _).mono ?_; rintro e w1 ⟨rfl, rfl⟩)
  try go_wp2_with fail
  refine hK.out _ _ (by exact hHeld) (fun hHeld => ?_)
  clear hK K
  refine take_one 10 (by kernel_rfl) rfl (fun K hK => ?_)
  go_simp
  refine hK.out _ _ (by exact ⟨((hHeld.2.2.2.2.1.alloc _).nth 1 rfl).at 0, ((hHeld.2.2.2.2.1.alloc _).nth 1 rfl).at 1, ((hHeld.2.2.2.2.1.alloc _).nth 0 rfl).at 0, ((hHeld.2.2.2.2.1.alloc _).nth 0 rfl).at 1, hHeld.2.2.2.2.1.alloc _, hHeld.2.2.2.2.2.out.alloc _⟩) (fun hHeld => ?_)
  clear hK K
  refine take_one 11 (by kernel_rfl) rfl (fun K hK => ?_)
  go_simp
  (refine (cmpOr_two _ _ (cmpI t t') (cmpI p p') _ (Blk.made _ _ _).drew.two.1 (Blk.made _ _ _).drew.two.2.1).mono ?_; rintro e w1 ⟨rfl, rfl⟩)
  try go_wp2_with fail
  refine hK.out _ _ (by exact hHeld) (fun hHeld => ?_)
  clear hK K
  refine take_run 12 (some 4) (v := ?_) rfl rfl (by kernel_rfl) (by kernel_rfl) (by kernel_rfl) (fun _ _ _ h => h) (by rfl) ?_ hHeld ?_
  rotate_left
  · ((intro w hSw); (try dsimp only at hSw); go_simp <;> with_reducible rfl)
  simp only [Act.put, List.setIfInBounds_toArray, List.set_cons_zero, List.set_cons_succ]
  refine wpAnyH_done (by kernel_rfl) ?_ _
  refine NoPanic.normal ?_
  have L := hHeld.2.2.2.2.2
  clear hHeld
  go_wp2
  go_ret
  exact ⟨rfl, L.out⟩
abbrev verCx (x : V) : Array Value := verC x.k x.t x.u x.a x.ts.length x.c x.s x.g
set_option maxRecDepth 100000 in
set_option maxHeartbeats 2000000 in
theorem byTag_gr (x y : V) (w : World) :
    Calls Tryz.prog 63 #[.agg (verCx x), .agg (verCx y)] w fun e w' => e = .returned (.int .i64 (cfV x y)) ∧ Gr w w' := by
  have S0 := ((Inv.start w).box 51 (verCx x)).box 51 (verCx y)
  have HG := hide (((Gr.refl w).alloc (.cells (verCx x) 51)).alloc (.cells (verCx y) 51))
  simp only [World.size_alloc] at S0
  go_enter Tryz.func63, Tryz.ntmps63
  go_wp2_with fail
  generalize (w.alloc (.cells (verCx x) 51)).alloc (.cells (verCx y) 51) = W at S0 HG ⊢
  refine wp_region_noPanic ?_
  refine wp_region_held_drew (S := (fun w' => (w'.cell? ⟨w.heap.size, 0, none⟩ = some (.int .i64 x.k) ∧ w'.cell? ⟨w.heap.size, 1, none⟩ = some (.int .i64 x.t) ∧ w'.cell? ⟨w.heap.size, 2, none⟩ = some (.int .i64 x.u)) ∧ (w'.cell? ⟨w.heap.size + 1, 0, none⟩ = some (.int .i64 y.k) ∧ w'.cell? ⟨w.heap.size + 1, 1, none⟩ = some (.int .i64 y.t) ∧ w'.cell? ⟨w.heap.size + 1, 2, none⟩ = some (.int .i64 y.u)) ∧ Inv w (w.heap.size + 1 + 1) [(w.heap.size + 1, 51, (verCx y)), (w.heap.size, 51, (verCx x))] w' ∧ Hid (Gr w w'))) (by kernel_rfl) (by exact ⟨⟨(S0.nth 1 rfl).at 0, (S0.nth 1 rfl).at 1, (S0.nth 1 rfl).at 2⟩, ⟨(S0.nth 0 rfl).at 0, (S0.nth 0 rfl).at 1, (S0.nth 0 rfl).at 2⟩, S0.drew, HG.out.drew⟩) (fun hHeld => ?_)
  refine take_run 0 (some 5) (v := ?_) rfl rfl (by kernel_rfl) (by kernel_rfl) (by kernel_rfl) (fun _ _ _ h => h) (by rfl) ?_ hHeld ?_
  rotate_left
  · ((intro w hSw); (try dsimp only at hSw); go_simp <;> with_reducible rfl)
  simp only [Act.put, List.setIfInBounds_toArray, List.set_cons_zero, List.set_cons_succ]
  refine take_run 1 (some 6) (v := ?_) rfl rfl (by kernel_rfl) (by kernel_rfl) (by kernel_rfl) (fun _ _ _ h => h) (by rfl) ?_ hHeld ?_
  rotate_left
  · ((intro w hSw); (try dsimp only at hSw); go_simp <;> with_reducible rfl)
  simp only [Act.put, List.setIfInBounds_toArray, List.set_cons_zero, List.set_cons_succ]
  refine take_run 2 (some 7) (v := ?_) rfl rfl (by kernel_rfl) (by kernel_rfl) (by kernel_rfl) (fun _ _ _ h => h) (by rfl) ?_ hHeld ?_
  rotate_left
  · ((intro w hSw); (try dsimp only at hSw); go_simp <;> with_reducible rfl)
  simp only [Act.put, List.setIfInBounds_toArray, List.set_cons_zero, List.set_cons_succ]
  refine take_run 3 (some 8) (v := ?_) rfl rfl (by kernel_rfl) (by kernel_rfl) (by kernel_rfl) (fun _ _ _ h => h) (by rfl) ?_ hHeld ?_
  rotate_left
  · ((intro w hSw); (try dsimp only at hSw); go_simp <;> with_reducible rfl)
  simp only [Act.put, List.setIfInBounds_toArray, List.set_cons_zero, List.set_cons_succ]
  refine take_run 5 (some 10) (v := ?_) rfl rfl (by kernel_rfl) (by kernel_rfl) (by kernel_rfl) (fun _ _ _ h => h) (by rfl) ?_ hHeld ?_
  rotate_left
  · ((intro w hSw); (try dsimp only at hSw); go_simp <;> with_reducible rfl)
  simp only [Act.put, List.setIfInBounds_toArray, List.set_cons_zero, List.set_cons_succ]
  refine take_run 6 (some 11) (v := ?_) rfl rfl (by kernel_rfl) (by kernel_rfl) (by kernel_rfl) (fun _ _ _ h => h) (by rfl) ?_ hHeld ?_
  rotate_left
  · ((intro w hSw); (try dsimp only at hSw); go_simp <;> with_reducible rfl)
  simp only [Act.put, List.setIfInBounds_toArray, List.set_cons_zero, List.set_cons_succ]
  refine take_run 7 (some 12) (v := ?_) rfl rfl (by kernel_rfl) (by kernel_rfl) (by kernel_rfl) (fun _ _ _ h => h) (by rfl) ?_ hHeld ?_
  rotate_left
  · ((intro w hSw); (try dsimp only at hSw); go_simp <;> with_reducible rfl)
  simp only [Act.put, List.setIfInBounds_toArray, List.set_cons_zero, List.set_cons_succ]
  refine take_run 8 (some 13) (v := ?_) rfl rfl (by kernel_rfl) (by kernel_rfl) (by kernel_rfl) (fun _ _ _ h => h) (by rfl) ?_ hHeld ?_
  rotate_left
  · ((intro w hSw); (try dsimp only at hSw); go_simp <;> with_reducible rfl)
  simp only [Act.put, List.setIfInBounds_toArray, List.set_cons_zero, List.set_cons_succ]
  refine take_one 4 (by kernel_rfl) rfl (fun K hK => ?_)
  go_simp
  (refine (compare_gr _ _ _ _ _).mono ?_; rintro e w1 ⟨rfl, hb⟩)
  try go_wp2_with fail
  refine hK.out _ _ (by (have hI := hHeld.2.2.1.on (gr_below hb); exact ⟨⟨(hI.nth 1 rfl).at 0, (hI.nth 1 rfl).at 1, (hI.nth 1 rfl).at 2⟩, ⟨(hI.nth 0 rfl).at 0, (hI.nth 0 rfl).at 1, (hI.nth 0 rfl).at 2⟩, hI, hHeld.2.2.2.out.trans hb⟩)) (fun hHeld => ?_)
  clear hK K
  refine take_one 9 (by kernel_rfl) rfl (fun K hK => ?_)
  go_simp
  (refine (cmpInt_any _ _ _).mono ?_; rintro e w1 ⟨rfl, rfl⟩)
  try go_wp2_with fail
  refine hK.out _ _ (by exact hHeld) (fun hHeld => ?_)
  clear hK K
  refine take_one 10 (by kernel_rfl) rfl (fun K hK => ?_)
  go_simp
  refine hK.out _ _ (by exact ⟨⟨((hHeld.2.2.1.alloc _).nth 1 rfl).at 0, ((hHeld.2.2.1.alloc _).nth 1 rfl).at 1, ((hHeld.2.2.1.alloc _).nth 1 rfl).at 2⟩, ⟨((hHeld.2.2.1.alloc _).nth 0 rfl).at 0, ((hHeld.2.2.1.alloc _).nth 0 rfl).at 1, ((hHeld.2.2.1.alloc _).nth 0 rfl).at 2⟩, hHeld.2.2.1.alloc _, hHeld.2.2.2.out.alloc _⟩) (fun hHeld => ?_)
  clear hK K
  refine take_one 11 (by kernel_rfl) rfl (fun K hK => ?_)
  go_simp
  (refine (cmpOr_two _ _ (cmpT x.t x.u y.t y.u) (cmpI y.k x.k) _ (Blk.made _ _ _).two.1 (Blk.made _ _ _).two.2.1).mono ?_; rintro e w1 ⟨rfl, rfl⟩)
  try go_wp2_with fail
  refine hK.out _ _ (by exact hHeld) (fun hHeld => ?_)
  clear hK K
  refine take_run 12 (some 4) (v := ?_) rfl rfl (by kernel_rfl) (by kernel_rfl) (by kernel_rfl) (fun _ _ _ h => h) (by rfl) ?_ hHeld ?_
  rotate_left
  · ((intro w hSw); (try dsimp only at hSw); go_simp <;> with_reducible rfl)
  simp only [Act.put, List.setIfInBounds_toArray, List.set_cons_zero, List.set_cons_succ]
  refine wpAnyH_done (by kernel_rfl) ?_ _
  refine NoPanic.normal ?_
  have L := hHeld.2.2.2
  clear hHeld
  go_wp2
  go_ret
  exact ⟨rfl, L.out⟩
end Go.Proofs.YtjnloillcgeodaaGreat
/- The shelf's contracts for slices.SortFunc and math/bits.Len, laid over this program. No condition. -/
namespace Go.Proofs.YtjnloillcgeodaaGreat
open Go.Shelf
def sortVer_ren : Go.Shelf.Ren := ⟨fun | 6 => 62 | 15 => 95 | 14 => 94 | 28 => 132 | 29 => 133 | 20 => 124 | 21 => 125 | 22 => 126 | 23 => 127 | 24 => 128 | 25 => 129 | 26 => 130 | 27 => 131 | 46 => 139 | 47 => 140 | 48 => 141 | 49 => 142 | 50 => 143 | 57 => 150 | n => n, fun | 22 => 33 | 24 => 51 | 25 => 103 | 3 => 3 | 39 => 131 | 0 => 0 | 53 => 161 | 55 => 163 | 4 => 4 | 46 => 154 | 45 => 153 | 50 => 158 | 5 => 5 | 9 => 9 | 66 => 176 | 70 => 180 | 76 => 186 | 77 => 187 | n => n, fun | n => n⟩
theorem sortVer : Go.Proofs.SlLaysF0.n6 Tryz.prog sortVer_ren := {
  mixed := by kernel_rfl
  f6 := ⟨Tryz.f62.name, by decide, Tryz.func62.trans (congrArg some (by kernel_rfl))⟩
  f14 := ⟨Tryz.f94.name, by decide, Tryz.func94.trans (congrArg some (by kernel_rfl))⟩
  f15 := Tryz.func95.trans (congrArg some (by kernel_rfl))
  f20 := ⟨Tryz.f124.name, by decide, Tryz.func124.trans (congrArg some (by kernel_rfl))⟩
  f21 := ⟨Tryz.f125.name, by decide, Tryz.func125.trans (congrArg some (by kernel_rfl))⟩
  f22 := ⟨Tryz.f126.name, by decide, Tryz.func126.trans (congrArg some (by kernel_rfl))⟩
  f23 := ⟨Tryz.f127.name, by decide, Tryz.func127.trans (congrArg some (by kernel_rfl))⟩
  f24 := ⟨Tryz.f128.name, by decide, Tryz.func128.trans (congrArg some (by kernel_rfl))⟩
  f25 := ⟨Tryz.f129.name, by decide, Tryz.func129.trans (congrArg some (by kernel_rfl))⟩
  f26 := ⟨Tryz.f130.name, by decide, Tryz.func130.trans (congrArg some (by kernel_rfl))⟩
  f27 := ⟨Tryz.f131.name, by decide, Tryz.func131.trans (congrArg some (by kernel_rfl))⟩
  f28 := Tryz.func132.trans (congrArg some (by kernel_rfl))
  f29 := Tryz.func133.trans (congrArg some (by kernel_rfl))
  f46 := ⟨Tryz.f139.name, by decide, Tryz.func139.trans (congrArg some (by kernel_rfl))⟩
  f47 := Tryz.func140.trans (congrArg some (by kernel_rfl))
  f48 := Tryz.func141.trans (congrArg some (by kernel_rfl))
  f49 := ⟨Tryz.f142.name, by decide, Tryz.func142.trans (congrArg some (by kernel_rfl))⟩
  f50 := ⟨Tryz.f143.name, by decide, Tryz.func143.trans (congrArg some (by kernel_rfl))⟩
  f57 := ⟨Tryz.f150.name, by decide, Tryz.func150.trans (congrArg some (by kernel_rfl))⟩
  t0 := Tryz.underlying0
  a0 := Tryz.isAgg0
  z0 := Tryz.sizeOf0
  v0 := Tryz.zeroValue0
  t3 := Tryz.underlying3
  a3 := Tryz.isAgg3
  z3 := Tryz.sizeOf3
  v3 := Tryz.zeroValue3
  t4 := Tryz.underlying4
  a4 := Tryz.isAgg4
  z4 := Tryz.sizeOf4
  v4 := Tryz.zeroValue4
  t5 := Tryz.underlying5
  a5 := Tryz.isAgg5
  z5 := Tryz.sizeOf5
  v5 := Tryz.zeroValue5
  t9 := Tryz.underlying9
  a9 := Tryz.isAgg9
  z9 := Tryz.sizeOf9
  v9 := Tryz.zeroValue9
  t22 := Tryz.underlying33
  a22 := Tryz.isAgg33
  z22 := Tryz.sizeOf33
  v22 := Tryz.zeroValue33
  t25 := Tryz.underlying103
  a25 := Tryz.isAgg103
  z25 := Tryz.sizeOf103
  v25 := Tryz.zeroValue103
  t39 := Tryz.underlying131
  a39 := Tryz.isAgg131
  z39 := Tryz.sizeOf131
  v39 := Tryz.zeroValue131
  t45 := Tryz.underlying153
  a45 := Tryz.isAgg153
  z45 := Tryz.sizeOf153
  v45 := Tryz.zeroValue153
  t46 := Tryz.underlying154
  a46 := Tryz.isAgg154
  z46 := Tryz.sizeOf154
  v46 := Tryz.zeroValue154
  t50 := Tryz.underlying158
  a50 := Tryz.isAgg158
  z50 := Tryz.sizeOf158
  v50 := Tryz.zeroValue158
  t53 := Tryz.underlying161
  a53 := Tryz.isAgg161
  z53 := Tryz.sizeOf161
  v53 := Tryz.zeroValue161
  t55 := Tryz.underlying163
  a55 := Tryz.isAgg163
  z55 := Tryz.sizeOf163
  v55 := Tryz.zeroValue163
  t66 := Tryz.underlying176
  a66 := Tryz.isAgg176
  z66 := Tryz.sizeOf176
  v66 := Tryz.zeroValue176
  t70 := Tryz.underlying180
  a70 := Tryz.isAgg180
  z70 := Tryz.sizeOf180
  v70 := Tryz.zeroValue180
  t76 := Tryz.underlying186
  a76 := Tryz.isAgg186
  z76 := Tryz.sizeOf186
  v76 := Tryz.zeroValue186
  t77 := Tryz.underlying187
  a77 := Tryz.isAgg187
  z77 := Tryz.sizeOf187
  v77 := Tryz.zeroValue187 }
def bitsLen_ren : Go.Shelf.Ren := ⟨fun | 125 => 95 | 128 => 132 | 129 => 133 | n => n, fun | 46 => 131 | 3 => 3 | 51 => 161 | 53 => 163 | 4 => 4 | 5 => 5 | 9 => 9 | n => n, fun | n => n⟩
theorem bitsLen : Go.Proofs.Lays.n125 Tryz.prog bitsLen_ren := {
  mixed := by kernel_rfl
  f125 := Tryz.func95.trans (congrArg some (by kernel_rfl))
  f128 := Tryz.func132.trans (congrArg some (by kernel_rfl))
  f129 := Tryz.func133.trans (congrArg some (by kernel_rfl))
  t3 := Tryz.underlying3
  a3 := Tryz.isAgg3
  z3 := Tryz.sizeOf3
  v3 := Tryz.zeroValue3
  t4 := Tryz.underlying4
  a4 := Tryz.isAgg4
  z4 := Tryz.sizeOf4
  v4 := Tryz.zeroValue4
  t5 := Tryz.underlying5
  a5 := Tryz.isAgg5
  z5 := Tryz.sizeOf5
  v5 := Tryz.zeroValue5
  t9 := Tryz.underlying9
  a9 := Tryz.isAgg9
  z9 := Tryz.sizeOf9
  v9 := Tryz.zeroValue9
  t46 := Tryz.underlying131
  a46 := Tryz.isAgg131
  z46 := Tryz.sizeOf131
  v46 := Tryz.zeroValue131
  t51 := Tryz.underlying161
  a51 := Tryz.isAgg161
  z51 := Tryz.sizeOf161
  v51 := Tryz.zeroValue161
  t53 := Tryz.underlying163
  a53 := Tryz.isAgg163
  z53 := Tryz.sizeOf163
  v53 := Tryz.zeroValue163 }
theorem lenV (n : Nat) (W : World) (h : n ≤ 12) : Calls Tryz.prog 95 #[.int .u64 n] W fun e w' => (∃ l : Int, e = .returned (.int .i64 l)) ∧ w' = W :=
  (Go.Proofs.Any.bits_Len bitsLen n W (by omega) (by omega)).mono fun _ _ ⟨he, hw⟩ => ⟨⟨_, he⟩, hw⟩
theorem enters_byTag : ∀ args w, (callFunc 63 args).run Tryz.prog w = .ok (.enter 63 args) w := enters_of Tryz.func63 (by kernel_rfl) rfl
theorem isAggV : ∀ w, (isAgg 51).run Tryz.prog w = .ok true w := Tryz.isAgg51
theorem sizeOfV : ∀ w, (Go.sizeOf 51).run Tryz.prog w = .ok 6 w := Tryz.sizeOf51
end Go.Proofs.YtjnloillcgeodaaGreat
/- Contract of slices.SortFunc by byTag over a row of versions of the call's own. Condition: at most 12 of them. -/
namespace Go.Proofs.YtjnloillcgeodaaGreat
open Go.RowKit Go.Joins
attribute [local go_sem ↓] Go.wp_at_zero Go.wp_at_succ

theorem cells6_len (v : V) : (cells6 v).length = 6 := rfl
theorem cells6_one (v : V) : ∀ u ∈ cells6 v, u.oneCell' = true := fun u hu => by
  simp only [cells6, List.mem_cons, List.not_mem_nil, or_false] at hu
  rcases hu with rfl | rfl | rfl | rfl | rfl | rfl <;> rfl
theorem flatK6 (us : List V) : (Go.Sort.flatK cells6 6 us.toArray) = (flat6 us).toArray := by
  apply Array.ext
  · rw [Go.Sort.size_flatK]
    simp [flat6_len]
  · intro t h1 h2
    rw [Go.Sort.size_flatK] at h1
    have hl : t / 6 < us.length := by simp at h1; omega
    have e := Go.Sort.get_flatK cells6 6 us.toArray t h1
    have hb : t < (Go.Sort.flatK cells6 6 us.toArray).size := by rw [Go.Sort.size_flatK]; exact h1
    rw [getElem!_pos _ t hb] at e
    rw [e]
    have hg : us.toArray[t / 6]! = us[t / 6] := by
      rw [getElem!_pos us.toArray (t / 6) (by simpa using hl)]
      simp
    rw [hg]
    have h6 := flat6_at us (t / 6) us[t / 6] (t % 6) (List.getElem?_eq_getElem hl) (Nat.mod_lt _ (by decide))
    rw [show t / 6 * 6 + t % 6 = t by omega] at h6
    have hm : t % 6 < (cells6 us[t / 6]).length := by rw [cells6_len]; exact Nat.mod_lt _ (by decide)
    rw [List.getElem?_eq_getElem hm] at h6
    obtain ⟨q, h7⟩ := List.getElem?_eq_some_iff.1 h6
    rw [getElem!_pos (cells6 us[t / 6]) (t % 6) hm]
    simp only [List.getElem_toArray]
    exact h7.symm
theorem holdsK6 {base : Nat} {w : World} {g c : Nat} {us : List V} (h : CRow base w (.slice (some ⟨g, 0, none⟩) us.length c) us) : Go.Sort.HoldsK cells6 6 w g 0 us.toArray := by
  unfold Go.Sort.HoldsK Go.Sort.Holds
  rw [flatK6]
  intro j hj
  have hj' : j < us.length * 6 := by simpa [flat6_len] using hj
  refine ⟨?_, ?_⟩
  · rw [Nat.zero_add, World.ownsRow.cellAt (n := us.length) h.row j hj']
    have hl : j < (flat6 us).length := by rw [flat6_len]; exact hj'
    rw [List.getElem?_eq_getElem hl, getElem!_pos _ j hj]
    simp
  · obtain ⟨cs, hb, _⟩ := h.typed g rfl
    exact hb.loose _
theorem cmpLaysV (blk off size : Nat) (w : World) : Go.Proofs.CmpLays Tryz.prog 63 #[] cells6 6 cfV blk off size w :=
  fun _ _ _ _ x y => byTag_gr x y _
/-- What a sort makes of the world. -/
theorem sorted_block {w : World} {g : Nat} {cr : Array Value} (h : Blk w g 51 cr) (n : Nat) (us' : List V) (os : Array Obj) (hs : us'.length * 6 ≤ cr.size) :
    ∃ cr', Blk (Go.Proofs.sortWorldK cells6 6 w g 0 n us'.toArray os) g 51 cr' ∧ cr'.size = cr.size ∧ cr'.toList.take (us'.length * 6) = flat6 us' := by
  refine ⟨Go.Sort.putCells id 0 (flat6 us').toArray cr, ?_, ?_, ?_⟩
  · unfold Go.Proofs.sortWorldK Go.Sort.putRowK Go.Sort.putRow Go.Sort.mapBlock Go.Sort.grow Blk
    rw [flatK6]
    have hi := h.inside
    show ((Go.Sort.ahead w n).heap.modify g _ ++ os)[g]? = _
    rw [Array.getElem?_append_left (by rw [Array.size_modify]; exact hi), Array.getElem?_modify, if_pos rfl]
    show Option.map _ (w.heap[g]?) = _
    rw [show w.heap[g]? = some (.cells cr 51 (0, 0)) from h]
    rfl
  · unfold Go.Sort.putCells
    rw [Array.size_mapIdx]
  · apply List.ext_getElem?
    intro i
    by_cases hi : i < us'.length * 6
    · rw [List.getElem?_take_of_lt hi]
      have hl : i < (flat6 us').length := by rw [flat6_len]; exact hi
      unfold Go.Sort.putCells
      rw [Array.getElem?_toList, Array.getElem?_mapIdx, Array.getElem?_eq_getElem (by omega : i < cr.size), List.getElem?_eq_getElem hl]
      simp only [Option.map_some, Nat.zero_le, Nat.zero_add, true_and, List.size_toArray, Nat.sub_zero, id_eq]
      rw [if_pos hl, getElem!_pos _ i (by simpa using hl)]
      simp
    · rw [List.getElem?_eq_none (by rw [List.length_take]; omega), List.getElem?_eq_none (by rw [flat6_len]; omega)]
theorem sorted_turn (w : World) (g n : Nat) (us' : List V) (os : Array Obj) : Turn (fun y => y = g) w (Go.Proofs.sortWorldK cells6 6 w g 0 n us'.toArray os) := by
  unfold Go.Proofs.sortWorldK Go.Sort.putRowK Go.Sort.putRow Go.Sort.mapBlock Go.Sort.grow
  refine ⟨rfl, rfl, rfl, ?_, fun k hk hne => ?_⟩
  · show w.heap.size ≤ ((Go.Sort.ahead w n).heap.modify g _ ++ os).size
    rw [Array.size_append, Array.size_modify]
    exact Nat.le_add_right _ _
  · show ((Go.Sort.ahead w n).heap.modify g _ ++ os)[k]? = _
    rw [Array.getElem?_append_left (by rw [Array.size_modify]; exact hk), Array.getElem?_modify, if_neg (fun e => hne e.symm)]
    rfl
/-- A row of versions, put in another order in place. -/
theorem CRow.sorted {base : Nat} {w : World} {g c n : Nat} {us us' : List V} {os : Array Obj} (h : CRow base w (.slice (some ⟨g, 0, none⟩) us.length c) us) (hp : us'.Perm us) :
    CRow base (Go.Proofs.sortWorldK cells6 6 w g 0 n us'.toArray os) (.slice (some ⟨g, 0, none⟩) us'.length c) us' := by
  have hT := sorted_turn w g n us' os
  have hl := hp.length_eq
  have hrow : ∃ cr, Blk w g 51 cr ∧ base ≤ g ∧ us.length ≤ c ∧ c ≤ maxLen ∧ cr.size = c * 6 := by
    rcases h.row.2 with ⟨q, _⟩ | ⟨g', cap, cr, q, h1, h2, h3, h4, h5, _⟩
    · cases q
    · injection q with q1 q2 q3
      injection q1 with q1
      injection q1 with q1
      subst q1 q3
      exact ⟨cr, h2, h1, h3, h4, h5⟩
  obtain ⟨cr, hb, h1, h3, h4, h5⟩ := hrow
  obtain ⟨cr', hb', hs', ht'⟩ := sorted_block hb n us' os (by rw [h5]; omega)
  have hap : us.Pairwise (fun v v' => v.ts ≠ [] → v'.ts ≠ [] → v.a ≠ v'.a) := by
    rw [List.pairwise_iff_getElem]
    intro i j hi hj hij
    exact h.apart i j _ _ (by omega) (List.getElem?_eq_getElem hi) (List.getElem?_eq_getElem hj)
  have hap' := (List.Perm.pairwise_iff (fun {x y} q a b => fun e => q b a e.symm) hp).2 hap
  rw [List.pairwise_iff_getElem] at hap'
  refine ⟨⟨by rw [flat6_len], .inr ⟨g, c, cr', rfl, h1, hb', by omega, h4, by rw [hs', h5], ht'⟩⟩, fun i v hi => ?_, fun i j v v' hne hi hj q q' => ?_, Nat.le_trans h.lo hT.size⟩
  · obtain ⟨j, hj⟩ := List.getElem?_of_mem (hp.mem_iff.1 (List.mem_of_getElem? hi))
    have ho := h.own j v hj
    refine (ho.turned hT (fun g' hg' _ _ hnz e => ?_)).wide hT.size
    rcases ho with q | ⟨g2, cur, e2, _, _, hb2, _⟩
    · exact hnz q
    · rw [hg'] at e2
      injection e2 with e2
      injection e2 with e2
      subst e2
      rw [e] at hb2
      exact ver_ne_tag (blk_one hb hb2)
  · obtain ⟨hi1, rfl⟩ := List.getElem?_eq_some_iff.1 hi
    obtain ⟨hj1, rfl⟩ := List.getElem?_eq_some_iff.1 hj
    rcases Nat.lt_or_gt_of_ne hne with hlt | hlt
    · exact hap' i j hi1 hj1 hlt q q'
    · exact fun e => hap' j i hj1 hi1 hlt q' q e.symm
set_option maxHeartbeats 2000000 in
theorem sort_row (base g c : Nat) (us : List V) (w : World) (h : CRow base w (.slice (some ⟨g, 0, none⟩) us.length c) us) (h12 : us.length ≤ 12) :
    Calls Tryz.prog 62 #[.slice (some ⟨g, 0, none⟩) us.length c, .func (.func 63) #[] #[]] w fun e w' =>
      e = .returned (.tuple #[]) ∧ ∃ us', us'.Perm us ∧ us'.Pairwise (fun a b => ltV b a = false) ∧ CRow base w' (.slice (some ⟨g, 0, none⟩) us'.length c) us' ∧ Turn (fun y => y = g) w w' := by
  have hblk : g < w.heap.size := h.caps.2
  have C := Go.Proofs.AnyQ.slices_SortFunc_small_sorted sortVer 6 isAggV sizeOfV cells6 cells6_len cells6_one cfV 63 #[] swoV g 0 c us.toArray w enters_byTag (cmpLaysV g 0 _ w) (holdsK6 h) hblk (by simpa using h12) lenV
  change Calls Tryz.prog 62 _ _ _ at C
  simp only [List.size_toArray] at C
  refine C.mono ?_
  rintro e w' ⟨he, d', n, os, hp, hs, rfl⟩
  obtain ⟨us', rfl⟩ : ∃ us' : List V, d' = us'.toArray := ⟨d'.toList, by simp⟩
  have hsz : us'.length = us.length := by simpa using hp.1
  have hperm : us'.Perm us := by
    have := hp.2.2
    simp only [List.extract_toArray, List.extract_eq_take_drop, Nat.sub_zero, List.drop_zero] at this
    rw [List.take_of_length_le (by omega), List.take_of_length_le (Nat.le_refl _)] at this
    exact this
  refine ⟨he, us', hperm, ?_, h.sorted hperm, sorted_turn w g n us' os⟩
  rw [List.pairwise_iff_getElem]
  intro i j hi hj hij
  have := hs i j (Nat.zero_le _) hij (by omega)
  rw [getElem!_pos _ j (by simpa using hj), getElem!_pos _ i (by simpa using hi)] at this
  simpa using this
theorem sort_none (w : World) :
    Calls Tryz.prog 62 #[.slice none 0 0, .func (.func 63) #[] #[]] w fun e w' => e = .returned (.tuple #[]) ∧ w' = w :=
  Go.Proofs.AnyF.slices_SortFunc_none sortVer none 0 _ w
end Go.Proofs.YtjnloillcgeodaaGreat
/- Contract of the program's owed: what the next node lacks, sorted, in memory of its own. Condition: at most four nodes, each valid by itself. -/
namespace Go.Proofs.YtjnloillcgeodaaGreat
open Go.RowKit Go.Joins
attribute [local go_sem ↓] Go.wp_at_zero Go.wp_at_succ

theorem set_same {l : List V} {i : Nat} {v : V} (h : l[i]? = some v) : l.set i v = l := by
  apply List.ext_getElem?
  intro j
  by_cases e : j = i
  · subst e
    rw [List.getElem?_set_self (List.getElem?_eq_some_iff.1 h).1, h]
  · rw [List.getElem?_set_ne (fun q => e q.symm)]
theorem below_turnP {P : Nat → Prop} {n : Nat} {w wr w' : World} (h : Below n w wr) (hn : n ≤ wr.heap.size) (ht : Turn P wr w') (hP : ∀ y, P y → n ≤ y) : Below n w w' :=
  ⟨ht.os.trans h.os, ht.tape.trans h.tape, ht.output.trans h.output, Nat.le_trans h.size ht.size, fun k hk => (ht.block k (by omega) (fun q => by have := hP k q; omega)).trans (h.block k hk)⟩
/-- What a node owes the next one. -/
def owesL (us : List Nd) (k : Nat) (n : Nd) : List V := match us[k + 1]? with | some m => lackN n.ss m.ss 4 | none => []
def OwedP (w : World) (us : List Nd) (k : Nat) (n : Nd) (e : Ending) (w' : World) : Prop :=
  ∃ (A : Option Addr) (cap : Nat) (ws : List V), e = .returned (.slice A ws.length cap) ∧ LL ws (owesL us k n) ∧ CRow w.heap.size w' (.slice A ws.length cap) ws ∧ Below w.heap.size w w'
set_option maxRecDepth 100000 in
set_option maxHeartbeats 8000000 in
theorem owed_any (B L base G xc k : Nat) (us : List Nd) (n : Nd) (w : World) (hG : GRow base w (.slice (some ⟨G, 0, none⟩) us.length xc) us) (hL : LinkAt w B L (some ⟨G, 0, none⟩) G us.length xc k) (hk : us[k]? = some n) (hl : us.length ≤ 4) (hB : ∀ (i : Nat) m, us[i]? = some m → nodeB m = true) :
    Calls Tryz.prog 35 #[.pointer (some ⟨L, 0, none⟩)] w (OwedP w us k n) := by
  obtain ⟨i0, hi0, hz0, hz1, hz2⟩ := info_parts ver_info
  have I0 := hide hi0
  have I1 := hide hz0
  have I2 := hide hz1
  have I3 := hide hz2
  clear hi0 hz0 hz1 hz2
  have hkl := (List.getElem?_eq_some_iff.1 hk).1
  obtain ⟨cur, hcg⟩ := hG.cgs (by omega)
  obtain ⟨b1, b2, -, -, -, hL1, hL2, hL3⟩ := hL
  have CT := hide (next_any G us.length xc k b1 b2 w (by omega) (by omega) hL2 hL3)
  have q0 := hL1.two.1
  have q1 : w.cell? ⟨L, 1, none⟩ = some (.func (.func 61) #[] #[.pointer (some ⟨b1, 0, none⟩), .pointer (some ⟨b2, 0, none⟩)]) := hL1.at 1
  have HL1 := hide hL1
  have HCG := hide hcg
  have HK := hide hk
  have HB := hide hB
  clear hG hcg hk hB hL1 hL2 hL3
  go_enter Tryz.func35, Tryz.ntmps35
  go_wp2_with fail
  with_reducible refine CT.out.mono ?_
  rintro e w1 ⟨hE, hb1⟩
  have HE := hide hE
  have HB1 := hide hb1
  clear hE CT q0 q1
  by_cases hlt : k + 1 < us.length
  · have hq := HE.out
    rw [if_pos hlt] at hq
    obtain ⟨L', rfl, hL'⟩ := hq
    obtain ⟨_, _, _, _, _, hL1', _, _⟩ := hL'
    have HL' := hide hL1'
    clear hL1' HE
    obtain ⟨m, hm⟩ : ∃ m, us[k + 1]? = some m := ⟨_, List.getElem?_eq_getElem hlt⟩
    have HOE : Hid (owesL us k n = lackN n.ss m.ss 4) := by unfold Hid owesL; rw [hm]
    have hsn := (nodeB_parts (HB.out k n HK.out)).1
    have hsm := (nodeB_parts (HB.out (k + 1) m hm)).1
    have HSN := hide hsn
    have HSM := hide hsm
    have HN4 := hide (storeB_four hsn)
    have HM4 := hide (storeB_four hsm)
    have HC1 := hide (HCG.out.on HB1.out)
    have p0 : w1.cell? ⟨L, 0, none⟩ = some (.pointer (some ⟨G, k * 2, none⟩)) := (HL1.out.on HB1.out).two.1
    have n0 : w1.cell? ⟨G, k * 2, none⟩ = some (.slice n.sa 4 n.sc) := by rw [← HN4.out]; exact (HC1.out.blk.at _).trans (HC1.out.at' k n HK.out).1
    have M0 : Hid (cur[(k + 1) * 2]? = some (.slice m.sa 4 m.sc)) := by have := (HC1.out.at' (k + 1) m hm).1; rw [HM4.out] at this; exact this
    have HGN := hide HC1.out.blk
    obtain ⟨bn, on, hna, hbn, hxn⟩ : ∃ b off : Nat, n.sa = some ⟨b, off, none⟩ ∧ b < w1.heap.size ∧ ∀ i v, n.ss[i]? = some v → Six w1 b (off + i * 6) v ∧ Tg w1 w1.heap.size v.a v.ts := by
      rcases HC1.out.store k n HK.out with h0 | h0
      · have := HN4.out; rw [h0] at this; simp at this
      · exact h0
    obtain ⟨bm, om, hma, hbm, hxm⟩ : ∃ b off : Nat, m.sa = some ⟨b, off, none⟩ ∧ b < w1.heap.size ∧ ∀ i v, m.ss[i]? = some v → Six w1 b (off + i * 6) v ∧ Tg w1 w1.heap.size v.a v.ts := by
      rcases HC1.out.store (k + 1) m hm with h0 | h0
      · have := HM4.out; rw [h0] at this; simp at this
      · exact h0
    rw [hna] at n0
    have HXN := hide hxn
    have HXM := hide hxm
    have M1 : Hid (cur[(k + 1) * 2]? = some (.slice (some ⟨bm, om, none⟩) 4 m.sc)) := by rw [← hma]; exact M0.out
    have HTS : Hid (∀ v ∈ n.ss, v.ts.length ≤ 1048576) := fun v hv => by have := (few_store HSN.out).2 v hv; omega
    have z1 := hb1.size
    clear hm hsn hsm hxn hxm hna hma M0
    go_wp2_with fail
    go_loopw [4, 23] (fun x i wr => ∃ (j : Nat) (xs : List V), j ≤ 4 ∧ i = .int .i64 (j : Int) ∧ Hid (LL xs n.ss) ∧ Hid (CRow w1.heap.size wr x (filtL xs m.ss j)) ∧ Below w1.heap.size w1 wr) (fun _ i _ => 4 - (intOf i).toNat)
    case atStart => exact ⟨0, n.ss, Nat.zero_le _, rfl, ll_refl _, CRow.start _ w1 (Nat.le_refl _), Below.refl _ _⟩
    case round =>
      clear p0 n0
      obtain ⟨j, xs, hj, rfl, HLL, HC, hL⟩ := hrel
      by_cases hj4 : j < 4
      · obtain ⟨v, hv⟩ : ∃ v, n.ss[j]? = some v := ⟨_, List.getElem?_eq_getElem (by have := HN4.out; omega)⟩
        obtain ⟨y, hy⟩ : ∃ y, m.ss[j]? = some y := ⟨_, List.getElem?_eq_getElem (by have := HM4.out; omega)⟩
        obtain ⟨xv, hxv, hxl⟩ := ll_at (ll_symm HLL.out) hv
        have HV := hide hv
        have HY := hide hy
        have HXV := hide hxv
        have HXL := hide hxl
        obtain ⟨hSn, hTn⟩ := HXN.out j v hv
        obtain ⟨hSm, -⟩ := HXM.out j y hy
        obtain ⟨s0, s1, s2, s3, s4, s5⟩ := hSn.keep hbn fun _ hp => hL.cell hp
        have HTN := hide hTn
        have QM := hide hSm
        have hz := hL.size
        have i1 : (0 : Int) ≤ (j : Int) := by omega
        have i2 : (j : Int) < 4 := by omega
        have LA := below_alloc1 wr (.cells (verC v.k v.t v.u v.a v.ts.length v.c v.s v.g) 51)
        have B6 := Blk.made wr 51 (verC v.k v.t v.u v.a v.ts.length v.c v.s v.g)
        have LW := hL.trans (LA.mono hz)
        have HCA := hide (HC.out.on LA)
        clear hv hy hxv hxl hSn hTn hSm
        go_wp2_with fail
        clear s0 s1 s2 s3 s4 s5
        generalize hWa : wr.alloc (.cells (verC v.k v.t v.u v.a v.ts.length v.c v.s v.g) 51) = Wa at LA B6 LW HCA ⊢
        have za : Wa.heap.size = wr.heap.size + 1 := by rw [← hWa]; simp
        obtain ⟨p6, hp6⟩ : ∃ p6, p6 = wr.heap.size := ⟨_, rfl⟩
        rw [← hp6] at B6 ⊢
        have HP6 := hide hp6
        have HWA := hide hWa
        have LR := Below.refl Wa.heap.size Wa
        clear hWa hp6
        cases hb : lessB y.t y.u v.t v.u
        · have HLB := hide hb
          clear hb
          refine wp_region_noPanic ?_
          refine wp_region_held_drew (S := (fun w' => (w'.cell? ⟨L', 0, none⟩ = some (.pointer (some ⟨G, (k + 1) * 2, none⟩)) ∧ w'.cell? ⟨G, (k + 1) * 2, none⟩ = some (.slice (some ⟨bm, om, none⟩) 4 m.sc)) ∧ (w'.cell? ⟨bm, om + j * 6 + 1, none⟩ = some (.int .i64 y.t) ∧ w'.cell? ⟨bm, om + j * 6 + 2, none⟩ = some (.int .i64 y.u)) ∧ (w'.cell? ⟨p6, 1, none⟩ = some (.int .i64 v.t) ∧ w'.cell? ⟨p6, 2, none⟩ = some (.int .i64 v.u)) ∧ Below Wa.heap.size Wa w')) (by kernel_rfl) (by exact ⟨⟨((HL'.out.on LW).drew).two.1, (((HGN.out.on LW).drew).at _).trans M1.out⟩, ⟨(QM.out.keep hbm fun _ hp => LW.drew.cell hp).2.1, (QM.out.keep hbm fun _ hp => LW.drew.cell hp).2.2.1⟩, ⟨(B6.drew).at 1, (B6.drew).at 2⟩, LR.drew⟩) (fun hHeld => ?_)
          refine take_run 0 (some 28) (v := ?_) rfl rfl (by kernel_rfl) (by kernel_rfl) (by kernel_rfl) (fun _ _ _ h => h) (by rfl) ?_ hHeld ?_
          rotate_left
          · ((intro w hSw); (try dsimp only at hSw); go_simp <;> with_reducible rfl)
          simp only [Act.put, List.setIfInBounds_toArray, List.set_cons_zero, List.set_cons_succ]
          refine take_run 1 (some 29) (v := ?_) rfl rfl (by kernel_rfl) (by kernel_rfl) (by kernel_rfl) (fun _ _ _ h => h) (by rfl) ?_ hHeld ?_
          rotate_left
          · ((intro w hSw); (try dsimp only at hSw); go_simp <;> with_reducible rfl)
          simp only [Act.put, List.setIfInBounds_toArray, List.set_cons_zero, List.set_cons_succ]
          refine take_run 2 (some 30) (v := ?_) rfl rfl (by kernel_rfl) (by kernel_rfl) (by kernel_rfl) (fun _ _ _ h => h) (by rfl) ?_ hHeld ?_
          rotate_left
          · ((intro w hSw); (try dsimp only at hSw); go_simp <;> with_reducible rfl)
          simp only [Act.put, List.setIfInBounds_toArray, List.set_cons_zero, List.set_cons_succ]
          refine take_run 3 (some 31) (v := ?_) rfl rfl (by kernel_rfl) (by kernel_rfl) (by kernel_rfl) (fun _ _ _ h => h) (by rfl) ?_ hHeld ?_
          rotate_left
          · ((intro w hSw); (try dsimp only at hSw); go_simp <;> with_reducible rfl)
          simp only [Act.put, List.setIfInBounds_toArray, List.set_cons_zero, List.set_cons_succ]
          refine take_run 4 (some 32) (v := ?_) rfl rfl (by kernel_rfl) (by kernel_rfl) (by kernel_rfl) (fun _ _ _ h => h) (by rfl) ?_ hHeld ?_
          rotate_left
          · ((intro w hSw); (try dsimp only at hSw); go_simp <;> with_reducible rfl)
          simp only [Act.put, List.setIfInBounds_toArray, List.set_cons_zero, List.set_cons_succ]
          refine take_run 5 (some 33) (v := ?_) rfl rfl (by kernel_rfl) (by kernel_rfl) (by kernel_rfl) (fun _ _ _ h => h) (by rfl) ?_ hHeld ?_
          rotate_left
          · ((intro w hSw); (try dsimp only at hSw); go_simp <;> with_reducible rfl)
          simp only [Act.put, List.setIfInBounds_toArray, List.set_cons_zero, List.set_cons_succ]
          refine take_run 6 (some 34) (v := ?_) rfl rfl (by kernel_rfl) (by kernel_rfl) (by kernel_rfl) (fun _ _ _ h => h) (by rfl) ?_ hHeld ?_
          rotate_left
          · ((intro w hSw); (try dsimp only at hSw); go_simp <;> with_reducible rfl)
          simp only [Act.put, List.setIfInBounds_toArray, List.set_cons_zero, List.set_cons_succ]
          refine take_run 7 (some 35) (v := ?_) rfl rfl (by kernel_rfl) (by kernel_rfl) (by kernel_rfl) (fun _ _ _ h => h) (by rfl) ?_ hHeld ?_
          rotate_left
          · ((intro w hSw); (try dsimp only at hSw); go_simp <;> with_reducible rfl)
          simp only [Act.put, List.setIfInBounds_toArray, List.set_cons_zero, List.set_cons_succ]
          refine take_run 8 (some 36) (v := ?_) rfl rfl (by kernel_rfl) (by kernel_rfl) (by kernel_rfl) (fun _ _ _ h => h) (by rfl) ?_ hHeld ?_
          rotate_left
          · ((intro w hSw); (try dsimp only at hSw); go_simp <;> with_reducible rfl)
          simp only [Act.put, List.setIfInBounds_toArray, List.set_cons_zero, List.set_cons_succ]
          refine take_run 9 (some 37) (v := ?_) rfl rfl (by kernel_rfl) (by kernel_rfl) (by kernel_rfl) (fun _ _ _ h => h) (by rfl) ?_ hHeld ?_
          rotate_left
          · ((intro w hSw); (try dsimp only at hSw); go_simp <;> with_reducible rfl)
          simp only [Act.put, List.setIfInBounds_toArray, List.set_cons_zero, List.set_cons_succ]
          refine take_run 10 (some 38) (v := ?_) rfl rfl (by kernel_rfl) (by kernel_rfl) (by kernel_rfl) (fun _ _ _ h => h) (by rfl) ?_ hHeld ?_
          rotate_left
          · ((intro w hSw); (try dsimp only at hSw); go_simp <;> with_reducible rfl)
          simp only [Act.put, List.setIfInBounds_toArray, List.set_cons_zero, List.set_cons_succ]
          refine take_run 11 (some 39) (v := ?_) rfl rfl (by kernel_rfl) (by kernel_rfl) (by kernel_rfl) (fun _ _ _ h => h) (by rfl) ?_ hHeld ?_
          rotate_left
          · ((intro w hSw); (try dsimp only at hSw); go_simp <;> with_reducible rfl)
          simp only [Act.put, List.setIfInBounds_toArray, List.set_cons_zero, List.set_cons_succ]
          refine take_run 12 (some 40) (v := ?_) rfl rfl (by kernel_rfl) (by kernel_rfl) (by kernel_rfl) (fun _ _ _ h => h) (by rfl) ?_ hHeld ?_
          rotate_left
          · ((intro w hSw); (try dsimp only at hSw); go_simp <;> with_reducible rfl)
          simp only [Act.put, List.setIfInBounds_toArray, List.set_cons_zero, List.set_cons_succ]
          refine take_run 13 (some 41) (v := ?_) rfl rfl (by kernel_rfl) (by kernel_rfl) (by kernel_rfl) (fun _ _ _ h => h) (by rfl) ?_ hHeld ?_
          rotate_left
          · ((intro w hSw); (try dsimp only at hSw); go_simp <;> with_reducible rfl)
          simp only [Act.put, List.setIfInBounds_toArray, List.set_cons_zero, List.set_cons_succ]
          refine take_one 14 (by kernel_rfl) rfl (fun K hK => ?_)
          go_simp
          (refine (less_any _ _ _ _ _).mono ?_; rintro e w8 ⟨rfl, hb⟩; rw [HLB.out]; have LX := hHeld.2.2.2.trans (hb.mono hHeld.2.2.2.size))
          try go_wp2_with fail
          refine hK.out _ _ (by exact ⟨⟨((HL'.out.on LW).on LX).two.1, (((HGN.out.on LW).on LX).at _).trans M1.out⟩, ⟨(QM.out.keep hbm fun _ hp => (LW.trans (LX.mono LW.size)).cell hp).2.1, (QM.out.keep hbm fun _ hp => (LW.trans (LX.mono LW.size)).cell hp).2.2.1⟩, ⟨(B6.on LX).at 1, (B6.on LX).at 2⟩, LX⟩) (fun hHeld => ?_)
          clear hK K
          refine wpAnyH_done (by kernel_rfl) ?_ _
          refine NoPanic.normal ?_
          have LY := LW.trans (hHeld.2.2.2.mono LW.size)
          have HC8 := hide (HCA.out.on hHeld.2.2.2)
          have hff : filtL xs m.ss (j + 1) = filtL xs m.ss j := filtL_not HXV.out HY.out (by rw [← HXL.out.2.1, ← HXL.out.2.2.1]; exact HLB.out)
          clear hHeld LX
          go_wp2
          exact ⟨⟨j + 1, xs, by omega, by go_num, HLL, by rw [hff]; exact HC8.out, LY⟩, by simp [intOf]; omega⟩
        · have HLB := hide hb
          clear hb
          refine wp_region_noPanic ?_
          refine wp_region_held_drew (S := (fun w' => (w'.cell? ⟨L', 0, none⟩ = some (.pointer (some ⟨G, (k + 1) * 2, none⟩)) ∧ w'.cell? ⟨G, (k + 1) * 2, none⟩ = some (.slice (some ⟨bm, om, none⟩) 4 m.sc)) ∧ (w'.cell? ⟨bm, om + j * 6 + 1, none⟩ = some (.int .i64 y.t) ∧ w'.cell? ⟨bm, om + j * 6 + 2, none⟩ = some (.int .i64 y.u)) ∧ (w'.cell? ⟨p6, 1, none⟩ = some (.int .i64 v.t) ∧ w'.cell? ⟨p6, 2, none⟩ = some (.int .i64 v.u)) ∧ Below Wa.heap.size Wa w')) (by kernel_rfl) (by exact ⟨⟨((HL'.out.on LW).drew).two.1, (((HGN.out.on LW).drew).at _).trans M1.out⟩, ⟨(QM.out.keep hbm fun _ hp => LW.drew.cell hp).2.1, (QM.out.keep hbm fun _ hp => LW.drew.cell hp).2.2.1⟩, ⟨(B6.drew).at 1, (B6.drew).at 2⟩, LR.drew⟩) (fun hHeld => ?_)
          refine take_run 0 (some 28) (v := ?_) rfl rfl (by kernel_rfl) (by kernel_rfl) (by kernel_rfl) (fun _ _ _ h => h) (by rfl) ?_ hHeld ?_
          rotate_left
          · ((intro w hSw); (try dsimp only at hSw); go_simp <;> with_reducible rfl)
          simp only [Act.put, List.setIfInBounds_toArray, List.set_cons_zero, List.set_cons_succ]
          refine take_run 1 (some 29) (v := ?_) rfl rfl (by kernel_rfl) (by kernel_rfl) (by kernel_rfl) (fun _ _ _ h => h) (by rfl) ?_ hHeld ?_
          rotate_left
          · ((intro w hSw); (try dsimp only at hSw); go_simp <;> with_reducible rfl)
          simp only [Act.put, List.setIfInBounds_toArray, List.set_cons_zero, List.set_cons_succ]
          refine take_run 2 (some 30) (v := ?_) rfl rfl (by kernel_rfl) (by kernel_rfl) (by kernel_rfl) (fun _ _ _ h => h) (by rfl) ?_ hHeld ?_
          rotate_left
          · ((intro w hSw); (try dsimp only at hSw); go_simp <;> with_reducible rfl)
          simp only [Act.put, List.setIfInBounds_toArray, List.set_cons_zero, List.set_cons_succ]
          refine take_run 3 (some 31) (v := ?_) rfl rfl (by kernel_rfl) (by kernel_rfl) (by kernel_rfl) (fun _ _ _ h => h) (by rfl) ?_ hHeld ?_
          rotate_left
          · ((intro w hSw); (try dsimp only at hSw); go_simp <;> with_reducible rfl)
          simp only [Act.put, List.setIfInBounds_toArray, List.set_cons_zero, List.set_cons_succ]
          refine take_run 4 (some 32) (v := ?_) rfl rfl (by kernel_rfl) (by kernel_rfl) (by kernel_rfl) (fun _ _ _ h => h) (by rfl) ?_ hHeld ?_
          rotate_left
          · ((intro w hSw); (try dsimp only at hSw); go_simp <;> with_reducible rfl)
          simp only [Act.put, List.setIfInBounds_toArray, List.set_cons_zero, List.set_cons_succ]
          refine take_run 5 (some 33) (v := ?_) rfl rfl (by kernel_rfl) (by kernel_rfl) (by kernel_rfl) (fun _ _ _ h => h) (by rfl) ?_ hHeld ?_
          rotate_left
          · ((intro w hSw); (try dsimp only at hSw); go_simp <;> with_reducible rfl)
          simp only [Act.put, List.setIfInBounds_toArray, List.set_cons_zero, List.set_cons_succ]
          refine take_run 6 (some 34) (v := ?_) rfl rfl (by kernel_rfl) (by kernel_rfl) (by kernel_rfl) (fun _ _ _ h => h) (by rfl) ?_ hHeld ?_
          rotate_left
          · ((intro w hSw); (try dsimp only at hSw); go_simp <;> with_reducible rfl)
          simp only [Act.put, List.setIfInBounds_toArray, List.set_cons_zero, List.set_cons_succ]
          refine take_run 7 (some 35) (v := ?_) rfl rfl (by kernel_rfl) (by kernel_rfl) (by kernel_rfl) (fun _ _ _ h => h) (by rfl) ?_ hHeld ?_
          rotate_left
          · ((intro w hSw); (try dsimp only at hSw); go_simp <;> with_reducible rfl)
          simp only [Act.put, List.setIfInBounds_toArray, List.set_cons_zero, List.set_cons_succ]
          refine take_run 8 (some 36) (v := ?_) rfl rfl (by kernel_rfl) (by kernel_rfl) (by kernel_rfl) (fun _ _ _ h => h) (by rfl) ?_ hHeld ?_
          rotate_left
          · ((intro w hSw); (try dsimp only at hSw); go_simp <;> with_reducible rfl)
          simp only [Act.put, List.setIfInBounds_toArray, List.set_cons_zero, List.set_cons_succ]
          refine take_run 9 (some 37) (v := ?_) rfl rfl (by kernel_rfl) (by kernel_rfl) (by kernel_rfl) (fun _ _ _ h => h) (by rfl) ?_ hHeld ?_
          rotate_left
          · ((intro w hSw); (try dsimp only at hSw); go_simp <;> with_reducible rfl)
          simp only [Act.put, List.setIfInBounds_toArray, List.set_cons_zero, List.set_cons_succ]
          refine take_run 10 (some 38) (v := ?_) rfl rfl (by kernel_rfl) (by kernel_rfl) (by kernel_rfl) (fun _ _ _ h => h) (by rfl) ?_ hHeld ?_
          rotate_left
          · ((intro w hSw); (try dsimp only at hSw); go_simp <;> with_reducible rfl)
          simp only [Act.put, List.setIfInBounds_toArray, List.set_cons_zero, List.set_cons_succ]
          refine take_run 11 (some 39) (v := ?_) rfl rfl (by kernel_rfl) (by kernel_rfl) (by kernel_rfl) (fun _ _ _ h => h) (by rfl) ?_ hHeld ?_
          rotate_left
          · ((intro w hSw); (try dsimp only at hSw); go_simp <;> with_reducible rfl)
          simp only [Act.put, List.setIfInBounds_toArray, List.set_cons_zero, List.set_cons_succ]
          refine take_run 12 (some 40) (v := ?_) rfl rfl (by kernel_rfl) (by kernel_rfl) (by kernel_rfl) (fun _ _ _ h => h) (by rfl) ?_ hHeld ?_
          rotate_left
          · ((intro w hSw); (try dsimp only at hSw); go_simp <;> with_reducible rfl)
          simp only [Act.put, List.setIfInBounds_toArray, List.set_cons_zero, List.set_cons_succ]
          refine take_run 13 (some 41) (v := ?_) rfl rfl (by kernel_rfl) (by kernel_rfl) (by kernel_rfl) (fun _ _ _ h => h) (by rfl) ?_ hHeld ?_
          rotate_left
          · ((intro w hSw); (try dsimp only at hSw); go_simp <;> with_reducible rfl)
          simp only [Act.put, List.setIfInBounds_toArray, List.set_cons_zero, List.set_cons_succ]
          refine take_one 14 (by kernel_rfl) rfl (fun K hK => ?_)
          go_simp
          (refine (less_any _ _ _ _ _).mono ?_; rintro e w8 ⟨rfl, hb⟩; rw [HLB.out]; have LX := hHeld.2.2.2.trans (hb.mono hHeld.2.2.2.size))
          try go_wp2_with fail
          refine hK.out _ _ (by exact ⟨⟨((HL'.out.on LW).on LX).two.1, (((HGN.out.on LW).on LX).at _).trans M1.out⟩, ⟨(QM.out.keep hbm fun _ hp => (LW.trans (LX.mono LW.size)).cell hp).2.1, (QM.out.keep hbm fun _ hp => (LW.trans (LX.mono LW.size)).cell hp).2.2.1⟩, ⟨(B6.on LX).at 1, (B6.on LX).at 2⟩, LX⟩) (fun hHeld => ?_)
          clear hK K
          refine wpAnyH_done (by kernel_rfl) ?_ _
          refine NoPanic.normal ?_
          have LX := hHeld.2.2.2
          have LY := LW.trans (LX.mono LW.size)
          have k6 := (B6.on LX).six.1
          have HC8 := hide (HCA.out.on LX)
          have zx := LX.size
          have HTV := hide ((HTN.out.on LY).up LY.size)
          have HB8 := hide (HTS.out v (List.mem_of_getElem? HV.out))
          clear hHeld
          go_wp2_with fail
          refine (clone_any v w8 HB8.out HTV.out).mono ?_
          rintro e w9 ⟨v', rfl, hlike, hown, hb9⟩
          have HLI := hide hlike
          have HOW := hide hown
          have HB9 := hide hb9
          have z9 := hb9.size
          have CR := HC8.out.on hb9
          obtain ⟨q, hq⟩ : ∃ q, q = (filtL xs m.ss j).length := ⟨_, rfl⟩
          have hq4 : q ≤ j := by rw [hq]; exact filtL_len _ _ _
          have HR := hide (show w9.ownsRow w1.heap.size 51 6 u4 q (flat6 (filtL xs m.ss j)) by have := CR.row; rw [← hq] at this; exact this)
          have HQ := hide hq
          clear hlike hown hb9 CR k6 hq
          go_wp2_with (at_builtin; (refine wpList_append_lies _ rfl (.tmp 43) (.tmp 46) 33 rfl w1.heap.size 51 i0 _ 6 72 Tryz.underlying33 I0.out I1.out I2.out I3.out rfl (by omega) u4 q (flat6 (filtL xs m.ss j)) rfl (HR.out.alloc _) ⟨w9.heap.size, 0, none⟩ 1 1 (cells6 v') rfl rfl (World.news_of_block (cs := verC v'.k v'.t v'.u v'.a v'.ts.length v'.c v'.s v'.g) (by simpa using heap_alloc_new w9 (.cells (verC v'.k v'.t v'.u v'.a v'.ts.length v'.c v'.s v'.g) 51))) (by simp [cells6, Value.oneCell']) (by omega) (by unfold maxLen; omega) (by omega) (by simp; omega) _ rfl ?_; intro g2 cap2 w10 hown2 hgrow hat hlt2; have OW := hide hown2; have GW := hide hgrow; clear hown2 hgrow hat))
          have hp := HC8.out.push (w1 := w9.alloc (.cells (verC v'.k v'.t v'.u v'.a v'.ts.length v'.c v'.s v'.g) 51)) (B := w8.heap.size) (v := v') (g := g2) (cap := cap2) (w2 := w10) (HB9.out.trans ((below_alloc1 w9 _).mono z9)) (Nat.le_refl _) ((HOW.out.on (below_alloc1 w9 _)).wide (by simp)) (by rw [← HQ.out]; exact OW.out) GW.out
          have hff : filtL (xs.set j v') m.ss (j + 1) = filtL xs m.ss j ++ [v'] := by
            rw [filtL_yes (x := v') (List.getElem?_set_self (List.getElem?_eq_some_iff.1 HXV.out).1) HY.out (by rw [HLI.out.2.1, HLI.out.2.2.1]; exact HLB.out), filtL_set j (Nat.le_refl _)]
          have hll : LL (xs.set j v') n.ss := by
            have := ll_set HLL.out HLI.out j
            rw [set_same HV.out] at this
            exact this
          have LZ := ((LY.trans (HB9.out.mono LY.size)).alloc (by omega) (.cells (verC v'.k v'.t v'.u v'.a v'.ts.length v'.c v'.s v'.g) 51)).grown GW.out (by simp; omega) (fun r hr => (HC8.out.typed r hr).elim fun _ h => h.2.1)
          rw [← HQ.out] at hp
          exact ⟨⟨j + 1, xs.set j v', by omega, by go_num, hll, by rw [hff]; exact hp, LZ⟩, by simp [intOf]; omega⟩
      · have hj4' : j = 4 := by omega
        subst hj4'
        clear hj4 hj
        have hst : storeB xs = true := by rw [storeB_like HLL.out.1 HLL.out.2]; exact HSN.out
        have HUQ : Hid (∀ us', us'.Perm (filtL xs m.ss 4) → us'.Pairwise (fun a b => ltV b a = false) → LL us' (owesL us k n)) := fun us' h1 h2 => by
          rw [HOE.out, lack_unique hst HSM.out h1 h2]
          exact lackN_like HLL.out (ll_refl _) 4
        have HL := hide (HB1.out.trans (hL.mono z1))
        have zl := hL.size
        clear hst hL
        rcases HC.out.row.2 with ⟨e0, h0⟩ | ⟨g, cap, cr, e0, -⟩
        · have hnil := List.length_eq_zero_iff.1 h0
          subst e0
          clear h0
          go_wp2_with fail
          refine (sort_none wr).mono ?_
          rintro e w2 ⟨rfl, rfl⟩
          go_wp2
          go_ret
          exact ⟨none, 0, [], rfl, HUQ.out [] (by rw [hnil]) List.Pairwise.nil, CRow.start _ _ (Nat.le_trans z1 zl), HL.out⟩
        · subst e0
          have CS := hide (sort_row w1.heap.size g cap (filtL xs m.ss 4) wr HC.out (by have := filtL_len xs m.ss 4; omega))
          have hgl := hide (HC.out.typed g rfl)
          go_wp2_with fail
          refine CS.out.mono ?_
          rintro e w2 ⟨rfl, us', hp, hs, hc2, hT2⟩
          have hle := hp.length_eq
          have HP2 := hide hp
          have HS2 := hide hs
          have HT2 := hide hT2
          have HC2 := hide (hc2.down z1)
          obtain ⟨q, hq⟩ : ∃ q, q = (filtL xs m.ss 4).length := ⟨_, rfl⟩
          rw [← hq] at hle ⊢
          have HLE := hide hle
          clear hp hs hc2 hT2 CS hq hle
          go_wp2
          go_ret
          refine ⟨some ⟨g, 0, none⟩, cap, us', by rw [HLE.out]; rfl, HUQ.out us' HP2.out HS2.out, HC2.out, below_turnP HL.out (Nat.le_trans z1 zl) HT2.out (fun y e => ?_)⟩
          obtain ⟨_, _, h1, _⟩ := hgl.out
          omega
  · have hq := HE.out
    rw [if_neg hlt] at hq
    subst hq
    have HOE : Hid (owesL us k n = []) := by unfold Hid owesL; rw [List.getElem?_eq_none (by omega)]
    clear HE hlt hb1
    go_wp2
    go_ret
    exact ⟨none, 0, [], rfl, by rw [HOE.out]; exact ll_refl _, CRow.start _ _ HB1.out.size, HB1.out⟩
end Go.Proofs.YtjnloillcgeodaaGreat
