/- Contracts of the functions that let a version into a row, if it is later, of program and model. Condition: a row of four, a key from 0 to 3. -/
import Derived.Test.YtjnloillcgeodaaJStoreTags
namespace Go.Proofs.Ytjnloillcgeodaa
open Go.RowKit Go.Joins
attribute [local go_sem ↓] Go.wp_at_zero Go.wp_at_succ

/-- A row with a version, if that is later. -/
def keepL (us : List V) (v : V) : List V := match us[v.k.toNat]? with | some x => if lessB x.t x.u v.t v.u = true then us.set v.k.toNat v else us | none => us
theorem keepL_len (us : List V) (v : V) : (keepL us v).length = us.length := by
  unfold keepL
  split
  · split <;> simp
  · rfl
theorem keepL_yes {us : List V} {v x : V} (hx : us[v.k.toNat]? = some x) (h : lessB x.t x.u v.t v.u = true) : keepL us v = us.set v.k.toNat v := by unfold keepL; rw [hx]; simp [h]
theorem keepL_no {us : List V} {v x : V} (hx : us[v.k.toNat]? = some x) (h : lessB x.t x.u v.t v.u = false) : keepL us v = us := by unfold keepL; rw [hx]; simp [h]
theorem like_refl (us : List V) : Like us us := fun i v v' h h' => by
  rw [h] at h'
  injection h' with h'
  subst h'
  exact ⟨rfl, rfl, rfl, rfl, rfl, rfl⟩
theorem like_set {us : List V} {j : Nat} {v v' : V} (h : V.like v' v) : Like (us.set j v') (us.set j v) := fun i x y hx hy => by
  by_cases e : i = j
  · subst e
    have hl := (List.getElem?_eq_some_iff.1 hx).1
    rw [List.length_set] at hl
    rw [List.getElem?_set_self hl] at hx hy
    injection hx with hx
    injection hy with hy
    subst hx hy
    exact h
  · rw [List.getElem?_set_ne (fun e' => e e'.symm)] at hx hy
    exact like_refl us i x y hx hy
/-- One version of a row put in the place of another. -/
theorem ORow.put6 {w : World} {B U G j : Nat} {us : List V} {cur : Array Value} {v : V} (h : ORow w B U G us cur) (hj : j < us.length) (ho : Own1 w B U v) (hap : ∀ (i : Nat) x, i ≠ j → us[i]? = some x → x.ts ≠ [] → v.ts ≠ [] → x.a ≠ v.a) (hG : v.ts ≠ [] → v.a ≠ some ⟨G, 0, none⟩) :
    ORow ((((((w.setCell ⟨G, j * 6, none⟩ (.int .i64 v.k)).setCell ⟨G, j * 6 + 1, none⟩ (.int .i64 v.t)).setCell ⟨G, j * 6 + 2, none⟩ (.int .i64 v.u)).setCell ⟨G, j * 6 + 3, none⟩ (.slice v.a v.ts.length v.c)).setCell ⟨G, j * 6 + 4, none⟩ (.string v.s)).setCell ⟨G, j * 6 + 5, none⟩ (.bool v.g)) B U G (us.set j v) (put6 cur j v) ∧
    Turn (fun g => g = G) w ((((((w.setCell ⟨G, j * 6, none⟩ (.int .i64 v.k)).setCell ⟨G, j * 6 + 1, none⟩ (.int .i64 v.t)).setCell ⟨G, j * 6 + 2, none⟩ (.int .i64 v.u)).setCell ⟨G, j * 6 + 3, none⟩ (.slice v.a v.ts.length v.c)).setCell ⟨G, j * 6 + 4, none⟩ (.string v.s)).setCell ⟨G, j * 6 + 5, none⟩ (.bool v.g)) := by
  have ht : Turn (fun g => g = G) w ((((((w.setCell ⟨G, j * 6, none⟩ (.int .i64 v.k)).setCell ⟨G, j * 6 + 1, none⟩ (.int .i64 v.t)).setCell ⟨G, j * 6 + 2, none⟩ (.int .i64 v.u)).setCell ⟨G, j * 6 + 3, none⟩ (.slice v.a v.ts.length v.c)).setCell ⟨G, j * 6 + 4, none⟩ (.string v.s)).setCell ⟨G, j * 6 + 5, none⟩ (.bool v.g)) :=
    ((((((Turn.refl (fun g => g = G) w).set (p := ⟨G, j * 6, none⟩) rfl _).set (p := ⟨G, j * 6 + 1, none⟩) rfl _).set (p := ⟨G, j * 6 + 2, none⟩) rfl _).set (p := ⟨G, j * 6 + 3, none⟩) rfl _).set (p := ⟨G, j * 6 + 4, none⟩) rfl _).set (p := ⟨G, j * 6 + 5, none⟩) rfl _
  have hs : j * 6 + 5 < cur.size := by have := h.size; omega
  have hget : ∀ (i : Nat) x, (us.set j v)[i]? = some x → (i = j ∧ x = v) ∨ (i ≠ j ∧ us[i]? = some x) := by
    intro i x hx
    by_cases e : i = j
    · subst e
      rw [List.getElem?_set_self hj] at hx
      injection hx with hx
      exact .inl ⟨rfl, hx.symm⟩
    · rw [List.getElem?_set_ne (fun e' => e e'.symm)] at hx
      exact .inr ⟨e, hx⟩
  refine ⟨⟨(((((h.blk.put _ _).put _ _).put _ _).put _ _).put _ _).put _ _, h.lo, h.hi, by simpa using h.size, fun i x hx => ?_, fun i x hx => ?_, fun i i' x y hne hx hy hn hn' => ?_⟩, ht⟩
  · rcases hget i x hx with ⟨rfl, rfl⟩ | ⟨e, hq⟩
    · exact verAt_put hs
    · exact verAt_other e (h.at' i x hq)
  · rcases hget i x hx with ⟨rfl, rfl⟩ | ⟨e, hq⟩
    · exact ho.turned ht (fun g hg _ _ hne e => hG hne (by rw [hg, e]))
    · exact (h.own i x hq).turned ht (fun g hg _ _ hne e => h.apartG hq hne hg e)
  · rcases hget i x hx with ⟨e1, e2⟩ | ⟨e, hq⟩ <;> rcases hget i' y hy with ⟨e3, e4⟩ | ⟨e', hq'⟩
    · omega
    · subst e1; rw [e2]; exact fun e => hap i' y e' hq' hn' (e2 ▸ hn) e.symm
    · subst e3; rw [e4]; exact hap i x e hq hn (e4 ▸ hn')
    · exact h.apart i i' x y hne hq hq' hn hn'
theorem ORow.aside {w : World} {B U G : Nat} {us : List V} {cur : Array Value} (h : ORow w B U G us cur) {p : Addr} {T : TypeId} {cs : Array Value} (hb : Blk w p.block T cs) (hT : T ≠ 27) (hp : G ≠ p.block) (u : Value) : ORow (w.setCell p u) B U G us cur :=
  ⟨h.blk.aside hp u, h.lo, h.hi, h.size, h.at', fun i v hi => (h.own i v hi).tk (.set hb hT u), h.apart⟩
theorem Turn.far {P : Nat → Prop} {w w' : World} (h : Turn P w w') {p : Addr} (hp : w.heap.size ≤ p.block) (u : Value) : Turn P w (w'.setCell p u) :=
  ⟨h.os, h.tape, h.output, by simpa [World.setCell] using h.size, fun k hk hn => (Below.heap_setCell w' p u k (by omega)).trans (h.block k hk hn)⟩
/-- What letting a version in leaves. -/
def KeptL (w : World) (B G : Nat) (us : List V) (v : V) (x : Value) (e : Ending) (w' : World) : Prop :=
  ∃ (us' : List V) (cur' : Array Value), e = .returned x ∧ us'.length = us.length ∧ Like us' (keepL us v) ∧ ORow w' B w'.heap.size G us' cur' ∧ Turn (fun g => g = G) w w'

set_option maxRecDepth 100000 in
set_option maxHeartbeats 1000000 in
theorem keepLater_any (B U G cx : Nat) (us : List V) (cur : Array Value) (v : V) (kn : Nat) (w : World) (hR : ORow w B U G us cur) (hU : U ≤ w.heap.size) (h4 : us.length = 4) (hk : v.k = (kn : Int)) (hk4 : kn < 4) (hn : v.ts.length ≤ 1048576) (ht : Tg w w.heap.size v.a v.ts) :
    Calls Try.prog 48 #[.slice (some ⟨G, 0, none⟩) 4 cx, .agg (verC v.k v.t v.u v.a v.ts.length v.c v.s v.g)] w (KeptL w B G us v (.slice (some ⟨G, 0, none⟩) 4 cx)) := by
  obtain ⟨y, hy⟩ : ∃ y, us[kn]? = some y := ⟨_, List.getElem?_eq_getElem (by omega)⟩
  have hkt : v.k.toNat = kn := by rw [hk]; simp
  have HY := hide hy
  obtain ⟨vk, vt, vu, va, vc, vts, vs, vg⟩ := v
  simp only at hk hkt hn ht ⊢
  subst hk
  have CLA : ∀ W : World, Below w.heap.size w W → Calls Try.prog 72 #[.agg (verC (kn : Int) vt vu va vts.length vc vs vg)] W (Cloned W ⟨(kn : Int), vt, vu, va, vc, vts, vs, vg⟩) := fun W hb => clone_any ⟨(kn : Int), vt, vu, va, vc, vts, vs, vg⟩ W hn ((ht.on hb).up hb.size)
  have HCL := hide CLA
  clear CLA
  have S0 := (Inv.start w).box 32 (verC (kn : Int) vt vu va vts.length vc vs vg)
  simp only [World.size_alloc] at S0
  have HR0 := hide (hR.on S0.below)
  obtain ⟨g0, g1, g2, g3, g4, g5⟩ := HR0.out.at' kn y hy
  have c0 := (HR0.out.blk.at (kn * 6)).trans g0
  have c1 := (HR0.out.blk.at (kn * 6 + 1)).trans g1
  have c2 := (HR0.out.blk.at (kn * 6 + 2)).trans g2
  have C1 := hide c1
  have C2 := hide c2
  have hGl := hR.hi
  have HRW := hide hR
  have i1 : (0 : Int) ≤ (kn : Int) := by omega
  have i2 : (kn : Int) < 4 := by omega
  clear g0 g1 g2 g3 g4 g5 hy c0 c1 c2 ht hR hkt
  cases hless : lessB y.t y.u vt vu
  · have HL := hide hless
    clear hless
    go_enter Try.func48, Try.ntmps48
    go_wp2_with fail
    generalize w.alloc (.cells (verC (kn : Int) vt vu va vts.length vc vs vg) 32) = W0 at S0 HR0 C1 C2 ⊢
    refine wp_region_noPanic ?_
    refine wp_region_held_drew (S := (fun w' => (w'.cell? ⟨G, kn * 6 + 1, none⟩ = some (.int .i64 y.t) ∧ w'.cell? ⟨G, kn * 6 + 2, none⟩ = some (.int .i64 y.u)) ∧ (w'.cell? ⟨w.heap.size, 0, none⟩ = some (.int .i64 (kn : Int)) ∧ w'.cell? ⟨w.heap.size, 1, none⟩ = some (.int .i64 vt) ∧ w'.cell? ⟨w.heap.size, 2, none⟩ = some (.int .i64 vu)) ∧ Inv w (w.heap.size + 1) [(w.heap.size, 32, (verC (kn : Int) vt vu va vts.length vc vs vg))] w')) (by kernel_rfl) (by exact ⟨⟨C1.out, C2.out⟩, ⟨(S0.drew.nth 0 rfl).at 0, (S0.drew.nth 0 rfl).at 1, (S0.drew.nth 0 rfl).at 2⟩, S0.drew⟩) (fun hHeld => ?_)
    refine take_run 0 (some 5) (v := ?_) rfl rfl (by kernel_rfl) (by kernel_rfl) (by kernel_rfl) (fun _ _ _ h => h) (by rfl) ?_ hHeld ?_
    rotate_left
    · ((intro w hSw); (try dsimp only at hSw); go_simp <;> with_reducible rfl)
    simp only [Act.put, List.setIfInBounds_toArray, List.set_cons_zero, List.set_cons_succ]
    refine take_run 1 (some 6) (v := ?_) rfl rfl (by kernel_rfl) (by kernel_rfl) (by kernel_rfl) (fun _ _ _ h => h) (by rfl) ?_ hHeld ?_
    rotate_left
    · ((intro w hSw); (try dsimp only at hSw); go_simp <;> with_reducible rfl)
    simp only [Act.put, List.setIfInBounds_toArray, List.set_cons_zero, List.set_cons_succ]
    refine take_run 2 (some 7) (v := ?_) rfl rfl (by kernel_rfl) (by kernel_rfl) (by kernel_rfl) (fun _ _ _ h => h) (by rfl) ?_ hHeld ?_
    rotate_left
    · ((intro w hSw); (try dsimp only at hSw); go_simp <;> with_reducible rfl)
    simp only [Act.put, List.setIfInBounds_toArray, List.set_cons_zero, List.set_cons_succ]
    refine take_run 3 (some 8) (v := ?_) rfl rfl (by kernel_rfl) (by kernel_rfl) (by kernel_rfl) (fun _ _ _ h => h) (by rfl) ?_ hHeld ?_
    rotate_left
    · ((intro w hSw); (try dsimp only at hSw); go_simp <;> with_reducible rfl)
    simp only [Act.put, List.setIfInBounds_toArray, List.set_cons_zero, List.set_cons_succ]
    refine take_run 4 (some 9) (v := ?_) rfl rfl (by kernel_rfl) (by kernel_rfl) (by kernel_rfl) (fun _ _ _ h => h) (by rfl) ?_ hHeld ?_
    rotate_left
    · ((intro w hSw); (try dsimp only at hSw); go_simp <;> with_reducible rfl)
    simp only [Act.put, List.setIfInBounds_toArray, List.set_cons_zero, List.set_cons_succ]
    refine take_run 5 (some 10) (v := ?_) rfl rfl (by kernel_rfl) (by kernel_rfl) (by kernel_rfl) (fun _ _ _ h => h) (by rfl) ?_ hHeld ?_
    rotate_left
    · ((intro w hSw); (try dsimp only at hSw); go_simp <;> with_reducible rfl)
    simp only [Act.put, List.setIfInBounds_toArray, List.set_cons_zero, List.set_cons_succ]
    refine take_run 6 (some 11) (v := ?_) rfl rfl (by kernel_rfl) (by kernel_rfl) (by kernel_rfl) (fun _ _ _ h => h) (by rfl) ?_ hHeld ?_
    rotate_left
    · ((intro w hSw); (try dsimp only at hSw); go_simp <;> with_reducible rfl)
    simp only [Act.put, List.setIfInBounds_toArray, List.set_cons_zero, List.set_cons_succ]
    refine take_run 7 (some 12) (v := ?_) rfl rfl (by kernel_rfl) (by kernel_rfl) (by kernel_rfl) (fun _ _ _ h => h) (by rfl) ?_ hHeld ?_
    rotate_left
    · ((intro w hSw); (try dsimp only at hSw); go_simp <;> with_reducible rfl)
    simp only [Act.put, List.setIfInBounds_toArray, List.set_cons_zero, List.set_cons_succ]
    refine take_one 8 (by kernel_rfl) rfl (fun K hK => ?_)
    go_simp
    ((with_reducible refine (less_any y.t y.u vt vu _).mono ?_); rintro e w1 ⟨rfl, hb1⟩; have HR1 := hide (HRW.out.on (hHeld.2.2.on hb1).below); have tc := HR1.out.at' kn y HY.out)
    try go_wp2_with fail
    refine hK.out _ _ (by exact ⟨⟨(HR1.out.blk.at (kn * 6 + 1)).trans tc.2.1, (HR1.out.blk.at (kn * 6 + 2)).trans tc.2.2.1⟩, ⟨((hHeld.2.2.on hb1).nth 0 rfl).at 0, ((hHeld.2.2.on hb1).nth 0 rfl).at 1, ((hHeld.2.2.on hb1).nth 0 rfl).at 2⟩, hHeld.2.2.on hb1⟩) (fun hHeld => ?_)
    clear hK K
    refine wpAnyH_done (by kernel_rfl) ?_ _
    refine NoPanic.normal ?_
    have S1 := hHeld.2.2
    clear hHeld S0 HR0 C1 C2 tc
    rw [HL.out]
    skip
    go_wp2
    go_ret
    exact ⟨us, cur, rfl, rfl, by rw [keepL_no (by simpa using HY.out) HL.out]; exact like_refl us, HR1.out.wide (by have := S1.base; omega), ⟨S1.below.os, S1.below.tape, S1.below.output, S1.below.size, fun i hi _ => S1.below.block i hi⟩⟩
  · have HL := hide hless
    clear hless
    go_enter Try.func48, Try.ntmps48
    go_wp2_with fail
    generalize w.alloc (.cells (verC (kn : Int) vt vu va vts.length vc vs vg) 32) = W0 at S0 HR0 C1 C2 ⊢
    refine wp_region_noPanic ?_
    refine wp_region_held_drew (S := (fun w' => (w'.cell? ⟨G, kn * 6 + 1, none⟩ = some (.int .i64 y.t) ∧ w'.cell? ⟨G, kn * 6 + 2, none⟩ = some (.int .i64 y.u)) ∧ (w'.cell? ⟨w.heap.size, 0, none⟩ = some (.int .i64 (kn : Int)) ∧ w'.cell? ⟨w.heap.size, 1, none⟩ = some (.int .i64 vt) ∧ w'.cell? ⟨w.heap.size, 2, none⟩ = some (.int .i64 vu)) ∧ Inv w (w.heap.size + 1) [(w.heap.size, 32, (verC (kn : Int) vt vu va vts.length vc vs vg))] w')) (by kernel_rfl) (by exact ⟨⟨C1.out, C2.out⟩, ⟨(S0.drew.nth 0 rfl).at 0, (S0.drew.nth 0 rfl).at 1, (S0.drew.nth 0 rfl).at 2⟩, S0.drew⟩) (fun hHeld => ?_)
    refine take_run 0 (some 5) (v := ?_) rfl rfl (by kernel_rfl) (by kernel_rfl) (by kernel_rfl) (fun _ _ _ h => h) (by rfl) ?_ hHeld ?_
    rotate_left
    · ((intro w hSw); (try dsimp only at hSw); go_simp <;> with_reducible rfl)
    simp only [Act.put, List.setIfInBounds_toArray, List.set_cons_zero, List.set_cons_succ]
    refine take_run 1 (some 6) (v := ?_) rfl rfl (by kernel_rfl) (by kernel_rfl) (by kernel_rfl) (fun _ _ _ h => h) (by rfl) ?_ hHeld ?_
    rotate_left
    · ((intro w hSw); (try dsimp only at hSw); go_simp <;> with_reducible rfl)
    simp only [Act.put, List.setIfInBounds_toArray, List.set_cons_zero, List.set_cons_succ]
    refine take_run 2 (some 7) (v := ?_) rfl rfl (by kernel_rfl) (by kernel_rfl) (by kernel_rfl) (fun _ _ _ h => h) (by rfl) ?_ hHeld ?_
    rotate_left
    · ((intro w hSw); (try dsimp only at hSw); go_simp <;> with_reducible rfl)
    simp only [Act.put, List.setIfInBounds_toArray, List.set_cons_zero, List.set_cons_succ]
    refine take_run 3 (some 8) (v := ?_) rfl rfl (by kernel_rfl) (by kernel_rfl) (by kernel_rfl) (fun _ _ _ h => h) (by rfl) ?_ hHeld ?_
    rotate_left
    · ((intro w hSw); (try dsimp only at hSw); go_simp <;> with_reducible rfl)
    simp only [Act.put, List.setIfInBounds_toArray, List.set_cons_zero, List.set_cons_succ]
    refine take_run 4 (some 9) (v := ?_) rfl rfl (by kernel_rfl) (by kernel_rfl) (by kernel_rfl) (fun _ _ _ h => h) (by rfl) ?_ hHeld ?_
    rotate_left
    · ((intro w hSw); (try dsimp only at hSw); go_simp <;> with_reducible rfl)
    simp only [Act.put, List.setIfInBounds_toArray, List.set_cons_zero, List.set_cons_succ]
    refine take_run 5 (some 10) (v := ?_) rfl rfl (by kernel_rfl) (by kernel_rfl) (by kernel_rfl) (fun _ _ _ h => h) (by rfl) ?_ hHeld ?_
    rotate_left
    · ((intro w hSw); (try dsimp only at hSw); go_simp <;> with_reducible rfl)
    simp only [Act.put, List.setIfInBounds_toArray, List.set_cons_zero, List.set_cons_succ]
    refine take_run 6 (some 11) (v := ?_) rfl rfl (by kernel_rfl) (by kernel_rfl) (by kernel_rfl) (fun _ _ _ h => h) (by rfl) ?_ hHeld ?_
    rotate_left
    · ((intro w hSw); (try dsimp only at hSw); go_simp <;> with_reducible rfl)
    simp only [Act.put, List.setIfInBounds_toArray, List.set_cons_zero, List.set_cons_succ]
    refine take_run 7 (some 12) (v := ?_) rfl rfl (by kernel_rfl) (by kernel_rfl) (by kernel_rfl) (fun _ _ _ h => h) (by rfl) ?_ hHeld ?_
    rotate_left
    · ((intro w hSw); (try dsimp only at hSw); go_simp <;> with_reducible rfl)
    simp only [Act.put, List.setIfInBounds_toArray, List.set_cons_zero, List.set_cons_succ]
    refine take_one 8 (by kernel_rfl) rfl (fun K hK => ?_)
    go_simp
    ((with_reducible refine (less_any y.t y.u vt vu _).mono ?_); rintro e w1 ⟨rfl, hb1⟩; have HR1 := hide (HRW.out.on (hHeld.2.2.on hb1).below); have tc := HR1.out.at' kn y HY.out)
    try go_wp2_with fail
    refine hK.out _ _ (by exact ⟨⟨(HR1.out.blk.at (kn * 6 + 1)).trans tc.2.1, (HR1.out.blk.at (kn * 6 + 2)).trans tc.2.2.1⟩, ⟨((hHeld.2.2.on hb1).nth 0 rfl).at 0, ((hHeld.2.2.on hb1).nth 0 rfl).at 1, ((hHeld.2.2.on hb1).nth 0 rfl).at 2⟩, hHeld.2.2.on hb1⟩) (fun hHeld => ?_)
    clear hK K
    refine wpAnyH_done (by kernel_rfl) ?_ _
    refine NoPanic.normal ?_
    have S1 := hHeld.2.2
    clear hHeld S0 HR0 C1 C2 tc
    rw [HL.out]
    have S1' := S1.top
    have zr := S1.room
    have zb := S1.base
    go_wp2_with fail
    refine wp_region_noPanic ?_
    refine wp_region_held_drew (S := (fun w' => (w'.cell? ⟨w.heap.size, 0, none⟩ = some (.int .i64 (kn : Int)) ∧ w'.cell? ⟨w.heap.size, 1, none⟩ = some (.int .i64 vt) ∧ w'.cell? ⟨w.heap.size, 2, none⟩ = some (.int .i64 vu) ∧ w'.cell? ⟨w.heap.size, 3, none⟩ = some (.slice va vts.length vc) ∧ w'.cell? ⟨w.heap.size, 4, none⟩ = some (.string vs) ∧ w'.cell? ⟨w.heap.size, 5, none⟩ = some (.bool vg)) ∧ (Blk w' w.heap.size 32 (verC (kn : Int) vt vu va vts.length vc vs vg)) ∧ w1.heap.size ≤ w'.heap.size)) (by kernel_rfl) (by exact ⟨(S1.drew.nth 0 rfl).six.1, S1.drew.nth 0 rfl, Nat.le_refl _⟩) (fun hHeld => ?_)
    refine take_run 0 (some 14) (v := ?_) rfl rfl (by kernel_rfl) (by kernel_rfl) (by kernel_rfl) (fun _ _ _ h => h) (by rfl) ?_ hHeld ?_
    rotate_left
    · ((intro w hSw); (try dsimp only at hSw); go_simp <;> with_reducible rfl)
    simp only [Act.put, List.setIfInBounds_toArray, List.set_cons_zero, List.set_cons_succ]
    refine take_run 1 (some 15) (v := ?_) rfl rfl (by kernel_rfl) (by kernel_rfl) (by kernel_rfl) (fun _ _ _ h => h) (by rfl) ?_ hHeld ?_
    rotate_left
    · ((intro w hSw); (try dsimp only at hSw); go_simp <;> with_reducible rfl)
    simp only [Act.put, List.setIfInBounds_toArray, List.set_cons_zero, List.set_cons_succ]
    refine take_run 2 (some 16) (v := ?_) rfl rfl (by kernel_rfl) (by kernel_rfl) (by kernel_rfl) (fun _ _ _ h => h) (by rfl) ?_ hHeld ?_
    rotate_left
    · ((intro w hSw); (try dsimp only at hSw); go_simp <;> with_reducible rfl)
    simp only [Act.put, List.setIfInBounds_toArray, List.set_cons_zero, List.set_cons_succ]
    refine take_run 3 (some 17) (v := ?_) rfl rfl (by kernel_rfl) (by kernel_rfl) (by kernel_rfl) (fun _ _ _ h => h) (by rfl) ?_ hHeld ?_
    rotate_left
    · ((intro w hSw); (try dsimp only at hSw); go_simp <;> with_reducible rfl)
    simp only [Act.put, List.setIfInBounds_toArray, List.set_cons_zero, List.set_cons_succ]
    refine take_one 4 (by kernel_rfl) rfl (fun K hK => ?_)
    go_simp
    ((with_reducible refine (HCL.out _ S1.drew.below).mono ?_); rintro e w2 ⟨v', rfl, hlike, hown, hb2⟩; have HLK := hide hlike; have HOW := hide hown; have HB2 := hide hb2; have z2 : w1.heap.size ≤ w2.heap.size := hb2.size; have HR2 := hide ((HR1.out.on (Below.refl _ _).drew).on hb2); obtain ⟨e0, e1, e2, e3, e4, e5⟩ := HR2.out.at' kn y HY.out; have d0 := (HR2.out.blk.at (kn * 6)).trans e0; have d1 := (HR2.out.blk.at (kn * 6 + 1)).trans e1; have d2 := (HR2.out.blk.at (kn * 6 + 2)).trans e2; have d3 := (HR2.out.blk.at (kn * 6 + 3)).trans e3; have d4 := (HR2.out.blk.at (kn * 6 + 4)).trans e4; have d5 := (HR2.out.blk.at (kn * 6 + 5)).trans e5; have f0 := HR2.out.blk.loose (kn * 6); have f1 := HR2.out.blk.loose (kn * 6 + 1); have f2 := HR2.out.blk.loose (kn * 6 + 2); have f3 := HR2.out.blk.loose (kn * 6 + 3); have f4 := HR2.out.blk.loose (kn * 6 + 4); have f5 := HR2.out.blk.loose (kn * 6 + 5))
    try go_wp2_with fail
    refine hK.out _ _ (by exact ⟨(hHeld.2.1.on hb2).six.1, hHeld.2.1.on hb2, z2⟩) (fun hHeld => ?_)
    clear hK K
    refine take_run 5 (some 19) (v := ?_) rfl rfl (by kernel_rfl) (by kernel_rfl) (by kernel_rfl) (fun _ _ _ h => h) (by rfl) ?_ hHeld ?_
    rotate_left
    · ((intro w hSw); (try dsimp only at hSw); go_simp <;> with_reducible rfl)
    simp only [Act.put, List.setIfInBounds_toArray, List.set_cons_zero, List.set_cons_succ]
    refine take_one 6 (by kernel_rfl) rfl (fun K hK => ?_)
    go_simp
    refine hK.out _ _ (by exact ⟨((((((hHeld.2.1.aside (by show w.heap.size ≠ G; omega) _).aside (by show w.heap.size ≠ G; omega) _).aside (by show w.heap.size ≠ G; omega) _).aside (by show w.heap.size ≠ G; omega) _).aside (by show w.heap.size ≠ G; omega) _).aside (by show w.heap.size ≠ G; omega) _).six.1, (((((hHeld.2.1.aside (by show w.heap.size ≠ G; omega) _).aside (by show w.heap.size ≠ G; omega) _).aside (by show w.heap.size ≠ G; omega) _).aside (by show w.heap.size ≠ G; omega) _).aside (by show w.heap.size ≠ G; omega) _).aside (by show w.heap.size ≠ G; omega) _, by simpa [World.setCell] using hHeld.2.2⟩) (fun hHeld => ?_)
    clear hK K
    refine wpAnyH_done (by kernel_rfl) ?_ _
    refine NoPanic.normal ?_
    have hpt := (HR2.out.wide (show U ≤ w2.heap.size by omega)).put6 (j := kn) (v := v') (by omega) (HOW.out.low (by have := HRW.out.lo; omega)) (fun i x hi hx hne hne' => by
      rcases HRW.out.own i x hx with q | ⟨gg, _, q1, _, q2, _⟩
      · exact absurd q hne
      · rcases HOW.out with q | ⟨gg', _, q3, q4, _⟩
        · exact absurd q hne'
        · rw [q1, q3]
          intro e
          injection e with e
          injection e with e
          have q5 : w1.heap.size ≤ gg' := q4
          omega) (fun hne' => by
        rcases HOW.out with q | ⟨gg', _, q3, q4, _⟩
        · exact absurd q hne'
        · rw [q3]
          intro e
          injection e with e
          injection e with e
          have q5 : w1.heap.size ≤ gg' := q4
          omega)
    have hk0 : v'.k = (kn : Int) := HLK.out.1
    have HP := hide hpt
    have HB9 := hide hHeld.2.1
    clear hHeld d0 d1 d2 d3 d4 d5 f0 f1 f2 f3 f4 f5 e0 e1 e2 e3 e4 e5 hpt
    generalize (((((w2.setCell ⟨G, kn * 6, none⟩ (.int .i64 v'.k)).setCell ⟨G, kn * 6 + 1, none⟩ (.int .i64 v'.t)).setCell ⟨G, kn * 6 + 2, none⟩ (.int .i64 v'.u)).setCell ⟨G, kn * 6 + 3, none⟩ (.slice v'.a v'.ts.length v'.c)).setCell ⟨G, kn * 6 + 4, none⟩ (.string v'.s)).setCell ⟨G, kn * 6 + 5, none⟩ (.bool v'.g) = W9 at HP HB9 ⊢
    skip
    go_wp2
    go_ret
    have tn : ((kn : Int)).toNat = kn := by simp
    have HKL : keepL us ⟨(kn : Int), vt, vu, va, vc, vts, vs, vg⟩ = us.set kn ⟨(kn : Int), vt, vu, va, vc, vts, vs, vg⟩ := by
      have := keepL_yes (us := us) (v := ⟨(kn : Int), vt, vu, va, vc, vts, vs, vg⟩) (x := y) (by simp only; rw [tn]; exact HY.out) HL.out
      simp only [tn] at this
      exact this
    have T1 : Turn (fun g => g = G) w w1 := ⟨S1.below.os, S1.below.tape, S1.below.output, S1.below.size, fun i hi _ => S1.below.block i hi⟩
    have T2 : Turn (fun g => g = G) w W9 := ((T1.trans (.below (Below.refl _ _).drew)).trans (.below HB2.out)).trans HP.out.2
    exact ⟨us.set kn v', _, rfl, by simp, by rw [HKL]; exact like_set HLK.out, HP.out.1.wide HP.out.2.size, T2⟩

set_option maxRecDepth 100000 in
set_option maxHeartbeats 1000000 in
theorem l2Add_any (B U G cx : Nat) (us : List V) (cur : Array Value) (v : V) (kn : Nat) (w : World) (hR : ORow w B U G us cur) (hU : U ≤ w.heap.size) (h4 : us.length = 4) (hk : v.k = (kn : Int)) (hk4 : kn < 4) (hn : v.ts.length ≤ 1048576) (ht : Tg w w.heap.size v.a v.ts) :
    Calls Try.prog 82 #[.agg #[.slice (some ⟨G, 0, none⟩) 4 cx], .agg (verC v.k v.t v.u v.a v.ts.length v.c v.s v.g)] w (KeptL w B G us v (.agg #[.slice (some ⟨G, 0, none⟩) 4 cx])) := by
  obtain ⟨y, hy⟩ : ∃ y, us[kn]? = some y := ⟨_, List.getElem?_eq_getElem (by omega)⟩
  have hkt : v.k.toNat = kn := by rw [hk]; simp
  have HY := hide hy
  obtain ⟨vk, vt, vu, va, vc, vts, vs, vg⟩ := v
  simp only at hk hkt hn ht ⊢
  subst hk
  have CLA : ∀ W : World, Below w.heap.size w W → Calls Try.prog 80 #[.agg (verC (kn : Int) vt vu va vts.length vc vs vg)] W (Cloned W ⟨(kn : Int), vt, vu, va, vc, vts, vs, vg⟩) := fun W hb => l2Copy_any ⟨(kn : Int), vt, vu, va, vc, vts, vs, vg⟩ W hn ((ht.on hb).up hb.size)
  have HCL := hide CLA
  clear CLA
  have S0 := (((Inv.start w).box 43 #[.slice (some ⟨G, 0, none⟩) 4 cx]).box 32 (verC (kn : Int) vt vu va vts.length vc vs vg)).box 43 #[.slice none 0 0]
  simp only [World.size_alloc] at S0
  have HR0 := hide (hR.on S0.below)
  obtain ⟨g0, g1, g2, g3, g4, g5⟩ := HR0.out.at' kn y hy
  have c0 := (HR0.out.blk.at (kn * 6)).trans g0
  have c1 := (HR0.out.blk.at (kn * 6 + 1)).trans g1
  have c2 := (HR0.out.blk.at (kn * 6 + 2)).trans g2
  have C1 := hide c1
  have C2 := hide c2
  have hGl := hR.hi
  have HRW := hide hR
  have i1 : (0 : Int) ≤ (kn : Int) := by omega
  have i2 : (kn : Int) < 4 := by omega
  clear g0 g1 g2 g3 g4 g5 hy c0 c1 c2 ht hR hkt
  cases hless : lessB y.t y.u vt vu
  · have HL := hide hless
    clear hless
    go_enter Try.func82, Try.ntmps82
    go_wp2_with fail
    generalize ((w.alloc (.cells #[.slice (some ⟨G, 0, none⟩) 4 cx] 43)).alloc (.cells (verC (kn : Int) vt vu va vts.length vc vs vg) 32)).alloc (.cells #[.slice none 0 0] 43) = W0 at S0 HR0 C1 C2 ⊢
    refine wp_region_noPanic ?_
    refine wp_region_held_drew (S := (fun w' => (w'.cell? ⟨G, kn * 6 + 1, none⟩ = some (.int .i64 y.t) ∧ w'.cell? ⟨G, kn * 6 + 2, none⟩ = some (.int .i64 y.u)) ∧ (w'.cell? ⟨w.heap.size, 0, none⟩ = some (.slice (some ⟨G, 0, none⟩) 4 cx) ∧ w'.cell? ⟨w.heap.size + 1, 0, none⟩ = some (.int .i64 (kn : Int)) ∧ w'.cell? ⟨w.heap.size + 1, 1, none⟩ = some (.int .i64 vt) ∧ w'.cell? ⟨w.heap.size + 1, 2, none⟩ = some (.int .i64 vu)) ∧ Inv w (w.heap.size + 1 + 1 + 1) [(w.heap.size + 1 + 1, 43, #[.slice none 0 0]), (w.heap.size + 1, 32, (verC (kn : Int) vt vu va vts.length vc vs vg)), (w.heap.size, 43, #[.slice (some ⟨G, 0, none⟩) 4 cx])] w')) (by kernel_rfl) (by exact ⟨⟨C1.out, C2.out⟩, ⟨(S0.drew.nth 2 rfl).at 0, (S0.drew.nth 1 rfl).at 0, (S0.drew.nth 1 rfl).at 1, (S0.drew.nth 1 rfl).at 2⟩, S0.drew⟩) (fun hHeld => ?_)
    refine take_run 0 (some 5) (v := ?_) rfl rfl (by kernel_rfl) (by kernel_rfl) (by kernel_rfl) (fun _ _ _ h => h) (by rfl) ?_ hHeld ?_
    rotate_left
    · ((intro w hSw); (try dsimp only at hSw); go_simp <;> with_reducible rfl)
    simp only [Act.put, List.setIfInBounds_toArray, List.set_cons_zero, List.set_cons_succ]
    refine take_run 1 (some 6) (v := ?_) rfl rfl (by kernel_rfl) (by kernel_rfl) (by kernel_rfl) (fun _ _ _ h => h) (by rfl) ?_ hHeld ?_
    rotate_left
    · ((intro w hSw); (try dsimp only at hSw); go_simp <;> with_reducible rfl)
    simp only [Act.put, List.setIfInBounds_toArray, List.set_cons_zero, List.set_cons_succ]
    refine take_run 2 (some 7) (v := ?_) rfl rfl (by kernel_rfl) (by kernel_rfl) (by kernel_rfl) (fun _ _ _ h => h) (by rfl) ?_ hHeld ?_
    rotate_left
    · ((intro w hSw); (try dsimp only at hSw); go_simp <;> with_reducible rfl)
    simp only [Act.put, List.setIfInBounds_toArray, List.set_cons_zero, List.set_cons_succ]
    refine take_run 3 (some 8) (v := ?_) rfl rfl (by kernel_rfl) (by kernel_rfl) (by kernel_rfl) (fun _ _ _ h => h) (by rfl) ?_ hHeld ?_
    rotate_left
    · ((intro w hSw); (try dsimp only at hSw); go_simp <;> with_reducible rfl)
    simp only [Act.put, List.setIfInBounds_toArray, List.set_cons_zero, List.set_cons_succ]
    refine take_run 4 (some 9) (v := ?_) rfl rfl (by kernel_rfl) (by kernel_rfl) (by kernel_rfl) (fun _ _ _ h => h) (by rfl) ?_ hHeld ?_
    rotate_left
    · ((intro w hSw); (try dsimp only at hSw); go_simp <;> with_reducible rfl)
    simp only [Act.put, List.setIfInBounds_toArray, List.set_cons_zero, List.set_cons_succ]
    refine take_run 5 (some 10) (v := ?_) rfl rfl (by kernel_rfl) (by kernel_rfl) (by kernel_rfl) (fun _ _ _ h => h) (by rfl) ?_ hHeld ?_
    rotate_left
    · ((intro w hSw); (try dsimp only at hSw); go_simp <;> with_reducible rfl)
    simp only [Act.put, List.setIfInBounds_toArray, List.set_cons_zero, List.set_cons_succ]
    refine take_run 6 (some 11) (v := ?_) rfl rfl (by kernel_rfl) (by kernel_rfl) (by kernel_rfl) (fun _ _ _ h => h) (by rfl) ?_ hHeld ?_
    rotate_left
    · ((intro w hSw); (try dsimp only at hSw); go_simp <;> with_reducible rfl)
    simp only [Act.put, List.setIfInBounds_toArray, List.set_cons_zero, List.set_cons_succ]
    refine take_run 7 (some 12) (v := ?_) rfl rfl (by kernel_rfl) (by kernel_rfl) (by kernel_rfl) (fun _ _ _ h => h) (by rfl) ?_ hHeld ?_
    rotate_left
    · ((intro w hSw); (try dsimp only at hSw); go_simp <;> with_reducible rfl)
    simp only [Act.put, List.setIfInBounds_toArray, List.set_cons_zero, List.set_cons_succ]
    refine take_run 8 (some 13) (v := ?_) rfl rfl (by kernel_rfl) (by kernel_rfl) (by kernel_rfl) (fun _ _ _ h => h) (by rfl) ?_ hHeld ?_
    rotate_left
    · ((intro w hSw); (try dsimp only at hSw); go_simp <;> with_reducible rfl)
    simp only [Act.put, List.setIfInBounds_toArray, List.set_cons_zero, List.set_cons_succ]
    refine take_one 9 (by kernel_rfl) rfl (fun K hK => ?_)
    go_simp
    ((with_reducible refine (l1Less_any y.t y.u vt vu _).mono ?_); rintro e w1 ⟨rfl, hb1⟩; have HR1 := hide (HRW.out.on (hHeld.2.2.on hb1).below); have tc := HR1.out.at' kn y HY.out)
    try go_wp2_with fail
    refine hK.out _ _ (by exact ⟨⟨(HR1.out.blk.at (kn * 6 + 1)).trans tc.2.1, (HR1.out.blk.at (kn * 6 + 2)).trans tc.2.2.1⟩, ⟨((hHeld.2.2.on hb1).nth 2 rfl).at 0, ((hHeld.2.2.on hb1).nth 1 rfl).at 0, ((hHeld.2.2.on hb1).nth 1 rfl).at 1, ((hHeld.2.2.on hb1).nth 1 rfl).at 2⟩, hHeld.2.2.on hb1⟩) (fun hHeld => ?_)
    clear hK K
    refine wpAnyH_done (by kernel_rfl) ?_ _
    refine NoPanic.normal ?_
    have S1 := hHeld.2.2
    clear hHeld S0 HR0 C1 C2 tc
    rw [HL.out]
    have q1 := (S1.nth 0 rfl).one
    have q3 := (S1.nth 2 rfl).one
    go_wp2
    refine bodyPost_ret (v := .agg #[.slice (some ⟨G, 0, none⟩) 4 cx]) (by simp [results, Try.results82, go_sem, q1]) rfl ?_
    have hL := S1.below.setCell (p := ⟨w.heap.size + 1 + 1, 0, none⟩) (by simp; omega) (.slice (some ⟨G, 0, none⟩) 4 cx)
    exact ⟨us, cur, rfl, rfl, by rw [keepL_no (by simpa using HY.out) HL.out]; exact like_refl us, (HR1.out.aside (p := ⟨w.heap.size + 1 + 1, 0, none⟩) (S1.nth 0 rfl) store_ne_tag (by show G ≠ w.heap.size + 1 + 1; omega) _).wide (by have := hL.size; omega), ⟨hL.os, hL.tape, hL.output, hL.size, fun i hi _ => hL.block i hi⟩⟩
  · have HL := hide hless
    clear hless
    go_enter Try.func82, Try.ntmps82
    go_wp2_with fail
    generalize ((w.alloc (.cells #[.slice (some ⟨G, 0, none⟩) 4 cx] 43)).alloc (.cells (verC (kn : Int) vt vu va vts.length vc vs vg) 32)).alloc (.cells #[.slice none 0 0] 43) = W0 at S0 HR0 C1 C2 ⊢
    refine wp_region_noPanic ?_
    refine wp_region_held_drew (S := (fun w' => (w'.cell? ⟨G, kn * 6 + 1, none⟩ = some (.int .i64 y.t) ∧ w'.cell? ⟨G, kn * 6 + 2, none⟩ = some (.int .i64 y.u)) ∧ (w'.cell? ⟨w.heap.size, 0, none⟩ = some (.slice (some ⟨G, 0, none⟩) 4 cx) ∧ w'.cell? ⟨w.heap.size + 1, 0, none⟩ = some (.int .i64 (kn : Int)) ∧ w'.cell? ⟨w.heap.size + 1, 1, none⟩ = some (.int .i64 vt) ∧ w'.cell? ⟨w.heap.size + 1, 2, none⟩ = some (.int .i64 vu)) ∧ Inv w (w.heap.size + 1 + 1 + 1) [(w.heap.size + 1 + 1, 43, #[.slice none 0 0]), (w.heap.size + 1, 32, (verC (kn : Int) vt vu va vts.length vc vs vg)), (w.heap.size, 43, #[.slice (some ⟨G, 0, none⟩) 4 cx])] w')) (by kernel_rfl) (by exact ⟨⟨C1.out, C2.out⟩, ⟨(S0.drew.nth 2 rfl).at 0, (S0.drew.nth 1 rfl).at 0, (S0.drew.nth 1 rfl).at 1, (S0.drew.nth 1 rfl).at 2⟩, S0.drew⟩) (fun hHeld => ?_)
    refine take_run 0 (some 5) (v := ?_) rfl rfl (by kernel_rfl) (by kernel_rfl) (by kernel_rfl) (fun _ _ _ h => h) (by rfl) ?_ hHeld ?_
    rotate_left
    · ((intro w hSw); (try dsimp only at hSw); go_simp <;> with_reducible rfl)
    simp only [Act.put, List.setIfInBounds_toArray, List.set_cons_zero, List.set_cons_succ]
    refine take_run 1 (some 6) (v := ?_) rfl rfl (by kernel_rfl) (by kernel_rfl) (by kernel_rfl) (fun _ _ _ h => h) (by rfl) ?_ hHeld ?_
    rotate_left
    · ((intro w hSw); (try dsimp only at hSw); go_simp <;> with_reducible rfl)
    simp only [Act.put, List.setIfInBounds_toArray, List.set_cons_zero, List.set_cons_succ]
    refine take_run 2 (some 7) (v := ?_) rfl rfl (by kernel_rfl) (by kernel_rfl) (by kernel_rfl) (fun _ _ _ h => h) (by rfl) ?_ hHeld ?_
    rotate_left
    · ((intro w hSw); (try dsimp only at hSw); go_simp <;> with_reducible rfl)
    simp only [Act.put, List.setIfInBounds_toArray, List.set_cons_zero, List.set_cons_succ]
    refine take_run 3 (some 8) (v := ?_) rfl rfl (by kernel_rfl) (by kernel_rfl) (by kernel_rfl) (fun _ _ _ h => h) (by rfl) ?_ hHeld ?_
    rotate_left
    · ((intro w hSw); (try dsimp only at hSw); go_simp <;> with_reducible rfl)
    simp only [Act.put, List.setIfInBounds_toArray, List.set_cons_zero, List.set_cons_succ]
    refine take_run 4 (some 9) (v := ?_) rfl rfl (by kernel_rfl) (by kernel_rfl) (by kernel_rfl) (fun _ _ _ h => h) (by rfl) ?_ hHeld ?_
    rotate_left
    · ((intro w hSw); (try dsimp only at hSw); go_simp <;> with_reducible rfl)
    simp only [Act.put, List.setIfInBounds_toArray, List.set_cons_zero, List.set_cons_succ]
    refine take_run 5 (some 10) (v := ?_) rfl rfl (by kernel_rfl) (by kernel_rfl) (by kernel_rfl) (fun _ _ _ h => h) (by rfl) ?_ hHeld ?_
    rotate_left
    · ((intro w hSw); (try dsimp only at hSw); go_simp <;> with_reducible rfl)
    simp only [Act.put, List.setIfInBounds_toArray, List.set_cons_zero, List.set_cons_succ]
    refine take_run 6 (some 11) (v := ?_) rfl rfl (by kernel_rfl) (by kernel_rfl) (by kernel_rfl) (fun _ _ _ h => h) (by rfl) ?_ hHeld ?_
    rotate_left
    · ((intro w hSw); (try dsimp only at hSw); go_simp <;> with_reducible rfl)
    simp only [Act.put, List.setIfInBounds_toArray, List.set_cons_zero, List.set_cons_succ]
    refine take_run 7 (some 12) (v := ?_) rfl rfl (by kernel_rfl) (by kernel_rfl) (by kernel_rfl) (fun _ _ _ h => h) (by rfl) ?_ hHeld ?_
    rotate_left
    · ((intro w hSw); (try dsimp only at hSw); go_simp <;> with_reducible rfl)
    simp only [Act.put, List.setIfInBounds_toArray, List.set_cons_zero, List.set_cons_succ]
    refine take_run 8 (some 13) (v := ?_) rfl rfl (by kernel_rfl) (by kernel_rfl) (by kernel_rfl) (fun _ _ _ h => h) (by rfl) ?_ hHeld ?_
    rotate_left
    · ((intro w hSw); (try dsimp only at hSw); go_simp <;> with_reducible rfl)
    simp only [Act.put, List.setIfInBounds_toArray, List.set_cons_zero, List.set_cons_succ]
    refine take_one 9 (by kernel_rfl) rfl (fun K hK => ?_)
    go_simp
    ((with_reducible refine (l1Less_any y.t y.u vt vu _).mono ?_); rintro e w1 ⟨rfl, hb1⟩; have HR1 := hide (HRW.out.on (hHeld.2.2.on hb1).below); have tc := HR1.out.at' kn y HY.out)
    try go_wp2_with fail
    refine hK.out _ _ (by exact ⟨⟨(HR1.out.blk.at (kn * 6 + 1)).trans tc.2.1, (HR1.out.blk.at (kn * 6 + 2)).trans tc.2.2.1⟩, ⟨((hHeld.2.2.on hb1).nth 2 rfl).at 0, ((hHeld.2.2.on hb1).nth 1 rfl).at 0, ((hHeld.2.2.on hb1).nth 1 rfl).at 1, ((hHeld.2.2.on hb1).nth 1 rfl).at 2⟩, hHeld.2.2.on hb1⟩) (fun hHeld => ?_)
    clear hK K
    refine wpAnyH_done (by kernel_rfl) ?_ _
    refine NoPanic.normal ?_
    have S1 := hHeld.2.2
    clear hHeld S0 HR0 C1 C2 tc
    rw [HL.out]
    have S1' := S1.top
    have zr := S1.room
    have zb := S1.base
    go_wp2_with fail
    refine wp_region_noPanic ?_
    refine wp_region_held_drew (S := (fun w' => (w'.cell? ⟨w.heap.size, 0, none⟩ = some (.slice (some ⟨G, 0, none⟩) 4 cx) ∧ w'.cell? ⟨w.heap.size + 1, 0, none⟩ = some (.int .i64 (kn : Int)) ∧ w'.cell? ⟨w.heap.size + 1, 1, none⟩ = some (.int .i64 vt) ∧ w'.cell? ⟨w.heap.size + 1, 2, none⟩ = some (.int .i64 vu) ∧ w'.cell? ⟨w.heap.size + 1, 3, none⟩ = some (.slice va vts.length vc) ∧ w'.cell? ⟨w.heap.size + 1, 4, none⟩ = some (.string vs) ∧ w'.cell? ⟨w.heap.size + 1, 5, none⟩ = some (.bool vg)) ∧ (Blk w' w.heap.size 43 #[.slice (some ⟨G, 0, none⟩) 4 cx] ∧ Blk w' (w.heap.size + 1) 32 (verC (kn : Int) vt vu va vts.length vc vs vg) ∧ Blk w' (w.heap.size + 1 + 1) 43 #[.slice none 0 0]) ∧ w1.heap.size ≤ w'.heap.size)) (by kernel_rfl) (by exact ⟨⟨(S1.drew.nth 2 rfl).at 0, (S1.drew.nth 1 rfl).six.1⟩, ⟨S1.drew.nth 2 rfl, S1.drew.nth 1 rfl, S1.drew.nth 0 rfl⟩, Nat.le_refl _⟩) (fun hHeld => ?_)
    refine take_run 0 (some 15) (v := ?_) rfl rfl (by kernel_rfl) (by kernel_rfl) (by kernel_rfl) (fun _ _ _ h => h) (by rfl) ?_ hHeld ?_
    rotate_left
    · ((intro w hSw); (try dsimp only at hSw); go_simp <;> with_reducible rfl)
    simp only [Act.put, List.setIfInBounds_toArray, List.set_cons_zero, List.set_cons_succ]
    refine take_run 1 (some 16) (v := ?_) rfl rfl (by kernel_rfl) (by kernel_rfl) (by kernel_rfl) (fun _ _ _ h => h) (by rfl) ?_ hHeld ?_
    rotate_left
    · ((intro w hSw); (try dsimp only at hSw); go_simp <;> with_reducible rfl)
    simp only [Act.put, List.setIfInBounds_toArray, List.set_cons_zero, List.set_cons_succ]
    refine take_run 2 (some 17) (v := ?_) rfl rfl (by kernel_rfl) (by kernel_rfl) (by kernel_rfl) (fun _ _ _ h => h) (by rfl) ?_ hHeld ?_
    rotate_left
    · ((intro w hSw); (try dsimp only at hSw); go_simp <;> with_reducible rfl)
    simp only [Act.put, List.setIfInBounds_toArray, List.set_cons_zero, List.set_cons_succ]
    refine take_run 3 (some 18) (v := ?_) rfl rfl (by kernel_rfl) (by kernel_rfl) (by kernel_rfl) (fun _ _ _ h => h) (by rfl) ?_ hHeld ?_
    rotate_left
    · ((intro w hSw); (try dsimp only at hSw); go_simp <;> with_reducible rfl)
    simp only [Act.put, List.setIfInBounds_toArray, List.set_cons_zero, List.set_cons_succ]
    refine take_run 4 (some 19) (v := ?_) rfl rfl (by kernel_rfl) (by kernel_rfl) (by kernel_rfl) (fun _ _ _ h => h) (by rfl) ?_ hHeld ?_
    rotate_left
    · ((intro w hSw); (try dsimp only at hSw); go_simp <;> with_reducible rfl)
    simp only [Act.put, List.setIfInBounds_toArray, List.set_cons_zero, List.set_cons_succ]
    refine take_one 5 (by kernel_rfl) rfl (fun K hK => ?_)
    go_simp
    ((with_reducible refine (HCL.out _ S1.drew.below).mono ?_); rintro e w2 ⟨v', rfl, hlike, hown, hb2⟩; have HLK := hide hlike; have HOW := hide hown; have HB2 := hide hb2; have z2 : w1.heap.size ≤ w2.heap.size := hb2.size; have HR2 := hide ((HR1.out.on (Below.refl _ _).drew).on hb2); obtain ⟨e0, e1, e2, e3, e4, e5⟩ := HR2.out.at' kn y HY.out; have d0 := (HR2.out.blk.at (kn * 6)).trans e0; have d1 := (HR2.out.blk.at (kn * 6 + 1)).trans e1; have d2 := (HR2.out.blk.at (kn * 6 + 2)).trans e2; have d3 := (HR2.out.blk.at (kn * 6 + 3)).trans e3; have d4 := (HR2.out.blk.at (kn * 6 + 4)).trans e4; have d5 := (HR2.out.blk.at (kn * 6 + 5)).trans e5; have f0 := HR2.out.blk.loose (kn * 6); have f1 := HR2.out.blk.loose (kn * 6 + 1); have f2 := HR2.out.blk.loose (kn * 6 + 2); have f3 := HR2.out.blk.loose (kn * 6 + 3); have f4 := HR2.out.blk.loose (kn * 6 + 4); have f5 := HR2.out.blk.loose (kn * 6 + 5))
    try go_wp2_with fail
    refine hK.out _ _ (by exact ⟨⟨((hHeld.2.1.1).on hb2).at 0, ((hHeld.2.1.2.1).on hb2).six.1⟩, ⟨(hHeld.2.1.1).on hb2, (hHeld.2.1.2.1).on hb2, (hHeld.2.1.2.2).on hb2⟩, z2⟩) (fun hHeld => ?_)
    clear hK K
    refine take_run 6 (some 21) (v := ?_) rfl rfl (by kernel_rfl) (by kernel_rfl) (by kernel_rfl) (fun _ _ _ h => h) (by rfl) ?_ hHeld ?_
    rotate_left
    · ((intro w hSw); (try dsimp only at hSw); go_simp <;> with_reducible rfl)
    simp only [Act.put, List.setIfInBounds_toArray, List.set_cons_zero, List.set_cons_succ]
    refine take_one 7 (by kernel_rfl) rfl (fun K hK => ?_)
    go_simp
    refine hK.out _ _ (by exact ⟨⟨(((((((hHeld.2.1.1).aside (by show w.heap.size ≠ G; omega) _).aside (by show w.heap.size ≠ G; omega) _).aside (by show w.heap.size ≠ G; omega) _).aside (by show w.heap.size ≠ G; omega) _).aside (by show w.heap.size ≠ G; omega) _).aside (by show w.heap.size ≠ G; omega) _).at 0, (((((((hHeld.2.1.2.1).aside (by show w.heap.size + 1 ≠ G; omega) _).aside (by show w.heap.size + 1 ≠ G; omega) _).aside (by show w.heap.size + 1 ≠ G; omega) _).aside (by show w.heap.size + 1 ≠ G; omega) _).aside (by show w.heap.size + 1 ≠ G; omega) _).aside (by show w.heap.size + 1 ≠ G; omega) _).six.1⟩, ⟨((((((hHeld.2.1.1).aside (by show w.heap.size ≠ G; omega) _).aside (by show w.heap.size ≠ G; omega) _).aside (by show w.heap.size ≠ G; omega) _).aside (by show w.heap.size ≠ G; omega) _).aside (by show w.heap.size ≠ G; omega) _).aside (by show w.heap.size ≠ G; omega) _, ((((((hHeld.2.1.2.1).aside (by show w.heap.size + 1 ≠ G; omega) _).aside (by show w.heap.size + 1 ≠ G; omega) _).aside (by show w.heap.size + 1 ≠ G; omega) _).aside (by show w.heap.size + 1 ≠ G; omega) _).aside (by show w.heap.size + 1 ≠ G; omega) _).aside (by show w.heap.size + 1 ≠ G; omega) _, ((((((hHeld.2.1.2.2).aside (by show w.heap.size + 1 + 1 ≠ G; omega) _).aside (by show w.heap.size + 1 + 1 ≠ G; omega) _).aside (by show w.heap.size + 1 + 1 ≠ G; omega) _).aside (by show w.heap.size + 1 + 1 ≠ G; omega) _).aside (by show w.heap.size + 1 + 1 ≠ G; omega) _).aside (by show w.heap.size + 1 + 1 ≠ G; omega) _⟩, by simpa [World.setCell] using hHeld.2.2⟩) (fun hHeld => ?_)
    clear hK K
    refine wpAnyH_done (by kernel_rfl) ?_ _
    refine NoPanic.normal ?_
    have hpt := (HR2.out.wide (show U ≤ w2.heap.size by omega)).put6 (j := kn) (v := v') (by omega) (HOW.out.low (by have := HRW.out.lo; omega)) (fun i x hi hx hne hne' => by
      rcases HRW.out.own i x hx with q | ⟨gg, _, q1, _, q2, _⟩
      · exact absurd q hne
      · rcases HOW.out with q | ⟨gg', _, q3, q4, _⟩
        · exact absurd q hne'
        · rw [q1, q3]
          intro e
          injection e with e
          injection e with e
          have q5 : w1.heap.size ≤ gg' := q4
          omega) (fun hne' => by
        rcases HOW.out with q | ⟨gg', _, q3, q4, _⟩
        · exact absurd q hne'
        · rw [q3]
          intro e
          injection e with e
          injection e with e
          have q5 : w1.heap.size ≤ gg' := q4
          omega)
    have hk0 : v'.k = (kn : Int) := HLK.out.1
    have HP := hide hpt
    have HB9 := hide hHeld.2.1
    clear hHeld d0 d1 d2 d3 d4 d5 f0 f1 f2 f3 f4 f5 e0 e1 e2 e3 e4 e5 hpt
    generalize (((((w2.setCell ⟨G, kn * 6, none⟩ (.int .i64 v'.k)).setCell ⟨G, kn * 6 + 1, none⟩ (.int .i64 v'.t)).setCell ⟨G, kn * 6 + 2, none⟩ (.int .i64 v'.u)).setCell ⟨G, kn * 6 + 3, none⟩ (.slice v'.a v'.ts.length v'.c)).setCell ⟨G, kn * 6 + 4, none⟩ (.string v'.s)).setCell ⟨G, kn * 6 + 5, none⟩ (.bool v'.g) = W9 at HP HB9 ⊢
    have q1 := HB9.out.2.2.one
    have q3 := HB9.out.1.one
    go_wp2
    refine bodyPost_ret (v := .agg #[.slice (some ⟨G, 0, none⟩) 4 cx]) (by simp [results, Try.results82, go_sem, q1]) rfl ?_
    have tn : ((kn : Int)).toNat = kn := by simp
    have HKL : keepL us ⟨(kn : Int), vt, vu, va, vc, vts, vs, vg⟩ = us.set kn ⟨(kn : Int), vt, vu, va, vc, vts, vs, vg⟩ := by
      have := keepL_yes (us := us) (v := ⟨(kn : Int), vt, vu, va, vc, vts, vs, vg⟩) (x := y) (by simp only; rw [tn]; exact HY.out) HL.out
      simp only [tn] at this
      exact this
    have T1 : Turn (fun g => g = G) w w1 := ⟨S1.below.os, S1.below.tape, S1.below.output, S1.below.size, fun i hi _ => S1.below.block i hi⟩
    have T2 : Turn (fun g => g = G) w W9 := ((T1.trans (.below (Below.refl _ _).drew)).trans (.below HB2.out)).trans HP.out.2
    have P9 := (HP.out.1.aside (p := ⟨w.heap.size + 1 + 1, 0, none⟩) HB9.out.2.2 store_ne_tag (by show G ≠ w.heap.size + 1 + 1; omega) (.slice (some ⟨G, 0, none⟩) 4 cx)).wide HP.out.2.size
    exact ⟨us.set kn v', _, rfl, by simp, by rw [HKL]; exact like_set HLK.out, by simpa [World.setCell] using P9, T2.far (p := ⟨w.heap.size + 1 + 1, 0, none⟩) (by simp only; omega) _⟩
end Go.Proofs.Ytjnloillcgeodaa
/- Contracts of StoreAdd, of program and model. Condition: as many versions and tags as a law lets by. -/
namespace Go.Proofs.Ytjnloillcgeodaa
open Go.RowKit Go.Joins
attribute [local go_sem ↓] Go.wp_at_zero Go.wp_at_succ

/-- A version as plain data. -/
def verV (v : V) : Bool := verB v.k v.t v.u v.ts v.s v.g
/-- What StoreAdd answers. -/
def addR (vs : List V) (v : V) : List V := if (storeB vs && verV v) = true then keepL vs v else []
/-- An answer that is a store. -/
def AnswerS (w : World) (rs : List V) (e : Ending) (w' : World) : Prop :=
  ∃ (x : Value) (us : List V), e = .returned (.agg #[x]) ∧ us.length = rs.length ∧ Like us rs ∧ ResV w' w.heap.size w'.heap.size x us ∧ Below w.heap.size w w'
theorem answerS_nil {w w' : World} {rs : List V} (h : rs = []) (hb : Below w.heap.size w w') : AnswerS w rs (.returned (.agg #[.slice none 0 0])) w' := by
  subst h
  exact ⟨_, [], rfl, rfl, fun i v v' hi => by simp at hi, .inl ⟨rfl, _, _, rfl⟩, hb⟩
theorem res_four {w : World} {B U : Nat} {x : Value} {us : List V} (h : ResV w B U x us) (h4 : us.length = 4) : ∃ G cap cur, x = .slice (some ⟨G, 0, none⟩) 4 cap ∧ ORow w B U G us cur := by
  rcases h with ⟨rfl, _⟩ | ⟨G, cap, cur, rfl, hO⟩
  · simp at h4
  · exact ⟨G, cap, cur, by rw [h4], hO⟩
theorem like_keep {us vs : List V} {v : V} (hl : us.length = vs.length) (h : Like us vs) : Like (keepL us v) (keepL vs v) := by
  cases hx : us[v.k.toNat]? with
  | none =>
    have hy : vs[v.k.toNat]? = none := by
      rw [List.getElem?_eq_none_iff] at hx ⊢
      omega
    have e1 : keepL us v = us := by unfold keepL; rw [hx]
    have e2 : keepL vs v = vs := by unfold keepL; rw [hy]
    rw [e1, e2]
    exact h
  | some x =>
    have hlt := (List.getElem?_eq_some_iff.1 hx).1
    have hy := List.getElem?_eq_getElem (l := vs) (i := v.k.toNat) (by omega)
    have hl2 := h _ _ _ hx hy
    cases hb : lessB x.t x.u v.t v.u with
    | false =>
      rw [keepL_no hx hb, keepL_no hy (by rw [← hl2.2.1, ← hl2.2.2.1]; exact hb)]
      exact h
    | true =>
      rw [keepL_yes hx hb, keepL_yes hy (by rw [← hl2.2.1, ← hl2.2.2.1]; exact hb)]
      intro i a b ha hb'
      by_cases e : i = v.k.toNat
      · subst e
        rw [List.getElem?_set_self (by omega)] at ha hb'
        injection ha with ha
        injection hb' with hb'
        subst ha hb'
        exact ⟨rfl, rfl, rfl, rfl, rfl, rfl⟩
      · rw [List.getElem?_set_ne (fun e' => e e'.symm)] at ha hb'
        exact h i a b ha hb'
theorem like_trans {a b c : List V} (hl : a.length = b.length) (h : Like a b) (k : Like b c) : Like a c := fun i x z hx hz => by
  have hlt := (List.getElem?_eq_some_iff.1 hx).1
  have hy := List.getElem?_eq_getElem (l := b) (i := i) (by omega)
  obtain ⟨a1, a2, a3, a4, a5, a6⟩ := h i x _ hx hy
  obtain ⟨b1, b2, b3, b4, b5, b6⟩ := k i _ z hy hz
  exact ⟨a1.trans b1, a2.trans b2, a3.trans b3, a4.trans b4, a5.trans b5, a6.trans b6⟩
theorem verV_key {v : V} (h : verV v = true) : 0 ≤ v.k ∧ v.k ≤ 3 := by
  unfold verV verB at h
  simp at h
  omega

set_option maxRecDepth 100000 in
set_option maxHeartbeats 1000000 in
theorem implStoreAdd_any (a : Option Addr) (c : Nat) (vs : List V) (v : V) (w : World) (hn : vs.length ≤ 1048576) (hm : Small vs) (hv : Vg w w.heap.size a vs) (hn1 : v.ts.length ≤ 1048576) (hs1 : v.s.size ≤ 9223372036854775807) (ht : Tg w w.heap.size v.a v.ts) :
    Calls Try.prog 15 #[.agg #[.slice a vs.length c], .agg (verC v.k v.t v.u v.a v.ts.length v.c v.s v.g)] w (AnswerS w (addR vs v)) := by
  have S0 := (((Inv.start w).box 43 #[.slice a vs.length c]).box 32 (verC v.k v.t v.u v.a v.ts.length v.c v.s v.g)).box 43 #[.slice none 0 0]
  simp only [World.size_alloc] at S0
  have HMS := hide hm
  have HT := hide ht
  clear hm ht
  cases ho : storeB vs
  · have HE : Hid (addR vs v = []) := by unfold Hid addR; rw [ho]; rfl
    have HO := hide ho
    clear ho
    go_enter Try.func15, Try.ntmps15
    go_wp2_with fail
    generalize ((w.alloc (.cells #[.slice a vs.length c] 43)).alloc (.cells (verC v.k v.t v.u v.a v.ts.length v.c v.s v.g) 32)).alloc (.cells #[.slice none 0 0] 43) = W at S0 ⊢
    refine (implStoreOk_any a c vs W hn HMS.out ((hv.on S0.below).up S0.base)).mono ?_
    rintro e w1 ⟨rfl, hb1⟩
    rw [HO.out]
    have S1 := S0.on hb1
    have q1 := (S1.nth 0 rfl).one
    clear S0
    go_wp2
    refine bodyPost_ret (v := .agg #[.slice none 0 0]) (by simp [results, Try.results15, go_sem, q1]) rfl ?_
    exact answerS_nil HE.out (S1.below.setCell (by simp; omega) _)
  · have HO := hide ho
    have H4 := hide (storeB_four ho)
    clear ho
    have CV : ∀ W : World, Below w.heap.size w W → Calls Try.prog 13 #[.agg (verC v.k v.t v.u v.a v.ts.length v.c v.s v.g)] W fun e w' => e = .returned (.bool (verV v)) ∧ Below W.heap.size W w' := fun W hb => implVerOk_any v.k v.t v.u v.a v.c v.ts v.s v.g W hn1 hs1 ((HT.out.on hb).up hb.size)
    have HCV := hide CV
    clear CV
    cases hvv : verV v
    · have HE : Hid (addR vs v = []) := by unfold Hid addR; rw [hvv]; simp
      have HV := hide hvv
      clear hvv
      go_enter Try.func15, Try.ntmps15
      go_wp2_with fail
      generalize ((w.alloc (.cells #[.slice a vs.length c] 43)).alloc (.cells (verC v.k v.t v.u v.a v.ts.length v.c v.s v.g) 32)).alloc (.cells #[.slice none 0 0] 43) = W at S0 ⊢
      refine (implStoreOk_any a c vs W hn HMS.out ((hv.on S0.below).up S0.base)).mono ?_
      rintro e w1 ⟨rfl, hb1⟩
      rw [HO.out]
      have S1 := S0.on hb1
      have k1 := (S1.nth 1 rfl).six.1
      clear S0
      go_wp2_with fail
      refine (HCV.out w1 S1.below).mono ?_
      rintro e w2 ⟨rfl, hb2⟩
      rw [HV.out]
      have S2 := S1.on hb2
      have q1 := (S2.nth 0 rfl).one
      clear S1 k1
      go_wp2
      refine bodyPost_ret (v := .agg #[.slice none 0 0]) (by simp [results, Try.results15, go_sem, q1]) rfl ?_
      exact answerS_nil HE.out (S2.below.setCell (by simp; omega) _)
    · have HE : Hid (addR vs v = keepL vs v) := by unfold Hid addR; rw [HO.out, hvv]; rfl
      have HV := hide hvv
      obtain ⟨k0, k3⟩ := verV_key hvv
      obtain ⟨kn, hkn⟩ := Int.eq_ofNat_of_zero_le k0
      have hkn4 : kn < 4 := by omega
      have HKN := hide hkn
      clear hvv hkn k0 k3
      go_enter Try.func15, Try.ntmps15
      go_wp2_with fail
      generalize ((w.alloc (.cells #[.slice a vs.length c] 43)).alloc (.cells (verC v.k v.t v.u v.a v.ts.length v.c v.s v.g) 32)).alloc (.cells #[.slice none 0 0] 43) = W at S0 ⊢
      refine (implStoreOk_any a c vs W hn HMS.out ((hv.on S0.below).up S0.base)).mono ?_
      rintro e w1 ⟨rfl, hb1⟩
      rw [HO.out]
      have S1 := S0.on hb1
      have k1 := (S1.nth 1 rfl).six.1
      clear S0
      go_wp2_with fail
      refine (HCV.out w1 S1.below).mono ?_
      rintro e w2 ⟨rfl, hb2⟩
      rw [HV.out]
      have S2 := S1.on hb2
      have zr := S2.room
      have zb := S2.base
      have S3 : Inv w (w.heap.size + 1 + 1) [(w.heap.size + 1, 32, (verC v.k v.t v.u v.a v.ts.length v.c v.s v.g)), (w.heap.size, 43, #[.slice a vs.length c])] w2 := ⟨S2.below, by omega, fun x hx => by
        simp only [List.mem_cons, List.not_mem_nil, or_false] at hx
        rcases hx with rfl | rfl
        · exact ⟨by simp, by simp, S2.nth 1 rfl⟩
        · exact ⟨Nat.le_refl _, by simp only; omega, S2.nth 2 rfl⟩⟩
      have B3 := S2.nth 0 rfl
      clear S1 k1
      go_wp2_with fail
      refine wp_region_noPanic ?_
      refine wp_region_held_drew (S := (fun w' => w'.cell? ⟨w.heap.size, 0, none⟩ = some (.slice a vs.length c) ∧ (w'.cell? ⟨w.heap.size + 1, 0, none⟩ = some (.int .i64 v.k) ∧ w'.cell? ⟨w.heap.size + 1, 1, none⟩ = some (.int .i64 v.t) ∧ w'.cell? ⟨w.heap.size + 1, 2, none⟩ = some (.int .i64 v.u) ∧ w'.cell? ⟨w.heap.size + 1, 3, none⟩ = some (.slice v.a v.ts.length v.c) ∧ w'.cell? ⟨w.heap.size + 1, 4, none⟩ = some (.string v.s) ∧ w'.cell? ⟨w.heap.size + 1, 5, none⟩ = some (.bool v.g)) ∧ Inv w (w.heap.size + 1 + 1) [(w.heap.size + 1, 32, (verC v.k v.t v.u v.a v.ts.length v.c v.s v.g)), (w.heap.size, 43, #[.slice a vs.length c])] w' ∧ (∃ y, Blk w' (w.heap.size + 1 + 1) 43 #[y]) ∧ w2.heap.size ≤ w'.heap.size)) (by kernel_rfl) (by exact ⟨(S3.drew.nth 1 rfl).at 0, (S3.drew.nth 0 rfl).six.1, S3.drew, ⟨_, B3.drew⟩, Nat.le_refl _⟩) (fun hHeld => ?_)
      refine take_run 0 (some 14) (v := ?_) rfl rfl (by kernel_rfl) (by kernel_rfl) (by kernel_rfl) (fun _ _ _ h => h) (by rfl) ?_ hHeld ?_
      rotate_left
      · ((intro w hSw); (try dsimp only at hSw); go_simp <;> with_reducible rfl)
      simp only [Act.put, List.setIfInBounds_toArray, List.set_cons_zero, List.set_cons_succ]
      refine take_run 1 (some 15) (v := ?_) rfl rfl (by kernel_rfl) (by kernel_rfl) (by kernel_rfl) (fun _ _ _ h => h) (by rfl) ?_ hHeld ?_
      rotate_left
      · ((intro w hSw); (try dsimp only at hSw); go_simp <;> with_reducible rfl)
      simp only [Act.put, List.setIfInBounds_toArray, List.set_cons_zero, List.set_cons_succ]
      refine take_run 3 (some 17) (v := ?_) rfl rfl (by kernel_rfl) (by kernel_rfl) (by kernel_rfl) (fun _ _ _ h => h) (by rfl) ?_ hHeld ?_
      rotate_left
      · ((intro w hSw); (try dsimp only at hSw); go_simp <;> with_reducible rfl)
      simp only [Act.put, List.setIfInBounds_toArray, List.set_cons_zero, List.set_cons_succ]
      refine take_one 2 (by kernel_rfl) rfl (fun K hK => ?_)
      go_simp
      (have zh := hHeld.2.2.2.2; refine (copyVers_any a c vs _ hn (fun v hv => (HMS.out v hv).1) ((hv.on hHeld.2.2.1.below).up hHeld.2.2.1.base)).mono ?_; rintro e w4 ⟨x, us, rfl, hul, hli, hCR, hb⟩; have HL3 := hide hul; have HI3 := hide hli; obtain ⟨G, cap, cur, rfl, hO⟩ := res_four hCR.res (hul.trans H4.out); have HO3 := hide hO; have z4 : w2.heap.size ≤ w4.heap.size := (by have := hb.size; simp at this; omega))
      try go_wp2_with fail
      refine hK.out _ _ (by exact ⟨((hHeld.2.2.1.on hb).nth 1 rfl).at 0, ((hHeld.2.2.1.on hb).nth 0 rfl).six.1, hHeld.2.2.1.on hb, hHeld.2.2.2.1.elim (fun y h => ⟨y, h.on hb⟩), Nat.le_trans hHeld.2.2.2.2 hb.size⟩) (fun hHeld => ?_)
      clear hK K
      refine take_one 4 (by kernel_rfl) rfl (fun K hK => ?_)
      go_simp
      (have C4 := keepLater_any _ _ G cap us cur v kn w4 HO3.out (Nat.le_refl _) (HL3.out.trans H4.out) HKN.out hkn4 hn1 ((HT.out.on hHeld.2.2.1.below).up hHeld.2.2.1.base); (with_reducible refine C4.mono ?_); rintro e w5 ⟨us', cur', rfl, hl', hli', hO', hT⟩; have HL4 := hide hl'; have HI4 := hide hli'; have HO4 := hide hO'; have HT4 := hide hT; have I5 := hHeld.2.2.1.turned hT (fun g e => by have := HO3.out.lo; have e' : g = G := e; simp at this; omega) (fun x hx e => by have e' : x.1 = G := e; have := HO3.out.lo; simp only [List.mem_cons, List.not_mem_nil, or_false] at hx; simp at this; rcases hx with rfl | rfl <;> simp only at e' <;> omega); obtain ⟨y5, hy5⟩ := hHeld.2.2.2.1; have B5 := hy5.turned hT (fun e => by have e' : w.heap.size + 1 + 1 = G := e; have := HO3.out.lo; simp at this; omega); have HB9 := hide B5; have q5 := B5.one)
      try go_wp2_with fail
      refine hK.out _ _ (by exact ⟨((I5).nth 1 rfl).at 0, ((I5).nth 0 rfl).six.1, I5, ⟨y5, B5⟩, Nat.le_trans hHeld.2.2.2.2 hT.size⟩) (fun hHeld => ?_)
      clear hK K
      refine take_run 5 (some 19) (v := ?_) rfl rfl (by kernel_rfl) (by kernel_rfl) (by kernel_rfl) (fun _ _ _ h => h) (by rfl) ?_ hHeld ?_
      rotate_left
      · ((intro w hSw); (try dsimp only at hSw); go_simp <;> with_reducible rfl)
      simp only [Act.put, List.setIfInBounds_toArray, List.set_cons_zero, List.set_cons_succ]
      refine take_one 6 (by kernel_rfl) rfl (fun K hK => ?_)
      go_simp
      refine hK.out _ _ (by exact ⟨((I5.set (p := ⟨w.heap.size + 1 + 1, 0, none⟩) (by simp) (by simp; omega) _).nth 1 rfl).at 0, ((I5.set (p := ⟨w.heap.size + 1 + 1, 0, none⟩) (by simp) (by simp; omega) _).nth 0 rfl).six.1, I5.set (p := ⟨w.heap.size + 1 + 1, 0, none⟩) (by simp) (by simp; omega) _, ⟨_, B5.put 0 _⟩, by simpa [World.setCell] using hHeld.2.2.2.2⟩) (fun hHeld => ?_)
      clear hK K
      refine wpAnyH_done (by kernel_rfl) ?_ _
      refine NoPanic.normal ?_
      obtain ⟨-, -, I9, ⟨y9, hy9⟩, z9⟩ := hHeld
      have B9 := HB9.out.put 0 (.slice (some ⟨G, 0, none⟩) 4 cap)
      simp only [List.setIfInBounds_toArray, List.set_cons_zero] at B9
      have q9 := B9.one
      have hGW : G ≠ w.heap.size + 1 + 1 := by have := HO3.out.lo; omega
      have HO9 := hide (HO4.out.aside (p := ⟨w.heap.size + 1 + 1, 0, none⟩) HB9.out store_ne_tag hGW (.slice (some ⟨G, 0, none⟩) 4 cap))
      clear S2 S3 B3
      go_wp2
      refine bodyPost_ret (v := .agg #[.slice (some ⟨G, 0, none⟩) 4 cap]) (by simp [results, Try.results15, go_sem, q9]) rfl ?_
      refine ⟨_, us', rfl, by rw [HE.out, HL4.out, HL3.out, keepL_len], by rw [HE.out]; exact like_trans (by rw [HL4.out, keepL_len]) HI4.out (like_keep HL3.out HI3.out), .inr ⟨G, cap, cur', by rw [HL4.out, HL3.out, H4.out], ?_⟩, ?_⟩
      · exact (HO9.out.low (by show w.heap.size ≤ w2.heap.size; omega)).wide (by simp [World.setCell])
      · exact I9.below

end Go.Proofs.Ytjnloillcgeodaa
