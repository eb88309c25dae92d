/- Contract of the model's l3Lack. Condition: four versions each, of causes that memory holds. -/
import Derived.Test.YtjnloillcgeodaaGreatJChainPass4
import Derived.Deep.DeepCutAuto
namespace Go.Proofs.YtjnloillcgeodaaGreat
open Go.RowKit Go.Joins
attribute [local go_sem ↓] Go.wp_at_zero Go.wp_at_succ

def LackedC (w : World) (xs ys : List V) (e : Ending) (w' : World) : Prop :=
  ∃ (x : Value) (us : List V), e = .returned x ∧ LL us (lackN xs ys 4) ∧ CRow w.heap.size w' x us ∧ Below w.heap.size w w'
set_option maxRecDepth 100000 in
set_option maxHeartbeats 8000000 in
theorem l3Lack_any (A B : Option Addr) (ca cb : Nat) (xs ys : List V) (w : World) (ha4 : xs.length = 4) (hb4 : ys.length = 4) (hma : ∀ v ∈ xs, v.ts.length ≤ 1048576) (ha : Vg w w.heap.size A xs) (hb : Vg w w.heap.size B ys) :
    Calls Tryz.prog 69 #[.agg #[.slice A 4 ca], .agg #[.slice B 4 cb]] w (LackedC w xs ys) := by
  obtain ⟨j0, hj0, hy0, hy1, hy2⟩ := info_parts ver_info
  have J0 := hide hj0
  have J1 := hide hy0
  have J2 := hide hy1
  have J3 := hide hy2
  clear hj0 hy0 hy1 hy2
  rcases ha with h0 | ⟨ga, oa, rfl, hga, hax⟩
  · rw [h0] at ha4; simp at ha4
  rcases hb with h0 | ⟨gb, ob, rfl, hgb, hbx⟩
  · rw [h0] at hb4; simp at hb4
  have S0 := ((Inv.start w).box 35 #[.slice (some ⟨ga, oa, none⟩) 4 ca]).box 35 #[.slice (some ⟨gb, ob, none⟩) 4 cb]
  simp only [World.size_alloc] at S0
  have HAX : Hid (∀ (i : Nat) v, xs[i]? = some v → ∀ W, Below w.heap.size w W → Six W ga (oa + i * 6) v ∧ Tg W W.heap.size v.a v.ts) := fun i v hi W hW => ⟨(hax i v hi).1.keep hga fun _ hp => hW.cell hp, ((hax i v hi).2.on hW).up hW.size⟩
  have HBX : Hid (∀ (i : Nat) v, ys[i]? = some v → ∀ W, Below w.heap.size w W → Six W gb (ob + i * 6) v) := fun i v hi W hW => (hbx i v hi).1.keep hgb fun _ hp => hW.cell hp
  have HMA := hide hma
  have HA4 := hide ha4
  have HB4 := hide hb4
  clear hax hbx hma ha4 hb4
  go_enter Tryz.func69, Tryz.ntmps69
  go_wp2
  have hz0 : ((w.alloc (.cells #[.slice (some ⟨ga, oa, none⟩) 4 ca] 35)).alloc (.cells #[.slice (some ⟨gb, ob, none⟩) 4 cb] 35)).heap.size = w.heap.size + 1 + 1 := by simp
  generalize (w.alloc (.cells #[.slice (some ⟨ga, oa, none⟩) 4 ca] 35)).alloc (.cells #[.slice (some ⟨gb, ob, none⟩) 4 cb] 35) = W0 at S0 hz0 ⊢
  have SA := S0.alloc (.cells #[] 51)
  have HC0 : Hid (CRow (w.heap.size + 1 + 1) (W0.alloc (.cells #[] 51)) (.slice (some ⟨w.heap.size + 1 + 1, 0, none⟩) 0 0) []) := by
    unfold Hid
    rw [← hz0]
    exact ⟨World.ownsRow_made (base := W0.heap.size) (e := 51) (size := 6) W0 #[] 0 (Nat.le_refl _) (by unfold maxLen; omega) rfl, fun i v h => by simp at h, fun i j v v' _ h => by simp at h, by simp⟩
  clear hz0
  clear S0
  go_loopw [5, 6] (fun x i wr => ∃ (k G xc : Nat) (us : List V), k ≤ 4 ∧ x = .slice (some ⟨G, 0, none⟩) us.length xc ∧ i = .int .i64 (k : Int) ∧ Hid (LL us (lackN xs ys k)) ∧ Hid (CRow (w.heap.size + 1 + 1) wr (.slice (some ⟨G, 0, none⟩) us.length xc) us) ∧ Inv w (w.heap.size + 1 + 1) [(w.heap.size + 1, 35, #[.slice (some ⟨gb, ob, none⟩) 4 cb]), (w.heap.size, 35, #[.slice (some ⟨ga, oa, none⟩) 4 ca])] wr) (fun _ i _ => 4 - (intOf i).toNat)
  case atStart => exact ⟨0, w.heap.size + 1 + 1, 0, [], Nat.zero_le _, rfl, rfl, ⟨rfl, fun i v v' hi => by simp at hi⟩, HC0.out, SA⟩
  case round =>
    rename World => wo
    obtain ⟨k, G, xc, us, hk, rfl, rfl, HU, HC, hI⟩ := hrel
    clear HC0 SA
    by_cases hlt : k < 4
    · obtain ⟨va, hva⟩ : ∃ v, xs[k]? = some v := ⟨_, List.getElem?_eq_getElem (by have := HA4.out; omega)⟩
      obtain ⟨vb, hvb⟩ : ∃ v, ys[k]? = some v := ⟨_, List.getElem?_eq_getElem (by have := HB4.out; omega)⟩
      have HVA := hide hva
      have HVB := hide hvb
      have HSA := hide (HAX.out k va hva)
      have HSB := hide (HBX.out k vb hvb)
      have i1 : (0 : Int) ≤ (k : Int) := by omega
      have i2 : (k : Int) < 4 := by omega
      have jh : ∀ {W : World}, Inv w (w.heap.size + 1 + 1) [(w.heap.size + 1, 35, #[.slice (some ⟨gb, ob, none⟩) 4 cb]), (w.heap.size, 35, #[.slice (some ⟨ga, oa, none⟩) 4 ca])] W → Hid (CRow (w.heap.size + 1 + 1) W (.slice (some ⟨G, 0, none⟩) us.length xc) us) → (W.cell? ⟨w.heap.size, 0, none⟩ = some (.slice (some ⟨ga, oa, none⟩) 4 ca) ∧ W.cell? ⟨w.heap.size + 1, 0, none⟩ = some (.slice (some ⟨gb, ob, none⟩) 4 cb)) ∧ (W.cell? ⟨ga, oa + k * 6 + 1, none⟩ = some (.int .i64 va.t) ∧ W.cell? ⟨ga, oa + k * 6 + 2, none⟩ = some (.int .i64 va.u)) ∧ (W.cell? ⟨gb, ob + k * 6 + 1, none⟩ = some (.int .i64 vb.t) ∧ W.cell? ⟨gb, ob + k * 6 + 2, none⟩ = some (.int .i64 vb.u)) ∧ Inv w (w.heap.size + 1 + 1) [(w.heap.size + 1, 35, #[.slice (some ⟨gb, ob, none⟩) 4 cb]), (w.heap.size, 35, #[.slice (some ⟨ga, oa, none⟩) 4 ca])] W ∧ Hid (CRow (w.heap.size + 1 + 1) W (.slice (some ⟨G, 0, none⟩) us.length xc) us) := fun hI hC => ⟨⟨(hI.nth 1 rfl).at 0, (hI.nth 0 rfl).at 0⟩, ⟨(HSA.out _ hI.below).1.2.1, (HSA.out _ hI.below).1.2.2.1⟩, ⟨(HSB.out _ hI.below).2.1, (HSB.out _ hI.below).2.2.1⟩, hI, hC⟩
      clear hva hvb
      have c1 := (hI.nth 1 rfl).one.1
      have c2 := (hI.nth 0 rfl).one.1
      go_wp2_with fail
      clear c1 c2
      refine wp_region_noPanic ?_
      refine wp_region_held_drew (S := (fun w' => (w'.cell? ⟨w.heap.size, 0, none⟩ = some (.slice (some ⟨ga, oa, none⟩) 4 ca) ∧ w'.cell? ⟨w.heap.size + 1, 0, none⟩ = some (.slice (some ⟨gb, ob, none⟩) 4 cb)) ∧ (w'.cell? ⟨ga, oa + k * 6 + 1, none⟩ = some (.int .i64 va.t) ∧ w'.cell? ⟨ga, oa + k * 6 + 2, none⟩ = some (.int .i64 va.u)) ∧ (w'.cell? ⟨gb, ob + k * 6 + 1, none⟩ = some (.int .i64 vb.t) ∧ w'.cell? ⟨gb, ob + k * 6 + 2, none⟩ = some (.int .i64 vb.u)) ∧ Inv w (w.heap.size + 1 + 1) [(w.heap.size + 1, 35, #[.slice (some ⟨gb, ob, none⟩) 4 cb]), (w.heap.size, 35, #[.slice (some ⟨ga, oa, none⟩) 4 ca])] w' ∧ Hid (CRow (w.heap.size + 1 + 1) w' (.slice (some ⟨G, 0, none⟩) us.length xc) us))) (by kernel_rfl) (by exact jh hI.drew (HC.out.on (Below.refl _ _).drew)) (fun hHeld => ?_)
      refine take_run 0 (some 14) (v := ?_) rfl rfl (by kernel_rfl) (by kernel_rfl) (by kernel_rfl) (fun _ _ _ h => h) (by rfl) ?_ hHeld ?_
      rotate_left
      · ((intro w hSw); (try dsimp only at hSw); go_simp <;> with_reducible rfl)
      simp only [Act.put, List.setIfInBounds_toArray, List.set_cons_zero, List.set_cons_succ]
      refine take_run 1 (some 15) (v := ?_) rfl rfl (by kernel_rfl) (by kernel_rfl) (by kernel_rfl) (fun _ _ _ h => h) (by rfl) ?_ hHeld ?_
      rotate_left
      · ((intro w hSw); (try dsimp only at hSw); go_simp <;> with_reducible rfl)
      simp only [Act.put, List.setIfInBounds_toArray, List.set_cons_zero, List.set_cons_succ]
      refine take_run 2 (some 16) (v := ?_) rfl rfl (by kernel_rfl) (by kernel_rfl) (by kernel_rfl) (fun _ _ _ h => h) (by rfl) ?_ hHeld ?_
      rotate_left
      · ((intro w hSw); (try dsimp only at hSw); go_simp <;> with_reducible rfl)
      simp only [Act.put, List.setIfInBounds_toArray, List.set_cons_zero, List.set_cons_succ]
      refine take_run 3 (some 17) (v := ?_) rfl rfl (by kernel_rfl) (by kernel_rfl) (by kernel_rfl) (fun _ _ _ h => h) (by rfl) ?_ hHeld ?_
      rotate_left
      · ((intro w hSw); (try dsimp only at hSw); go_simp <;> with_reducible rfl)
      simp only [Act.put, List.setIfInBounds_toArray, List.set_cons_zero, List.set_cons_succ]
      refine take_run 4 (some 18) (v := ?_) rfl rfl (by kernel_rfl) (by kernel_rfl) (by kernel_rfl) (fun _ _ _ h => h) (by rfl) ?_ hHeld ?_
      rotate_left
      · ((intro w hSw); (try dsimp only at hSw); go_simp <;> with_reducible rfl)
      simp only [Act.put, List.setIfInBounds_toArray, List.set_cons_zero, List.set_cons_succ]
      refine take_run 5 (some 19) (v := ?_) rfl rfl (by kernel_rfl) (by kernel_rfl) (by kernel_rfl) (fun _ _ _ h => h) (by rfl) ?_ hHeld ?_
      rotate_left
      · ((intro w hSw); (try dsimp only at hSw); go_simp <;> with_reducible rfl)
      simp only [Act.put, List.setIfInBounds_toArray, List.set_cons_zero, List.set_cons_succ]
      refine take_run 6 (some 20) (v := ?_) rfl rfl (by kernel_rfl) (by kernel_rfl) (by kernel_rfl) (fun _ _ _ h => h) (by rfl) ?_ hHeld ?_
      rotate_left
      · ((intro w hSw); (try dsimp only at hSw); go_simp <;> with_reducible rfl)
      simp only [Act.put, List.setIfInBounds_toArray, List.set_cons_zero, List.set_cons_succ]
      refine take_run 7 (some 21) (v := ?_) rfl rfl (by kernel_rfl) (by kernel_rfl) (by kernel_rfl) (fun _ _ _ h => h) (by rfl) ?_ hHeld ?_
      rotate_left
      · ((intro w hSw); (try dsimp only at hSw); go_simp <;> with_reducible rfl)
      simp only [Act.put, List.setIfInBounds_toArray, List.set_cons_zero, List.set_cons_succ]
      refine take_run 8 (some 22) (v := ?_) rfl rfl (by kernel_rfl) (by kernel_rfl) (by kernel_rfl) (fun _ _ _ h => h) (by rfl) ?_ hHeld ?_
      rotate_left
      · ((intro w hSw); (try dsimp only at hSw); go_simp <;> with_reducible rfl)
      simp only [Act.put, List.setIfInBounds_toArray, List.set_cons_zero, List.set_cons_succ]
      refine take_run 9 (some 23) (v := ?_) rfl rfl (by kernel_rfl) (by kernel_rfl) (by kernel_rfl) (fun _ _ _ h => h) (by rfl) ?_ hHeld ?_
      rotate_left
      · ((intro w hSw); (try dsimp only at hSw); go_simp <;> with_reducible rfl)
      simp only [Act.put, List.setIfInBounds_toArray, List.set_cons_zero, List.set_cons_succ]
      refine take_run 10 (some 24) (v := ?_) rfl rfl (by kernel_rfl) (by kernel_rfl) (by kernel_rfl) (fun _ _ _ h => h) (by rfl) ?_ hHeld ?_
      rotate_left
      · ((intro w hSw); (try dsimp only at hSw); go_simp <;> with_reducible rfl)
      simp only [Act.put, List.setIfInBounds_toArray, List.set_cons_zero, List.set_cons_succ]
      refine take_run 11 (some 25) (v := ?_) rfl rfl (by kernel_rfl) (by kernel_rfl) (by kernel_rfl) (fun _ _ _ h => h) (by rfl) ?_ hHeld ?_
      rotate_left
      · ((intro w hSw); (try dsimp only at hSw); go_simp <;> with_reducible rfl)
      simp only [Act.put, List.setIfInBounds_toArray, List.set_cons_zero, List.set_cons_succ]
      refine take_one 12 (by kernel_rfl) rfl (fun K hK => ?_)
      go_simp
      ((with_reducible refine (l1Less_any vb.t vb.u va.t va.u _).mono ?_); rintro e w1 ⟨rfl, hb1⟩)
      try go_wp2_with fail
      refine hK.out _ _ (by exact jh (hHeld.2.2.2.1.on hb1) (hHeld.2.2.2.2.out.on hb1)) (fun hHeld => ?_)
      clear hK K
      refine take_run 13 (some 27) (v := ?_) rfl rfl (by kernel_rfl) (by kernel_rfl) (by kernel_rfl) (fun _ _ _ h => h) (by rfl) ?_ hHeld ?_
      rotate_left
      · ((intro w hSw); (try dsimp only at hSw); go_simp <;> with_reducible rfl)
      simp only [Act.put, List.setIfInBounds_toArray, List.set_cons_zero, List.set_cons_succ]
      refine wpAnyH_done (by kernel_rfl) ?_ _
      refine NoPanic.normal ?_
      obtain ⟨-, -, -, I1, C1⟩ := hHeld
      clear hI HC hb1
      cases hless : lessB vb.t vb.u va.t va.u
      · have HU1 := hide (lackN_not HVA.out HVB.out hless)
        clear hless
        go_wp2
        refine ⟨⟨k + 1, G, xc, us, by omega, rfl, by go_num, ?_, C1, I1⟩, by simp [intOf]; omega⟩
        unfold Hid
        rw [HU1.out]
        exact HU.out
      · have HU1 := hide (lackN_yes HVA.out HVB.out hless)
        clear hless
        go_wp2
        go_loopw [7] (fun q wr => ∃ p : Nat, q = .int .i64 (p : Int) ∧ Hid (p ≤ us.length ∧ ∀ (j : Nat) x, j < p → us[j]? = some x → lessB x.t x.u va.t va.u = true) ∧ Hid (CRow (w.heap.size + 1 + 1) wr (.slice (some ⟨G, 0, none⟩) us.length xc) us) ∧ Inv w (w.heap.size + 1 + 1) [(w.heap.size + 1, 35, #[.slice (some ⟨gb, ob, none⟩) 4 cb]), (w.heap.size, 35, #[.slice (some ⟨ga, oa, none⟩) 4 ca])] wr) (fun q _ => us.length - (intOf q).toNat)
        case atStart => exact ⟨0, rfl, ⟨Nat.zero_le _, fun j x hj => by omega⟩, C1, I1⟩
        case round =>
          obtain ⟨p, rfl, HP, C2, I2⟩ := hrel
          clear C1 I1
          go_upto_region 7 with (fail)
          go_cut [45] (fun s wx => ∃ b : Bool, s = .bool b ∧ Hid ((b = true → p < us.length ∧ ∀ x, us[p]? = some x → lessB x.t x.u va.t va.u = true) ∧ (b = false → ∀ x, us[p]? = some x → lessB x.t x.u va.t va.u = false)) ∧ Hid (CRow (w.heap.size + 1 + 1) wx (.slice (some ⟨G, 0, none⟩) us.length xc) us) ∧ Inv w (w.heap.size + 1 + 1) [(w.heap.size + 1, 35, #[.slice (some ⟨gb, ob, none⟩) 4 cb]), (w.heap.size, 35, #[.slice (some ⟨ga, oa, none⟩) 4 ca])] wx)
          case first =>
            by_cases hpl : p < us.length
            · obtain ⟨y, hy⟩ : ∃ y, us[p]? = some y := ⟨_, List.getElem?_eq_getElem hpl⟩
              have HY := hide hy
              clear hy
              have d1 : decide ((p : Int) < (us.length : Int)) = true := decide_eq_true (by omega)
              have j1 : (0 : Int) ≤ (p : Int) := by omega
              have j2 : (p : Int) < (us.length : Int) := by omega
              have jq : ∀ {W : World}, Inv w (w.heap.size + 1 + 1) [(w.heap.size + 1, 35, #[.slice (some ⟨gb, ob, none⟩) 4 cb]), (w.heap.size, 35, #[.slice (some ⟨ga, oa, none⟩) 4 ca])] W → Hid (CRow (w.heap.size + 1 + 1) W (.slice (some ⟨G, 0, none⟩) us.length xc) us) → W.cell? ⟨w.heap.size, 0, none⟩ = some (.slice (some ⟨ga, oa, none⟩) 4 ca) ∧ (W.cell? ⟨ga, oa + k * 6 + 1, none⟩ = some (.int .i64 va.t) ∧ W.cell? ⟨ga, oa + k * 6 + 2, none⟩ = some (.int .i64 va.u)) ∧ (W.cell? ⟨G, p * 6 + 1, none⟩ = some (.int .i64 y.t) ∧ W.cell? ⟨G, p * 6 + 2, none⟩ = some (.int .i64 y.u)) ∧ Inv w (w.heap.size + 1 + 1) [(w.heap.size + 1, 35, #[.slice (some ⟨gb, ob, none⟩) 4 cb]), (w.heap.size, 35, #[.slice (some ⟨ga, oa, none⟩) 4 ca])] W ∧ Hid (CRow (w.heap.size + 1 + 1) W (.slice (some ⟨G, 0, none⟩) us.length xc) us) := fun hI hC => ⟨(hI.nth 1 rfl).at 0, ⟨(HSA.out _ hI.below).1.2.1, (HSA.out _ hI.below).1.2.2.1⟩, hC.out.tagCells rfl HY.out, hI, hC⟩
              refine wp_region_noPanic ?_
              refine wp_region_held_drew (S := (fun w' => w'.cell? ⟨w.heap.size, 0, none⟩ = some (.slice (some ⟨ga, oa, none⟩) 4 ca) ∧ (w'.cell? ⟨ga, oa + k * 6 + 1, none⟩ = some (.int .i64 va.t) ∧ w'.cell? ⟨ga, oa + k * 6 + 2, none⟩ = some (.int .i64 va.u)) ∧ (w'.cell? ⟨G, p * 6 + 1, none⟩ = some (.int .i64 y.t) ∧ w'.cell? ⟨G, p * 6 + 2, none⟩ = some (.int .i64 y.u)) ∧ Inv w (w.heap.size + 1 + 1) [(w.heap.size + 1, 35, #[.slice (some ⟨gb, ob, none⟩) 4 cb]), (w.heap.size, 35, #[.slice (some ⟨ga, oa, none⟩) 4 ca])] w' ∧ Hid (CRow (w.heap.size + 1 + 1) w' (.slice (some ⟨G, 0, none⟩) us.length xc) us))) (by kernel_rfl) (by exact jq I2.drew (C2.out.on (Below.refl _ _).drew)) (fun hHeld => ?_)
              refine take_run 0 (some 28) (v := ?_) rfl rfl (by kernel_rfl) (by kernel_rfl) (by kernel_rfl) (fun _ _ _ h => h) (by rfl) ?_ hHeld ?_
              rotate_left
              · ((intro w hSw); (try dsimp only at hSw); go_simp <;> with_reducible rfl)
              simp only [Act.put, List.setIfInBounds_toArray, List.set_cons_zero, List.set_cons_succ]
              refine take_run 1 (some 29) (v := ?_) rfl rfl (by kernel_rfl) (by kernel_rfl) (by kernel_rfl) (fun _ _ _ h => h) (by rfl) ?_ hHeld ?_
              rotate_left
              · ((intro w hSw); (try dsimp only at hSw); go_simp <;> with_reducible rfl)
              simp only [Act.put, List.setIfInBounds_toArray, List.set_cons_zero, List.set_cons_succ]
              refine take_run 2 (some 30) (v := ?_) rfl rfl (by kernel_rfl) (by kernel_rfl) (by kernel_rfl) (fun _ _ _ h => h) (by rfl) ?_ hHeld ?_
              rotate_left
              · ((intro w hSw); (try dsimp only at hSw); go_simp <;> with_reducible rfl)
              simp only [Act.put, List.setIfInBounds_toArray, List.set_cons_zero, List.set_cons_succ]
              refine take_run 3 (some 31) (v := ?_) rfl rfl (by kernel_rfl) (by kernel_rfl) (by kernel_rfl) (fun _ _ _ h => h) (by rfl) ?_ hHeld ?_
              rotate_left
              · ((intro w hSw); (try dsimp only at hSw); go_simp <;> with_reducible rfl)
              simp only [Act.put, List.setIfInBounds_toArray, List.set_cons_zero, List.set_cons_succ]
              refine take_run 4 (some 32) (v := ?_) rfl rfl (by kernel_rfl) (by kernel_rfl) (by kernel_rfl) (fun _ _ _ h => h) (by rfl) ?_ hHeld ?_
              rotate_left
              · ((intro w hSw); (try dsimp only at hSw); go_simp <;> with_reducible rfl)
              simp only [Act.put, List.setIfInBounds_toArray, List.set_cons_zero, List.set_cons_succ]
              refine take_run 5 (some 33) (v := ?_) rfl rfl (by kernel_rfl) (by kernel_rfl) (by kernel_rfl) (fun _ _ _ h => h) (by rfl) ?_ hHeld ?_
              rotate_left
              · ((intro w hSw); (try dsimp only at hSw); go_simp <;> with_reducible rfl)
              simp only [Act.put, List.setIfInBounds_toArray, List.set_cons_zero, List.set_cons_succ]
              refine take_run 6 (some 34) (v := ?_) rfl rfl (by kernel_rfl) (by kernel_rfl) (by kernel_rfl) (fun _ _ _ h => h) (by rfl) ?_ hHeld ?_
              rotate_left
              · ((intro w hSw); (try dsimp only at hSw); go_simp <;> with_reducible rfl)
              simp only [Act.put, List.setIfInBounds_toArray, List.set_cons_zero, List.set_cons_succ]
              refine take_run 7 (some 35) (v := ?_) rfl rfl (by kernel_rfl) (by kernel_rfl) (by kernel_rfl) (fun _ _ _ h => h) (by rfl) ?_ hHeld ?_
              rotate_left
              · ((intro w hSw); (try dsimp only at hSw); go_simp <;> with_reducible rfl)
              simp only [Act.put, List.setIfInBounds_toArray, List.set_cons_zero, List.set_cons_succ]
              refine take_run 8 (some 36) (v := ?_) rfl rfl (by kernel_rfl) (by kernel_rfl) (by kernel_rfl) (fun _ _ _ h => h) (by rfl) ?_ hHeld ?_
              rotate_left
              · ((intro w hSw); (try dsimp only at hSw); go_simp <;> with_reducible rfl)
              simp only [Act.put, List.setIfInBounds_toArray, List.set_cons_zero, List.set_cons_succ]
              refine take_run 9 (some 37) (v := ?_) rfl rfl (by kernel_rfl) (by kernel_rfl) (by kernel_rfl) (fun _ _ _ h => h) (by rfl) ?_ hHeld ?_
              rotate_left
              · ((intro w hSw); (try dsimp only at hSw); go_simp <;> with_reducible rfl)
              simp only [Act.put, List.setIfInBounds_toArray, List.set_cons_zero, List.set_cons_succ]
              refine take_run 10 (some 38) (v := ?_) rfl rfl (by kernel_rfl) (by kernel_rfl) (by kernel_rfl) (fun _ _ _ h => h) (by rfl) ?_ hHeld ?_
              rotate_left
              · ((intro w hSw); (try dsimp only at hSw); go_simp <;> with_reducible rfl)
              simp only [Act.put, List.setIfInBounds_toArray, List.set_cons_zero, List.set_cons_succ]
              refine take_run 11 (some 39) (v := ?_) rfl rfl (by kernel_rfl) (by kernel_rfl) (by kernel_rfl) (fun _ _ _ h => h) (by rfl) ?_ hHeld ?_
              rotate_left
              · ((intro w hSw); (try dsimp only at hSw); go_simp <;> with_reducible rfl)
              simp only [Act.put, List.setIfInBounds_toArray, List.set_cons_zero, List.set_cons_succ]
              refine take_run 12 (some 40) (v := ?_) rfl rfl (by kernel_rfl) (by kernel_rfl) (by kernel_rfl) (fun _ _ _ h => h) (by rfl) ?_ hHeld ?_
              rotate_left
              · ((intro w hSw); (try dsimp only at hSw); go_simp <;> with_reducible rfl)
              simp only [Act.put, List.setIfInBounds_toArray, List.set_cons_zero, List.set_cons_succ]
              refine take_run 13 (some 41) (v := ?_) rfl rfl (by kernel_rfl) (by kernel_rfl) (by kernel_rfl) (fun _ _ _ h => h) (by rfl) ?_ hHeld ?_
              rotate_left
              · ((intro w hSw); (try dsimp only at hSw); go_simp <;> with_reducible rfl)
              simp only [Act.put, List.setIfInBounds_toArray, List.set_cons_zero, List.set_cons_succ]
              refine take_run 14 (some 42) (v := ?_) rfl rfl (by kernel_rfl) (by kernel_rfl) (by kernel_rfl) (fun _ _ _ h => h) (by rfl) ?_ hHeld ?_
              rotate_left
              · ((intro w hSw); (try dsimp only at hSw); go_simp <;> with_reducible rfl)
              simp only [Act.put, List.setIfInBounds_toArray, List.set_cons_zero, List.set_cons_succ]
              refine take_run 15 (some 43) (v := ?_) rfl rfl (by kernel_rfl) (by kernel_rfl) (by kernel_rfl) (fun _ _ _ h => h) (by rfl) ?_ hHeld ?_
              rotate_left
              · ((intro w hSw); (try dsimp only at hSw); go_simp <;> with_reducible rfl)
              simp only [Act.put, List.setIfInBounds_toArray, List.set_cons_zero, List.set_cons_succ]
              refine take_one 16 (by kernel_rfl) rfl (fun K hK => ?_)
              go_simp
              ((with_reducible refine (l1Less_any y.t y.u va.t va.u _).mono ?_); rintro e w1 ⟨rfl, hb1⟩)
              try go_wp2_with fail
              refine hK.out _ _ (by exact jq (hHeld.2.2.2.1.on hb1) (hHeld.2.2.2.2.out.on hb1)) (fun hHeld => ?_)
              clear hK K
              refine take_run 17 (some 45) (v := ?_) rfl rfl (by kernel_rfl) (by kernel_rfl) (by kernel_rfl) (fun _ _ _ h => h) (by rfl) ?_ hHeld ?_
              rotate_left
              · ((intro w hSw); (try dsimp only at hSw); go_simp <;> with_reducible rfl)
              simp only [Act.put, List.setIfInBounds_toArray, List.set_cons_zero, List.set_cons_succ]
              refine wpAnyH_done (by kernel_rfl) ?_ _
              refine NoPanic.normal ?_
              go_wp2_with fail
              go_meet
              exact ⟨lessB y.t y.u va.t va.u, rfl, ⟨fun h => ⟨hpl, fun x hx => by rw [HY.out] at hx; injection hx with hx; rw [← hx]; exact h⟩, fun h x hx => by rw [HY.out] at hx; injection hx with hx; rw [← hx]; exact h⟩, hHeld.2.2.2.2, hHeld.2.2.2.1⟩
            · have d1 : decide ((p : Int) < (us.length : Int)) = false := decide_eq_false (by omega)
              refine wp_region_noPanic ?_
              refine wp_region_held_drew (S := (fun w' => Inv w (w.heap.size + 1 + 1) [(w.heap.size + 1, 35, #[.slice (some ⟨gb, ob, none⟩) 4 cb]), (w.heap.size, 35, #[.slice (some ⟨ga, oa, none⟩) 4 ca])] w' ∧ Hid (CRow (w.heap.size + 1 + 1) w' (.slice (some ⟨G, 0, none⟩) us.length xc) us))) (by kernel_rfl) (by exact ⟨I2.drew, C2.out.on (Below.refl _ _).drew⟩) (fun hHeld => ?_)
              refine take_run 0 (some 28) (v := ?_) rfl rfl (by kernel_rfl) (by kernel_rfl) (by kernel_rfl) (fun _ _ _ h => h) (by rfl) ?_ hHeld ?_
              rotate_left
              · ((intro w hSw); (try dsimp only at hSw); go_simp <;> with_reducible rfl)
              simp only [Act.put, List.setIfInBounds_toArray, List.set_cons_zero, List.set_cons_succ]
              refine take_run 1 (some 29) (v := ?_) rfl rfl (by kernel_rfl) (by kernel_rfl) (by kernel_rfl) (fun _ _ _ h => h) (by rfl) ?_ hHeld ?_
              rotate_left
              · ((intro w hSw); (try dsimp only at hSw); go_simp <;> with_reducible rfl)
              simp only [Act.put, List.setIfInBounds_toArray, List.set_cons_zero, List.set_cons_succ]
              refine take_run 2 (some 30) (v := ?_) rfl rfl (by kernel_rfl) (by kernel_rfl) (by kernel_rfl) (fun _ _ _ h => h) (by rfl) ?_ hHeld ?_
              rotate_left
              · ((intro w hSw); (try dsimp only at hSw); go_simp <;> with_reducible rfl)
              simp only [Act.put, List.setIfInBounds_toArray, List.set_cons_zero, List.set_cons_succ]
              refine take_run 3 (some 31) (v := ?_) rfl rfl (by kernel_rfl) (by kernel_rfl) (by kernel_rfl) (fun _ _ _ h => h) (by rfl) ?_ hHeld ?_
              rotate_left
              · ((intro w hSw); (try dsimp only at hSw); go_simp <;> with_reducible rfl)
              simp only [Act.put, List.setIfInBounds_toArray, List.set_cons_zero, List.set_cons_succ]
              refine take_run 4 (some 32) (v := ?_) rfl rfl (by kernel_rfl) (by kernel_rfl) (by kernel_rfl) (fun _ _ _ h => h) (by rfl) ?_ hHeld ?_
              rotate_left
              · ((intro w hSw); (try dsimp only at hSw); go_simp <;> with_reducible rfl)
              simp only [Act.put, List.setIfInBounds_toArray, List.set_cons_zero, List.set_cons_succ]
              refine take_skip 5 (some 33) rfl rfl (by kernel_rfl) (by kernel_rfl) (by kernel_rfl) (fun _ _ _ h => h) (by rfl) hHeld ?_
              simp only [Act.put, List.setIfInBounds_toArray, List.set_cons_zero, List.set_cons_succ]
              refine take_skip 6 (some 34) rfl rfl (by kernel_rfl) (by kernel_rfl) (by kernel_rfl) (fun _ _ _ h => h) (by rfl) hHeld ?_
              simp only [Act.put, List.setIfInBounds_toArray, List.set_cons_zero, List.set_cons_succ]
              refine take_skip 7 (some 35) rfl rfl (by kernel_rfl) (by kernel_rfl) (by kernel_rfl) (fun _ _ _ h => h) (by rfl) hHeld ?_
              simp only [Act.put, List.setIfInBounds_toArray, List.set_cons_zero, List.set_cons_succ]
              refine take_skip 8 (some 36) rfl rfl (by kernel_rfl) (by kernel_rfl) (by kernel_rfl) (fun _ _ _ h => h) (by rfl) hHeld ?_
              simp only [Act.put, List.setIfInBounds_toArray, List.set_cons_zero, List.set_cons_succ]
              refine take_skip 9 (some 37) rfl rfl (by kernel_rfl) (by kernel_rfl) (by kernel_rfl) (fun _ _ _ h => h) (by rfl) hHeld ?_
              simp only [Act.put, List.setIfInBounds_toArray, List.set_cons_zero, List.set_cons_succ]
              refine take_skip 10 (some 38) rfl rfl (by kernel_rfl) (by kernel_rfl) (by kernel_rfl) (fun _ _ _ h => h) (by rfl) hHeld ?_
              simp only [Act.put, List.setIfInBounds_toArray, List.set_cons_zero, List.set_cons_succ]
              refine take_skip 11 (some 39) rfl rfl (by kernel_rfl) (by kernel_rfl) (by kernel_rfl) (fun _ _ _ h => h) (by rfl) hHeld ?_
              simp only [Act.put, List.setIfInBounds_toArray, List.set_cons_zero, List.set_cons_succ]
              refine take_skip 12 (some 40) rfl rfl (by kernel_rfl) (by kernel_rfl) (by kernel_rfl) (fun _ _ _ h => h) (by rfl) hHeld ?_
              simp only [Act.put, List.setIfInBounds_toArray, List.set_cons_zero, List.set_cons_succ]
              refine take_skip 13 (some 41) rfl rfl (by kernel_rfl) (by kernel_rfl) (by kernel_rfl) (fun _ _ _ h => h) (by rfl) hHeld ?_
              simp only [Act.put, List.setIfInBounds_toArray, List.set_cons_zero, List.set_cons_succ]
              refine take_skip 14 (some 42) rfl rfl (by kernel_rfl) (by kernel_rfl) (by kernel_rfl) (fun _ _ _ h => h) (by rfl) hHeld ?_
              simp only [Act.put, List.setIfInBounds_toArray, List.set_cons_zero, List.set_cons_succ]
              refine take_skip 15 (some 43) rfl rfl (by kernel_rfl) (by kernel_rfl) (by kernel_rfl) (fun _ _ _ h => h) (by rfl) hHeld ?_
              simp only [Act.put, List.setIfInBounds_toArray, List.set_cons_zero, List.set_cons_succ]
              refine take_skip 16 (some 44) rfl rfl (by kernel_rfl) (by kernel_rfl) (by kernel_rfl) (fun _ _ _ h => h) (by rfl) hHeld ?_
              simp only [Act.put, List.setIfInBounds_toArray, List.set_cons_zero, List.set_cons_succ]
              refine take_run 17 (some 45) (v := ?_) rfl rfl (by kernel_rfl) (by kernel_rfl) (by kernel_rfl) (fun _ _ _ h => h) (by rfl) ?_ hHeld ?_
              rotate_left
              · ((intro w hSw); (try dsimp only at hSw); go_simp <;> with_reducible rfl)
              simp only [Act.put, List.setIfInBounds_toArray, List.set_cons_zero, List.set_cons_succ]
              refine wpAnyH_done (by kernel_rfl) ?_ _
              refine NoPanic.normal ?_
              go_wp2_with fail
              go_meet
              exact ⟨false, rfl, ⟨fun h => (by cases h), fun _ x hx => absurd (List.getElem?_eq_some_iff.1 hx).1 hpl⟩, hHeld.2, hHeld.1⟩
          case rest =>
            obtain ⟨b, rfl, HB, C3, I3⟩ := hcut
            rename World => w3
            clear C2 I2
            have hus : us.length ≤ 4 := by have := HU.out.1; have := lackN_len xs ys k; omega
            cases b
            · have HIA : Hid (InsAt us va p) := ⟨HP.out.1, HP.out.2, HB.out.2 rfl⟩
              have hp1 : p ≤ us.length := HIA.out.1
              have hcap : us.length ≤ xc := C3.out.caps.1
              clear HP HB
              have c3 := (I3.nth 1 rfl).one.1
              have j1 : (0 : Int) ≤ (p : Int) := by omega
              have j2 : (p : Int) ≤ (xc : Int) := by omega
              have j3 : (p : Int) ≤ (us.length : Int) := by omega
              have zb := I3.base
              have HOW1 : Hid ((w3.alloc (.cells #[] 51)).ownsRow (w.heap.size + 1 + 1) 51 6 (.slice (some ⟨w3.heap.size, 0, none⟩) 0 0) 0 []) := World.ownsRow_made (base := w.heap.size + 1 + 1) (e := 51) (size := 6) w3 #[] 0 (by have := I3.room; omega) (by unfold maxLen; omega) rfl
              have HN1 := hide ((C3.out.on (below_alloc1 w3 (.cells #[] 51))).newsTake (p := p) rfl)
              go_wp2_with (at_builtin; (refine wpList_append_more _ rfl (.tmp 48) (.tmp 51) 33 rfl (w.heap.size + 1 + 1) 51 j0 _ 6 72 Tryz.underlying33 J0.out J1.out J2.out J3.out rfl (by omega) w3.heap.size 0 0 [] rfl HOW1.out (some ⟨G, 0, none⟩) p xc (flat6 (us.take p)) rfl (by rw [flat6_len, List.length_take]; omega) (fun _ => ⟨_, rfl, HN1.out⟩) (flat6_one _) (by unfold maxLen; omega) (by omega) (by have := I3.room; simp; omega) _ rfl ?_; intro g1 cap1 w4 hown1 hgrow1 hat1; rw [Nat.zero_add] at hown1 ⊢; rw [List.nil_append] at hown1; have HB4 := hide (below_rows (below_alloc1 w3 _) hgrow1 (Nat.le_refl _)); have I4 := I3.on HB4.out; have c4 := (I4.nth 1 rfl).one.1; have s4 := (HSA.out _ I4.below).1; have HOW4 := hide hown1; have hg1 : w3.heap.size ≤ g1 := (by rcases hat1 with q | q <;> (rw [q]; first | exact Nat.le_refl _ | simp)); have HC4 := hide (C3.out.on HB4.out); clear hown1 hgrow1 hat1 c3))
              have HT4 := hide (HSA.out _ I4.below).2
              have HMV := hide (HMA.out va (List.mem_of_getElem? HVA.out))
              refine (l2Copy_any va w4 HMV.out HT4.out).mono ?_
              rintro e w5 ⟨v', rfl, hlike, hown, hb5⟩
              have HLK := hide hlike
              have HOV := hide hown
              have HB5 := hide hb5
              have z4 := HB4.out.size
              have z5 := hb5.size
              have I5 := I4.on hb5
              have L5 := hide ((HB4.out.trans (hb5.mono z4)).trans ((below_alloc1 w5 (.cells (verC v'.k v'.t v'.u v'.a v'.ts.length v'.c v'.s v'.g) 51)).mono (by omega : w3.heap.size ≤ w5.heap.size)))
              have HOW5 : Hid (w5.ownsRow (w.heap.size + 1 + 1) 51 6 (.slice (some ⟨g1, 0, none⟩) p cap1) p (flat6 (us.take p))) := World.ownsRow.kept HOW4.out (grown_none (row := none) hb5) (Classical.em _)
              have zr := I3.room
              have j4 : (us.length : Int) ≤ (xc : Int) := by omega
              clear hlike hown hb5 I4 c4 s4 HOW4 HC4 HT4
              have tk2 : True := trivial
              go_wp2_with (at_builtin; first | (clear tk2; (refine wpList_append_lies _ rfl (.tmp 53) (.tmp 60) 33 rfl (w.heap.size + 1 + 1) 51 j0 _ 6 72 Tryz.underlying33 J0.out J1.out J2.out J3.out rfl (by omega) (.slice (some ⟨g1, 0, none⟩) p cap1) p (flat6 (us.take p)) rfl (HOW5.out.alloc _) ⟨w5.heap.size, 0, none⟩ 1 1 (cells6 v') rfl rfl (World.news_of_block (cs := verC v'.k v'.t v'.u v'.a v'.ts.length v'.c v'.s v'.g) (by simpa using heap_alloc_new w5 (.cells (verC v'.k v'.t v'.u v'.a v'.ts.length v'.c v'.s v'.g) 51))) (by simp [cells6, Value.oneCell']) (by omega) (by unfold maxLen; omega) (by omega) (by simp; omega) _ rfl ?_; intro g2 cap2 w6 hown2 hgrow2 hat2 hlt2; have HB6 := hide (below_rows L5.out hgrow2 hg1); have HOW6 := hide hown2; have HGW6 := hide hgrow2; have hg2 : w3.heap.size ≤ g2 := (by rcases hat2 with q | q; (injection q with q; have q' : g1 = g2 := q; omega); (rw [q]; simp; omega)); have HN6 := hide ((C3.out.on HB6.out).newsDrop (p := p) rfl); have z6 := HB6.out.size; clear hown2 hgrow2 hat2 hlt2)) | ((refine wpList_append_more _ rfl (.tmp 62) (.tmp 65) 33 rfl (w.heap.size + 1 + 1) 51 j0 _ 6 72 Tryz.underlying33 J0.out J1.out J2.out J3.out rfl (by omega) g2 (p + 1) cap2 (flat6 (us.take p) ++ cells6 v') rfl HOW6.out _ (us.length - p) _ (flat6 (us.drop p)) rfl (by rw [flat6_len, List.length_drop]) (fun hm => ⟨⟨G, p * 6, none⟩, by first | rfl | (split <;> first | rfl | (exfalso; omega)), HN6.out⟩) (flat6_one _) (by unfold maxLen; omega) (by omega) (by omega) _ rfl ?_; intro g3 cap3 w7 hown3 hgrow3 hat3; have HB7 := hide (below_rows HB6.out hgrow3 hg2); have HOW7 := hide hown3; have HGW7 := hide hgrow3; clear hown3 hgrow3 hat3)))
              all_goals
                have hl : (us.take p ++ v' :: us.drop p).length = p + 1 + (us.length - p) := by
                  simp only [List.length_append, List.length_cons, List.length_take, List.length_drop]
                  omega
                have hO7 : Own1 w7 w4.heap.size w7.heap.size v' := ((((HOV.out.on (below_alloc1 w5 _)).tk (tk_grown (HOW5.out.alloc _) HGW6.out)).tk (tk_grown HOW6.out HGW7.out)).wide (by have := HGW7.out.size; have := HGW6.out.size; simp at this; omega))
                have hC7 := C3.out.ins (n := p + 1 + (us.length - p)) (x' := .slice (some ⟨g3, 0, none⟩) (p + 1 + (us.length - p)) cap3) hp1 HB7.out z4 hO7 (by omega) (by rw [flat6_append, flat6_cons, ← List.append_assoc]; exact HOW7.out)
                refine ⟨⟨k + 1, g3, cap3, us.take p ++ v' :: us.drop p, by omega, by rw [hl], by go_num, ?_, ?_, I3.on HB7.out⟩, by simp [intOf]; omega⟩
                · unfold Hid
                  rw [HU1.out]
                  have h1 := insL_like HU.out (vlike_refl va)
                  refine ll_trans ?_ h1
                  rw [insL_at HIA.out]
                  exact ll_ins (ll_refl us) hp1 HLK.out
                · unfold Hid
                  rw [hl]
                  exact hC7
            · have hq1 := (HB.out.1 rfl).1
              have hp4 : p < 4 := by omega
              have HQ2 := hide (HB.out.1 rfl).2
              go_wp2
              refine ⟨⟨p + 1, by go_num, ⟨by omega, fun j x hj hx => ?_⟩, C3, I3⟩, by simp [intOf]; omega⟩
              by_cases e : j = p
              · subst e
                exact HQ2.out x hx
              · exact HP.out.2 j x (by omega) hx
    · have hk4 : k = 4 := by omega
      subst hk4
      clear hlt
      go_wp2
      go_ret
      exact ⟨_, us, rfl, HU.out, HC.out.down (by omega), hI.below⟩
end Go.Proofs.YtjnloillcgeodaaGreat
/- What ChainFall answers, said plainly; a row of some nodes of another. No condition. -/
namespace Go.Proofs.YtjnloillcgeodaaGreat
open Go.RowKit Go.Joins

/-- A node to which waits what the next one has not. -/
def lackNd (n m : Nd) : Nd := ⟨n.sa, n.sc, n.ss, n.wa, n.wc, lackN n.ss m.ss 4⟩
/-- The node ahead of where one fell passes on what the next one has not. -/
def owedN (r : List Nd) (k : Nat) : List Nd := match r[k - 1]?, r[k]? with | some n, some m => if 0 < k then r.set (k - 1) (lackNd n m) else r | _, _ => r
/-- At the last nothing waits. -/
def lastN (r : List Nd) : List Nd := match r[r.length - 1]? with | some n => r.set (r.length - 1) (bare n) | none => r
/-- A chain without a node. -/
def fallG (ns : List Nd) (k : Nat) : List Nd := lastN (owedN (ns.eraseIdx k) k)
/-- What ChainFall answers. -/
def fallB (ns : List Nd) (k : Int) : Bool := decide (2 ≤ ns.length) && decide (0 ≤ k ∧ k < (ns.length : Int))
def fallN (ns : List Nd) (k : Int) : List Nd := if chainB ns = true then (if fallB ns k = true then fallG ns k.toNat else ns) else []
def fallK (ns : List Nd) (k : Int) : Bool := chainB ns && fallB ns k
theorem fallN_no {ns : List Nd} {k : Int} (h : chainB ns = false) : fallN ns k = [] ∧ fallK ns k = false := by unfold fallN fallK; rw [h]; exact ⟨rfl, rfl⟩
theorem fallN_not {ns : List Nd} {k : Int} (h : chainB ns = true) (hc : fallB ns k = false) : fallN ns k = ns ∧ fallK ns k = false := by unfold fallN fallK; rw [h, hc]; exact ⟨rfl, rfl⟩
theorem fallN_yes {ns : List Nd} {k : Int} (h : chainB ns = true) (hc : fallB ns k = true) : fallN ns k = fallG ns k.toNat ∧ fallK ns k = true := by unfold fallN fallK; rw [h, hc]; exact ⟨rfl, rfl⟩
theorem owedN_len (r : List Nd) (k : Nat) : (owedN r k).length = r.length := by
  unfold owedN
  split
  · split
    · rw [List.length_set]
    · rfl
  · rfl
theorem lastN_len (r : List Nd) : (lastN r).length = r.length := by
  unfold lastN
  split
  · rw [List.length_set]
  · rfl
theorem erase_len {us : List Nd} {k : Nat} (h : k < us.length) : (us.eraseIdx k).length = us.length - 1 := List.length_eraseIdx_of_lt h
theorem fallG_len {us : List Nd} {k : Nat} (h : k < us.length) : (fallG us k).length = us.length - 1 := by unfold fallG; rw [lastN_len, owedN_len, erase_len h]
theorem owedN_at {r : List Nd} {k : Nat} {n m : Nd} (h0 : 0 < k) (hn : r[k - 1]? = some n) (hm : r[k]? = some m) : owedN r k = r.set (k - 1) (lackNd n m) := by unfold owedN; rw [hn, hm]; simp only [h0, if_true]
theorem owedN_head {r : List Nd} {k : Nat} (h0 : ¬ (0 < k ∧ k < r.length)) : owedN r k = r := by
  unfold owedN
  split
  · split
    · rename_i h1 h2 h3
      exact absurd ⟨h3, (List.getElem?_eq_some_iff.1 h2).1⟩ h0
    · rfl
  · rfl
theorem lastN_at {r : List Nd} {n : Nd} (hn : r[r.length - 1]? = some n) : lastN r = r.set (r.length - 1) (bare n) := by unfold lastN; rw [hn]
theorem nl_erase {us ns : List Nd} (h : NL us ns) (k : Nat) : NL (us.eraseIdx k) (ns.eraseIdx k) := by
  refine ⟨by rw [List.length_eraseIdx, List.length_eraseIdx, h.1], fun i x y hx hy => ?_⟩
  rw [List.getElem?_eraseIdx] at hx hy
  split at hx
  · rename_i hik
    rw [if_pos hik] at hy
    exact h.2 i x y hx hy
  · rename_i hik
    rw [if_neg hik] at hy
    exact h.2 (i + 1) x y hx hy
theorem lackNd_like {n m n' m' : Nd} (h : Nd.like n n') (hm : Nd.like m m') : Nd.like (lackNd n m) (lackNd n' m') := by
  have := lackN_like (xs := n.ss) (ys := m.ss) (xs' := n'.ss) (ys' := m'.ss) ⟨h.1, h.2.1⟩ ⟨hm.1, hm.2.1⟩ 4
  exact ⟨h.1, h.2.1, this.1, this.2⟩
theorem bare_like' {n m : Nd} (h : Nd.like n m) : Nd.like (bare n) (bare m) := ⟨h.1, h.2.1, rfl, like_refl _⟩
theorem owedN_like {us ns : List Nd} (h : NL us ns) (k : Nat) : NL (owedN us k) (owedN ns k) := by
  by_cases hc : 0 < k ∧ k < us.length
  · obtain ⟨n, hn⟩ : ∃ n, us[k - 1]? = some n := ⟨_, List.getElem?_eq_getElem (by omega)⟩
    obtain ⟨m, hm⟩ : ∃ m, us[k]? = some m := ⟨_, List.getElem?_eq_getElem hc.2⟩
    obtain ⟨n', hn', hl⟩ := nl_at h hn
    obtain ⟨m', hm', hl'⟩ := nl_at h hm
    rw [owedN_at hc.1 hn hm, owedN_at hc.1 hn' hm']
    exact nl_set h (lackNd_like hl hl')
  · rw [owedN_head hc, owedN_head (by rw [← h.1]; exact hc)]
    exact h
theorem lastN_like {us ns : List Nd} (h : NL us ns) : NL (lastN us) (lastN ns) := by
  cases hx : us[us.length - 1]? with
  | none =>
    have h1 : lastN us = us := by unfold lastN; rw [hx]
    have h2 : lastN ns = ns := by unfold lastN; rw [← h.1, nl_none h hx]
    rw [h1, h2]
    exact h
  | some n =>
    obtain ⟨m, hm, hl⟩ := nl_at h hx
    rw [lastN_at hx, lastN_at (by rw [← h.1]; exact hm), ← h.1]
    exact nl_set h (bare_like' hl)
theorem fallG_like {us ns : List Nd} (h : NL us ns) (k : Nat) : NL (fallG us k) (fallG ns k) := lastN_like (owedN_like (nl_erase h k) k)
/-- A row of some of the nodes of another, in other memory; what these own stays where it is. -/
theorem GRow.pick {base : Nat} {wr w2 : World} {x x' : Value} {us us' : List Nd} {n : Nat} (h : GRow base wr x us) (hb : Below wr.heap.size wr w2) (f : Nat → Nat) (hf : ∀ (i : Nat) y, us'[i]? = some y → us[f i]? = some y) (hinj : ∀ i j, i ≠ j → f i ≠ f j) (hn : n = us'.length) (hrow : w2.ownsRow base 37 2 x' n (flatN us')) : GRow base w2 x' us' := by
  have h2 := h.on hb
  exact ⟨hn ▸ hrow, fun i y hi => h2.store _ y (hf i y hi), fun i y hi => h2.wait _ y (hf i y hi), fun i y hi => h2.two _ y (hf i y hi), fun i j y y' hne hi hj => h2.apart _ _ y y' (hinj i j hne) (hf i y hi) (hf j y' hj), h2.lo, fun i y hi => h2.own _ y (hf i y hi)⟩
theorem flatN_append (us vs : List Nd) : flatN (us ++ vs) = flatN us ++ flatN vs := by simp [flatN]
theorem flatN_len (us : List Nd) : (flatN us).length = us.length * 2 := by
  induction us with
  | nil => rfl
  | cons x r ih => simp [flatN, cellsN] at *; omega
theorem flatN_one (us : List Nd) : ∀ u ∈ flatN us, u.oneCell' = true := fun u hu => by
  simp only [flatN, List.mem_flatMap] at hu
  obtain ⟨x, _, hx⟩ := hu
  simp only [cellsN, List.mem_cons, List.not_mem_nil, or_false] at hx
  rcases hx with rfl | rfl <;> rfl
theorem GRow.erased {base : Nat} {wr w2 : World} {x x' : Value} {us : List Nd} {n k : Nat} (h : GRow base wr x us) (hb : Below wr.heap.size wr w2) (hk : k < us.length) (hn : n = us.length - 1) (hrow : w2.ownsRow base 37 2 x' n (flatN (us.take k) ++ flatN (us.drop (k + 1)))) : GRow base w2 x' (us.eraseIdx k) :=
  h.pick (n := n) hb (fun i => if i < k then i else i + 1) (fun i y hi => by
    rw [List.getElem?_eraseIdx] at hi
    by_cases e : i < k
    · rw [if_pos e] at hi ⊢
      exact hi
    · rw [if_neg e] at hi ⊢
      exact hi) (fun i j hne => by
    show (if i < k then i else i + 1) ≠ (if j < k then j else j + 1)
    split <;> split <;> omega) (by rw [erase_len hk]; exact hn) (by rw [List.eraseIdx_eq_take_drop_succ, flatN_append]; exact hrow)
theorem GRow.newsTake {base : Nat} {w : World} {g c p : Nat} {us : List Nd} (h : GRow base w (.slice (some ⟨g, 0, none⟩) us.length c) us) : ∀ (j : Nat) u, (flatN (us.take p))[j]? = some u → w.cell? ((⟨g, 0, none⟩ : Addr).add j) = some u := fun j u hu => by
  have hj := (List.getElem?_eq_some_iff.1 hu).1
  rw [flatN_len, List.length_take] at hj
  have hadd : (⟨g, 0, none⟩ : Addr).add j = ⟨g, j, none⟩ := by unfold Addr.add; split <;> simp_all
  rw [hadd, World.ownsRow.cellAt (n := us.length) h.row j (by omega)]
  have e : flatN us = flatN (us.take p) ++ flatN (us.drop p) := by rw [← flatN_append, List.take_append_drop]
  rw [e, List.getElem?_append_left (by rw [flatN_len, List.length_take]; exact hj)]
  exact hu
theorem GRow.newsDrop {base : Nat} {w : World} {g c p : Nat} {us : List Nd} (h : GRow base w (.slice (some ⟨g, 0, none⟩) us.length c) us) : ∀ (j : Nat) u, (flatN (us.drop p))[j]? = some u → w.cell? ((⟨g, p * 2, none⟩ : Addr).add j) = some u := fun j u hu => by
  have hj := (List.getElem?_eq_some_iff.1 hu).1
  rw [flatN_len, List.length_drop] at hj
  have hadd : (⟨g, p * 2, none⟩ : Addr).add j = ⟨g, p * 2 + j, none⟩ := by unfold Addr.add; split <;> simp_all
  rw [hadd, World.ownsRow.cellAt (n := us.length) h.row (p * 2 + j) (by omega)]
  have e : flatN us = flatN (us.take p) ++ flatN (us.drop p) := by rw [← flatN_append, List.take_append_drop]
  have hl : (flatN (us.take p)).length = p * 2 := by rw [flatN_len, List.length_take]; omega
  rw [e, List.getElem?_append_right (by omega), hl, show p * 2 + j - p * 2 = j by omega]
  exact hu
theorem GRow.caps {base : Nat} {w : World} {g n c : Nat} {us : List Nd} (h : GRow base w (.slice (some ⟨g, 0, none⟩) n c) us) : us.length ≤ c ∧ g < w.heap.size := by
  rcases h.row.2 with ⟨q, _⟩ | ⟨g', cap, cr, q, _, h2, h3, _⟩
  · cases q
  · injection q with q1 q2 q3
    injection q1 with q1
    injection q1 with q1
    subst q1 q3
    exact ⟨h3, Blk.inside (show Blk w g 37 cr from h2)⟩
end Go.Proofs.YtjnloillcgeodaaGreat
