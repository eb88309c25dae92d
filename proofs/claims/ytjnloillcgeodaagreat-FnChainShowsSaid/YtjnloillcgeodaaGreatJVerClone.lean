/- Contracts of whether two versions, two slices of versions are the same, in the program and in the model. Condition: what is said of each. -/
import Derived.Test.YtjnloillcgeodaaGreatJStoreOk
import Derived.Test.YtjnloillcgeodaaGreatJPutPure
import Derived.Test.YtjnloillcgeodaaGreatJLift0
import Derived.Test.YtjnloillcgeodaaGreatJVerOk0
import Derived.Laws.BytesString
import Derived.Laws.Concat
import Derived.Deep.AppendLies
namespace Go.Proofs.YtjnloillcgeodaaGreat
open Go.RowKit Go.Joins
attribute [local go_sem ↓] Go.wp_at_zero Go.wp_at_succ

theorem tagEq_at (a b t u : Int) (W : World) : (binOp .eql 49 (.agg #[.int .i64 a, .int .i64 b]) (.agg #[.int .i64 t, .int .i64 u])).run Tryz.prog W = .ok (.bool (eqB a b t u)) W := by
  by_cases ht : a = t
  · subst ht
    by_cases hp : b = u
    · subst hp
      rw [eqB_same]
      go_simp
    · have h : eqB a b a u = false := by unfold eqB; simpa using hp
      rw [h]
      go_simp
  · have h : eqB a b t u = false := by unfold eqB; simp [ht]
    rw [h]
    go_simp
theorem tagNe_at (a b t u : Int) (W : World) : (binOp .neq 49 (.agg #[.int .i64 a, .int .i64 b]) (.agg #[.int .i64 t, .int .i64 u])).run Tryz.prog W = .ok (.bool (!eqB a b t u)) W := by
  by_cases ht : a = t
  · subst ht
    by_cases hp : b = u
    · subst hp
      rw [eqB_same]
      go_simp
    · have h : eqB a b a u = false := by unfold eqB; simpa using hp
      rw [h]
      go_simp
  · have h : eqB a b t u = false := by unfold eqB; simp [ht]
    rw [h]
    go_simp
theorem str_same (s s' : ByteArray) : (s.toList == s'.toList) = decide (s = s') := by
  rw [Bool.eq_iff_iff, beq_iff_eq, decide_eq_true_eq, ByteArray.toList_eq, ByteArray.toList_eq]
  exact ⟨bl_inj, fun h => by rw [h]⟩
set_option maxRecDepth 100000 in
set_option maxHeartbeats 2000000 in
theorem equalTags_any (a a' : Option Addr) (c c' : Nat) (ts us : List (Int × Int)) (w : World) (hn : ts.length ≤ 1048576) (_hn' : us.length ≤ 1048576) (ht : Tg w w.heap.size a ts) (hu : Tg w w.heap.size a' us) :
    Calls Tryz.prog 110 #[.slice a ts.length c, .slice a' us.length c'] w fun e w' => e = .returned (.bool (decide (ts = us))) ∧ Below w.heap.size w w' := by
  by_cases hlen : ts.length = us.length
  · have hd : Hid (ts.take ts.length = us.take us.length ↔ ts = us) := by unfold Hid; rw [List.take_length, List.take_length]
    generalize hnn : ts.length = n at *
    rw [← hlen] at hd ⊢
    have HN := hide hnn
    have HL := hide hlen
    clear hnn hlen
    go_enter Tryz.func110, Tryz.ntmps110
    go_wp2
    go_loopw [13] (fun i wr => ∃ k : Nat, k ≤ n ∧ i = .int .i64 (k : Int) ∧ Hid (ts.take k = us.take k) ∧ Below w.heap.size w wr) (fun i _ => n - (intOf i).toNat)
    case atStart => exact ⟨0, Nat.zero_le _, rfl, by simp [Hid], Below.refl _ _⟩
    case round =>
      obtain ⟨k, hk, rfl, heq, hL⟩ := hrel
      by_cases hlt : k < n
      · rcases ht with h0 | ⟨b, off, rfl, hb, hx⟩
        · have := HN.out; subst h0; simp at this; omega
        · rcases hu with h0 | ⟨b', off', rfl, hb', hx'⟩
          · have := HL.out; subst h0; simp at this; omega
          · have hkl : k < ts.length := by have := HN.out; omega
            have hkl' : k < us.length := by have := HL.out; omega
            obtain ⟨hc0, hc1⟩ := hx k _ (List.getElem?_eq_getElem hkl)
            obtain ⟨hd0, hd1⟩ := hx' k _ (List.getElem?_eq_getElem hkl')
            have c0 := (hL.cell (p := ⟨b, off + k * 2, none⟩) hb).trans hc0
            have c1 := (hL.cell (p := ⟨b, off + k * 2 + 1, none⟩) hb).trans hc1
            have d0 := (hL.cell (p := ⟨b', off' + k * 2, none⟩) hb').trans hd0
            have d1 := (hL.cell (p := ⟨b', off' + k * 2 + 1, none⟩) hb').trans hd1
            have HX := hide (List.getElem?_eq_getElem hkl)
            have HY := hide (List.getElem?_eq_getElem hkl')
            generalize ts[k] = x at c0 c1 HX
            generalize us[k] = y at d0 d1 HY
            obtain ⟨x1, x2⟩ := x
            obtain ⟨y1, y2⟩ := y
            simp only at c0 c1 d0 d1
            clear hc0 hc1 hd0 hd1 hx hx'
            have hne := tagNe_at x1 x2 y1 y2
            have i1 : (0 : Int) ≤ (k : Int) := by omega
            have i2 : (k : Int) < (n : Int) := by omega
            go_wp2_with fail
            refine wp_region_noPanic ?_
            refine wp_region_held_drew (S := (fun w' => w'.cell? ⟨b, off + k * 2, none⟩ = some (.int .i64 x1) ∧ w'.cell? ⟨b, off + k * 2 + 1, none⟩ = some (.int .i64 x2) ∧ w'.cell? ⟨b', off' + k * 2, none⟩ = some (.int .i64 y1) ∧ w'.cell? ⟨b', off' + k * 2 + 1, none⟩ = some (.int .i64 y2) ∧ Below w.heap.size w w')) (by kernel_rfl) (by exact ⟨c0, c1, d0, d1, hL.drew⟩) (fun hHeld => ?_)
            refine take_run 0 (some 16) (v := ?_) rfl rfl (by kernel_rfl) (by kernel_rfl) (by kernel_rfl) (fun _ _ _ h => h) (by rfl) ?_ hHeld ?_
            rotate_left
            · ((intro w hSw); (try dsimp only at hSw); go_simp <;> with_reducible rfl)
            simp only [Act.put, List.setIfInBounds_toArray, List.set_cons_zero, List.set_cons_succ]
            refine take_run 1 (some 17) (v := ?_) rfl rfl (by kernel_rfl) (by kernel_rfl) (by kernel_rfl) (fun _ _ _ h => h) (by rfl) ?_ hHeld ?_
            rotate_left
            · ((intro w hSw); (try dsimp only at hSw); go_simp <;> with_reducible rfl)
            simp only [Act.put, List.setIfInBounds_toArray, List.set_cons_zero, List.set_cons_succ]
            refine take_run 2 (some 18) (v := ?_) rfl rfl (by kernel_rfl) (by kernel_rfl) (by kernel_rfl) (fun _ _ _ h => h) (by rfl) ?_ hHeld ?_
            rotate_left
            · ((intro w hSw); (try dsimp only at hSw); go_simp <;> with_reducible rfl)
            simp only [Act.put, List.setIfInBounds_toArray, List.set_cons_zero, List.set_cons_succ]
            refine take_run 3 (some 19) (v := ?_) rfl rfl (by kernel_rfl) (by kernel_rfl) (by kernel_rfl) (fun _ _ _ h => h) (by rfl) ?_ hHeld ?_
            rotate_left
            · ((intro w hSw); (try dsimp only at hSw); go_simp <;> with_reducible rfl)
            simp only [Act.put, List.setIfInBounds_toArray, List.set_cons_zero, List.set_cons_succ]
            refine take_run 4 (some 20) (v := ?_) rfl rfl (by kernel_rfl) (by kernel_rfl) (by kernel_rfl) (fun _ _ _ h => h) (by rfl) ?_ hHeld ?_
            rotate_left
            · ((intro w hSw); (try dsimp only at hSw); go_simp <;> with_reducible rfl)
            simp only [Act.put, List.setIfInBounds_toArray, List.set_cons_zero, List.set_cons_succ]
            refine take_run 5 (some 21) (v := ?_) rfl rfl (by kernel_rfl) (by kernel_rfl) (by kernel_rfl) (fun _ _ _ h => h) (by rfl) ?_ hHeld ?_
            rotate_left
            · ((intro w hSw); (try dsimp only at hSw); go_simp <;> with_reducible rfl)
            simp only [Act.put, List.setIfInBounds_toArray, List.set_cons_zero, List.set_cons_succ]
            refine take_run 6 (some 22) (v := ?_) rfl rfl (by kernel_rfl) (by kernel_rfl) (by kernel_rfl) (fun _ _ _ h => h) (by rfl) ?_ hHeld ?_
            rotate_left
            · ((intro w hSw); (try dsimp only at hSw); go_simp <;> with_reducible rfl)
            simp only [Act.put, List.setIfInBounds_toArray, List.set_cons_zero, List.set_cons_succ]
            refine take_run 7 (some 23) (v := ?_) rfl rfl (by kernel_rfl) (by kernel_rfl) (by kernel_rfl) (fun _ _ _ h => h) (by rfl) ?_ hHeld ?_
            rotate_left
            · ((intro w hSw); (try dsimp only at hSw); go_simp <;> with_reducible rfl)
            simp only [Act.put, List.setIfInBounds_toArray, List.set_cons_zero, List.set_cons_succ]
            refine take_run 8 (some 24) (v := ?_) rfl rfl (by kernel_rfl) (by kernel_rfl) (by kernel_rfl) (fun _ _ _ h => h) (by rfl) ?_ hHeld ?_
            rotate_left
            · ((intro w hSw); (try dsimp only at hSw); go_simp <;> with_reducible rfl)
            simp only [Act.put, List.setIfInBounds_toArray, List.set_cons_zero, List.set_cons_succ]
            refine wpAnyH_done (by kernel_rfl) ?_ _
            refine NoPanic.normal ?_
            have hL2 := hHeld.2.2.2.2
            clear hHeld c0 c1 d0 d1 hL hne
            by_cases hxy : x1 = y1 ∧ x2 = y2
            · obtain ⟨rfl, rfl⟩ := hxy
              rw [eqB_same]
              have HS := hide (take_eq_step HX.out HY.out heq.out rfl)
              clear heq
              go_wp2
              exact ⟨⟨k + 1, by omega, by go_num, HS, hL2⟩, by simp [intOf]; omega⟩
            · have he : eqB x1 x2 y1 y2 = false := decide_eq_false hxy
              rw [he]
              have hf : Hid (decide (ts = us) = false) := decide_eq_false (fun e => hxy (by
                have h1 := HX.out
                have h2 := HY.out
                rw [e, h2] at h1
                injection h1 with h1
                injection h1 with h3 h4
                exact ⟨h3.symm, h4.symm⟩))
              clear hxy he
              go_wp2
              go_ret
              exact ⟨ret_bool hf.out.symm, hL2⟩
      · have hkn : k = n := by omega
        subst hkn
        clear hlt
        have hf : Hid (decide (ts = us) = true) := decide_eq_true (hd.out.1 heq.out)
        clear heq
        go_wp2
        go_ret
        exact ⟨ret_bool hf.out.symm, hL⟩
  · have hd : Hid (decide (ts = us) = false) := decide_eq_false (fun e => hlen (by rw [e]))
    have hne : ((ts.length : Int) != (us.length : Int)) = true := by simp; omega
    clear hlen
    go_enter Tryz.func110, Tryz.ntmps110
    go_wp2
    go_ret
    exact ⟨ret_bool hd.out.symm, Below.refl _ _⟩

/-- Whether two versions say the same. -/
def likeB (v v' : V) : Bool := decide (v.k = v'.k) && eqB v.t v.u v'.t v'.u && decide (v.ts = v'.ts) && decide (v.s = v'.s) && decide (v.g = v'.g)
theorem likeB_iff (v v' : V) : likeB v v' = true ↔ V.like v v' := by
  unfold likeB V.like eqB
  simp only [Bool.and_eq_true, decide_eq_true_eq]
  constructor
  · rintro ⟨⟨⟨⟨h1, h2, h3⟩, h4⟩, h5⟩, h6⟩
    exact ⟨h1, h2, h3, h4, h5, h6⟩
  · rintro ⟨h1, h2, h3, h4, h5, h6⟩
    exact ⟨⟨⟨⟨h1, h2, h3⟩, h4⟩, h5⟩, h6⟩
set_option maxRecDepth 100000 in
set_option maxHeartbeats 2000000 in
theorem verSame_any (k t u : Int) (a : Option Addr) (c : Nat) (ts : List (Int × Int)) (s : ByteArray) (g : Bool) (k' t' u' : Int) (a' : Option Addr) (c' : Nat) (ts' : List (Int × Int)) (s' : ByteArray) (g' : Bool) (w : World) (hn : ts.length ≤ 1048576) (hn' : ts'.length ≤ 1048576) (ht : Tg w w.heap.size a ts) (ht' : Tg w w.heap.size a' ts') :
    Calls Tryz.prog 76 #[.agg (verC k t u a ts.length c s g), .agg (verC k' t' u' a' ts'.length c' s' g')] w fun e w' => e = .returned (.bool (likeB ⟨k, t, u, a, c, ts, s, g⟩ ⟨k', t', u', a', c', ts', s', g'⟩)) ∧ Below w.heap.size w w' := by
  have S0 := ((Inv.start w).box 51 (verC k t u a ts.length c s g)).box 51 (verC k' t' u' a' ts'.length c' s' g')
  simp only [World.size_alloc] at S0
  have q0 := (S0.nth 0 rfl).six.1
  have q1 := (S0.nth 1 rfl).six.1
  by_cases hk : k = k'
  · subst hk
    have hte := tagEq_at t u t' u'
    cases hq : eqB t u t' u'
    · have HF : Hid (likeB ⟨k, t, u, a, c, ts, s, g⟩ ⟨k, t', u', a', c', ts', s', g'⟩ = false) := by unfold Hid likeB; simp [hq]
      rw [hq] at hte
      clear hq
      go_enter Tryz.func76, Tryz.ntmps76
      go_wp2
      go_ret
      exact ⟨ret_bool HF.out.symm, S0.below⟩
    · rw [hq] at hte
      have HQ := hide hq
      have CT := hide (equalTags_any a a' c c' ts ts' ((w.alloc (.cells (verC k t u a ts.length c s g) 51)).alloc (.cells (verC k t' u' a' ts'.length c' s' g') 51)) hn hn' ((ht.on S0.below).up S0.base) ((ht'.on S0.below).up S0.base))
      have hse := str_same s s'
      clear hq ht ht'
      go_enter Tryz.func76, Tryz.ntmps76
      go_wp2_with fail
      with_reducible refine CT.out.mono ?_
      rintro e w1 ⟨rfl, hb1⟩
      have S1 := S0.on hb1
      have p0 := (S1.nth 0 rfl).six.1
      have p1 := (S1.nth 1 rfl).six.1
      clear S0 q0 q1 CT hte hb1
      by_cases h3 : ts = ts'
      · rw [decide_eq_true h3]
        have H3 := hide h3
        clear h3
        by_cases h4 : s = s'
        · rw [decide_eq_true h4] at hse
          have HF : Hid (likeB ⟨k, t, u, a, c, ts, s, g⟩ ⟨k, t', u', a', c', ts', s', g'⟩ = decide (g = g')) := by unfold Hid likeB; simp [HQ.out, H3.out, h4]
          clear h4
          have HG : Hid (decide (g = g') = (g == g')) := by unfold Hid; cases g <;> cases g' <;> rfl
          go_wp2
          go_ret
          exact ⟨ret_bool (by rw [HF.out, HG.out]), S1.below⟩
        · rw [decide_eq_false h4] at hse
          have HF : Hid (likeB ⟨k, t, u, a, c, ts, s, g⟩ ⟨k, t', u', a', c', ts', s', g'⟩ = false) := by unfold Hid likeB; simp [h4]
          clear h4
          go_wp2
          go_ret
          exact ⟨ret_bool HF.out.symm, S1.below⟩
      · rw [decide_eq_false h3]
        have HF : Hid (likeB ⟨k, t, u, a, c, ts, s, g⟩ ⟨k, t', u', a', c', ts', s', g'⟩ = false) := by unfold Hid likeB; simp [h3]
        clear h3
        go_wp2
        go_ret
        exact ⟨ret_bool HF.out.symm, S1.below⟩
  · have HF : Hid (likeB ⟨k, t, u, a, c, ts, s, g⟩ ⟨k', t', u', a', c', ts', s', g'⟩ = false) := by unfold Hid likeB; simp [hk]
    have hk' : (k == k') = false := by simpa using hk
    clear hk
    go_enter Tryz.func76, Tryz.ntmps76
    go_wp2
    go_ret
    exact ⟨ret_bool HF.out.symm, S0.below⟩

/-- Whether two slices of versions say the same. -/
def likesB : List V → List V → Bool
  | [], [] => true
  | v :: vs, u :: us => likeB v u && likesB vs us
  | _, _ => false
theorem likesB_iff (vs us : List V) : likesB vs us = true ↔ vs.length = us.length ∧ Like vs us := by
  induction vs generalizing us with
  | nil =>
    cases us with
    | nil => simp [likesB, Like]
    | cons u us => simp [likesB]
  | cons v vs ih =>
    cases us with
    | nil => simp [likesB]
    | cons u us =>
      rw [likesB, Bool.and_eq_true, likeB_iff, ih]
      constructor
      · rintro ⟨h1, h2, h3⟩
        refine ⟨by simp [h2], fun i x y hx hy => ?_⟩
        cases i with
        | zero =>
          simp only [List.getElem?_cons_zero, Option.some.injEq] at hx hy
          rw [← hx, ← hy]
          exact h1
        | succ i => exact h3 i x y hx hy
      · rintro ⟨h2, h3⟩
        exact ⟨h3 0 v u rfl rfl, by simpa using h2, fun i x y hx hy => h3 (i + 1) x y hx hy⟩
theorem likesB_no {vs us : List V} {i : Nat} {v u : V} (h1 : vs[i]? = some v) (h2 : us[i]? = some u) (h : likeB v u = false) : likesB vs us = false := by
  cases hq : likesB vs us with
  | false => rfl
  | true =>
    have := (likesB_iff vs us).1 hq
    rw [(likeB_iff v u).2 (this.2 i v u h1 h2)] at h
    cases h
set_option maxRecDepth 100000 in
set_option maxHeartbeats 2000000 in
theorem equalFunc_any (a a' : Option Addr) (c c' : Nat) (vs us : List V) (w : World) (hn : vs.length ≤ 1048576) (hm : Small vs) (hm' : Small us) (hv : Vg w w.heap.size a vs) (hu : Vg w w.heap.size a' us) :
    Calls Tryz.prog 75 #[.slice a vs.length c, .slice a' us.length c', .func (.func 76) #[] #[]] w fun e w' => e = .returned (.bool (likesB vs us)) ∧ Below w.heap.size w w' := by
  have HM := hide hm
  have HM' := hide hm'
  clear hm hm'
  by_cases hlen : vs.length = us.length
  · generalize hnn : vs.length = n at *
    rw [← hlen]
    have HN := hide hnn
    have HL := hide hlen
    clear hnn hlen
    go_enter Tryz.func75, Tryz.ntmps75
    go_wp2
    go_loopw [17] (fun i wr => ∃ k : Nat, k ≤ n ∧ i = .int .i64 (k : Int) ∧ Hid (∀ (j : Nat) x y, j < k → vs[j]? = some x → us[j]? = some y → V.like x y) ∧ Below w.heap.size w wr) (fun i _ => n - (intOf i).toNat)
    case atStart => exact ⟨0, Nat.zero_le _, rfl, fun j x y hj => absurd hj (by omega), Below.refl _ _⟩
    case round =>
      obtain ⟨k, hk, rfl, heq, hL⟩ := hrel
      by_cases hlt : k < n
      · rcases hv with h0 | ⟨b, off, rfl, hb, hx⟩
        · have := HN.out; subst h0; simp at this; omega
        · rcases hu with h0 | ⟨b', off', rfl, hb', hx'⟩
          · have := HL.out; subst h0; simp at this; omega
          · have hkl : k < vs.length := by have := HN.out; omega
            have hkl' : k < us.length := by have := HL.out; omega
            obtain ⟨hS, hT⟩ := hx k _ (List.getElem?_eq_getElem hkl)
            obtain ⟨hS2, hT2⟩ := hx' k _ (List.getElem?_eq_getElem hkl')
            have HX := hide (List.getElem?_eq_getElem hkl)
            have HY := hide (List.getElem?_eq_getElem hkl')
            generalize vs[k] = v at hS hT HX
            generalize us[k] = v' at hS2 hT2 HY
            have HB := hide (HM.out v (List.mem_of_getElem? HX.out)).1
            have HB' := hide (HM'.out v' (List.mem_of_getElem? HY.out)).1
            obtain ⟨vk, vt, vu, va, vc, vts, vs', vg⟩ := v
            obtain ⟨uk, ut, uu, ua, uc, uts, us', ug⟩ := v'
            have Q1 := (hS.keep hb fun _ hp => hL.cell hp)
            have hLa := hL.trans ((below_alloc1 wr (.cells (verC vk vt vu va vts.length vc vs' vg) 51)).mono hL.size)
            have Q2 := (hS2.keep hb' fun _ hp => hLa.cell hp)
            simp only at Q1 Q2 hT hT2
            have T1 := hide hT
            have T2 := hide hT2
            clear hS hS2 hT hT2 hx hx'
            have i1 : (0 : Int) ≤ (k : Int) := by omega
            have i2 : (k : Int) < (n : Int) := by omega
            have S0 := (((Inv.start w).on hL).top.box 51 (verC vk vt vu va vts.length vc vs' vg)).box 51 (verC uk ut uu ua uts.length uc us' ug)
            simp only [World.size_alloc] at S0
            go_wp2_with fail
            generalize (wr.alloc (.cells (verC vk vt vu va vts.length vc vs' vg) 51)).alloc (.cells (verC uk ut uu ua uts.length uc us' ug) 51) = W at S0 ⊢
            refine (verSame_any vk vt vu va vc vts vs' vg uk ut uu ua uc uts us' ug W HB.out HB'.out ((T1.out.on S0.below).up S0.base) ((T2.out.on S0.below).up S0.base)).mono ?_
            rintro e w1 ⟨rfl, hb1⟩
            have S1 := S0.on hb1
            clear S0 Q1 Q2 hLa hL
            cases hq : likeB ⟨vk, vt, vu, va, vc, vts, vs', vg⟩ ⟨uk, ut, uu, ua, uc, uts, us', ug⟩
            · have HF := hide (likesB_no HX.out HY.out hq)
              clear hq
              go_wp2
              go_ret
              exact ⟨ret_bool HF.out.symm, S1.below⟩
            · have HS : Hid (∀ (j : Nat) x y, j < k + 1 → vs[j]? = some x → us[j]? = some y → V.like x y) := fun j x y hj hx hy => by
                by_cases e : j = k
                · subst e
                  have h1 := HX.out
                  have h2 := HY.out
                  rw [h1] at hx
                  rw [h2] at hy
                  injection hx with hx
                  injection hy with hy
                  rw [← hx, ← hy]
                  exact (likeB_iff _ _).1 hq
                · exact heq.out j x y (by omega) hx hy
              clear hq heq
              go_wp2
              exact ⟨⟨k + 1, by omega, by go_num, HS, S1.below⟩, by simp [intOf]; omega⟩
      · have hkn : k = n := by omega
        subst hkn
        clear hlt
        have hf : Hid (likesB vs us = true) := (likesB_iff vs us).2 ⟨by have := HN.out; have := HL.out; omega, fun i x y hx hy => heq.out i x y (by have := (List.getElem?_eq_some_iff.1 hx).1; have := HN.out; omega) hx hy⟩
        clear heq
        go_wp2
        go_ret
        exact ⟨ret_bool hf.out.symm, hL⟩
  · have hd : Hid (likesB vs us = false) := by
      cases hq : likesB vs us with
      | false => rfl
      | true => exact absurd ((likesB_iff vs us).1 hq).1 hlen
    have hne : ((vs.length : Int) != (us.length : Int)) = true := by simp; omega
    clear hlen
    go_enter Tryz.func75, Tryz.ntmps75
    go_wp2
    go_ret
    exact ⟨ret_bool hd.out.symm, Below.refl _ _⟩
end Go.Proofs.YtjnloillcgeodaaGreat
/- Contract of the laws' function that writes a number as a text. Condition: the number is at least 1 and at most 8388000. -/
namespace Go.Proofs.YtjnloillcgeodaaGreat
open Go.RowKit Go.Joins

/-- The digits of m, ahead of s. -/
def mtx : Nat → Int → ByteArray → ByteArray
  | 0, _, s => s
  | f + 1, m, s => if m ≤ 0 then s else mtx f (m / 10) (⟨#[UInt8.ofNat (48 + m % 10).toNat]⟩ ++ s)
/-- The text that tells the number k. -/
def markT (k : Int) : ByteArray := ⟨#[109]⟩ ++ mtx k.toNat k ⟨#[]⟩
end Go.Proofs.YtjnloillcgeodaaGreat
/- Contracts of the laws' functions that write marks into a vector's own memory and look whether they stand. Condition: at most 1048576 tags, marks within bounds. -/
namespace Go.Proofs.YtjnloillcgeodaaGreat
open Go.RowKit Go.Joins

/-- The marks that n tags bear, from number k on. -/
def marksL (k : Int) (n : Nat) : List (Int × Int) := (List.range n).map fun (i : Nat) => (k + 2 * (i : Int), k + 2 * (i : Int) + 1)
/-- One known block has turned; the others are as they were. -/
theorem Inv.turn {w w1 w2 : World} {n g : Nat} {bs bs' : List (Nat × TypeId × Array Value)} (h : Inv w n bs w1) (hg : w1.grownBy w2 (some g)) (hw : w.heap.size ≤ g)
    (hs : ∀ x ∈ bs', (x ∈ bs ∧ x.1 ≠ g) ∨ (x.1 = g ∧ g < n ∧ Blk w2 g x.2.1 x.2.2)) : Inv w n bs' w2 := by
  refine ⟨h.below.grown hg h.below.size (fun k hk => by injection hk; omega), Nat.le_trans h.room hg.size, fun x hx => ?_⟩
  rcases hs x hx with ⟨hm, hne⟩ | ⟨rfl, hlt, hb⟩
  · exact ⟨(h.blk x hm).1, (h.blk x hm).2.1, (h.blk x hm).2.2.kept hg (by intro e; injection e; omega)⟩
  · exact ⟨hw, hlt, hb⟩

/-- What marking leaves: the marks in the row's own block; no other block has turned. -/
def MarkedS (w : World) (g : Nat) (T : TypeId) (size n : Nat) (k : Int) (e : Ending) (w' : World) : Prop :=
  e = .returned (.int .i64 (k + 2 * (n : Int))) ∧ (∃ cur', Blk w' g T cur' ∧ cur'.size = size ∧ ∀ i x, (marksL k n)[i]? = some x → TagAt cur' i x) ∧ w.grownBy w' (some g)

end Go.Proofs.YtjnloillcgeodaaGreat
/- What it is that every block of tags stays as it is. Of whatever program that has tags. -/
namespace Go.Proofs.YtjnloillcgeodaaGreat
open Go.RowKit Go.Joins

/-- Every block of tags stays as it is. -/
def Tk (w w' : World) : Prop := ∀ g cur, Blk w g 49 cur → Blk w' g 49 cur
theorem Tk.below {w w' : World} (h : Below w.heap.size w w') : Tk w w' := fun _ _ hb => hb.on h
theorem Tk.drew (w : World) : Tk w w.drew := fun _ _ hb => hb
theorem Tk.alloc (w : World) (o : Obj) : Tk w (w.alloc o) := fun _ _ hb => hb.more o
theorem Tk.trans {a b c : World} (h : Tk a b) (k : Tk b c) : Tk a c := fun g cur hb => k g cur (h g cur hb)
theorem blk_type {w : World} {g : Nat} {T T' : TypeId} {cs cs' : Array Value} (h : Blk w g T cs) (h' : Blk w g T' cs') : T = T' ∧ cs = cs' := by
  unfold Blk at h h'
  rw [h] at h'
  injection h' with h'
  injection h' with h1 h2 h3
  exact ⟨h2, h1⟩
theorem Tk.set {w : World} {p : Addr} {T : TypeId} {cs : Array Value} (hb : Blk w p.block T cs) (hT : T ≠ 49) (u : Value) : Tk w (w.setCell p u) := fun _ _ h => h.aside (fun e => by
  subst e
  exact hT (blk_type hb h).1) u
theorem Tk.grown {w w' : World} {row : Option Nat} (hg : w.grownBy w' row) (hr : ∀ r, row = some r → ∃ T cs, Blk w r T cs ∧ T ≠ 49) : Tk w w' := fun g _ h => h.kept hg (fun e => by
  obtain ⟨T, cs, hb, hT⟩ := hr g e
  exact hT (blk_type hb h).1)
end Go.Proofs.YtjnloillcgeodaaGreat
/- Rows of versions in memory of their own: how they are kept, marked, and how the marks are found again. Condition: as many versions and tags as a law lets by. -/
namespace Go.Proofs.YtjnloillcgeodaaGreat
open Go.RowKit Go.Joins

/-- Nothing has turned but in blocks of P. -/
structure Turn (P : Nat → Prop) (w w' : World) : Prop where
  os : w'.os = w.os
  tape : w'.tape = w.tape
  output : w'.output = w.output
  size : w.heap.size ≤ w'.heap.size
  block : ∀ k, k < w.heap.size → ¬ P k → w'.heap[k]? = w.heap[k]?
theorem Turn.refl (P : Nat → Prop) (w : World) : Turn P w w := ⟨rfl, rfl, rfl, Nat.le_refl _, fun _ _ _ => rfl⟩
theorem Turn.of {P : Nat → Prop} {w w' : World} {row : Option Nat} (h : w.grownBy w' row) (hr : ∀ g, row = some g → P g) : Turn P w w' := ⟨h.os, h.tape, h.output, h.size, fun k hk hn => h.block k hk (fun e => hn (hr k e.symm))⟩
theorem Turn.below {P : Nat → Prop} {w w' : World} (h : Below w.heap.size w w') : Turn P w w' := ⟨h.os, h.tape, h.output, h.size, fun k hk _ => h.block k hk⟩
theorem Turn.trans {P : Nat → Prop} {a b c : World} (h : Turn P a b) (k : Turn P b c) : Turn P a c :=
  ⟨k.os.trans h.os, k.tape.trans h.tape, k.output.trans h.output, Nat.le_trans h.size k.size, fun i hi hn => (k.block i (Nat.lt_of_lt_of_le hi h.size) hn).trans (h.block i hi hn)⟩
theorem Turn.set {P : Nat → Prop} {w w' : World} (h : Turn P w w') {p : Addr} (hp : P p.block) (u : Value) : Turn P w (w'.setCell p u) :=
  ⟨h.os, h.tape, h.output, by simpa [World.setCell] using h.size, fun k hk hn => (Below.heap_setCell w' p u k (fun e => hn (e ▸ hp))).trans (h.block k hk hn)⟩
theorem Blk.turned {P : Nat → Prop} {w w' : World} {g : Nat} {t : TypeId} {cs : Array Value} (h : Blk w g t cs) (ht : Turn P w w') (hg : ¬ P g) : Blk w' g t cs := (ht.block g h.inside hg).trans h
theorem below_turned {P : Nat → Prop} {n : Nat} {w w1 w2 : World} (h : Below n w w1) (ht : Turn P w1 w2) (hn : n ≤ w1.heap.size) (hp : ∀ g, P g → n ≤ g) : Below n w w2 :=
  ⟨ht.os.trans h.os, ht.tape.trans h.tape, ht.output.trans h.output, Nat.le_trans h.size ht.size, fun k hk => (ht.block k (by omega) (fun hP => by have := hp k hP; omega)).trans (h.block k hk)⟩
theorem Inv.turned {P : Nat → Prop} {w w1 w2 : World} {n : Nat} {bs : List (Nat × TypeId × Array Value)} (h : Inv w n bs w1) (ht : Turn P w1 w2) (hw : ∀ g, P g → w.heap.size ≤ g) (hs : ∀ x ∈ bs, ¬ P x.1) : Inv w n bs w2 :=
  ⟨below_turned h.below ht h.below.size hw, Nat.le_trans h.room ht.size, fun x hx => ⟨(h.blk x hx).1, (h.blk x hx).2.1, (h.blk x hx).2.2.turned ht (hs x hx)⟩⟩

/-- A version's causes: none, or in a block of their own from B on and below U. -/
def Own1 (w : World) (B U : Nat) (v : V) : Prop :=
  v.ts = [] ∨ ∃ (g : Nat) (cur : Array Value), v.a = some ⟨g, 0, none⟩ ∧ B ≤ g ∧ g < U ∧ Blk w g 49 cur ∧ v.ts.length * 2 ≤ cur.size ∧ ∀ i x, v.ts[i]? = some x → TagAt cur i x
theorem Own1.turned {P : Nat → Prop} {w w' : World} {B U : Nat} {v : V} (h : Own1 w B U v) (ht : Turn P w w') (hp : ∀ g, v.a = some ⟨g, 0, none⟩ → B ≤ g → g < U → v.ts ≠ [] → ¬ P g) : Own1 w' B U v := by
  by_cases h0 : v.ts = []
  · exact .inl h0
  · rcases h with h | ⟨g, cur, h1, h2, h3, h4, h5, h6⟩
    · exact .inl h
    · exact .inr ⟨g, cur, h1, h2, h3, h4.turned ht (hp g h1 h2 h3 h0), h5, h6⟩
theorem Own1.on {w w' : World} {B U : Nat} {v : V} (h : Own1 w B U v) (hb : Below w.heap.size w w') : Own1 w' B U v := h.turned (P := fun _ => False) (.below hb) (fun _ _ _ _ _ h => h)
theorem Own1.wide {w : World} {B U U' : Nat} {v : V} (h : Own1 w B U v) (hu : U ≤ U') : Own1 w B U' v := by
  rcases h with h | ⟨g, cur, h1, h2, h3, h4, h5, h6⟩
  · exact .inl h
  · exact .inr ⟨g, cur, h1, h2, by omega, h4, h5, h6⟩
theorem Own1.tg {w : World} {B U : Nat} {v : V} (h : Own1 w B U v) : Tg w w.heap.size v.a v.ts := by
  rcases h with h | ⟨g, cur, h1, h2, h3, h4, h5, h6⟩
  · exact .inl h
  · rw [h1]; exact Tg.of h4 h4.inside h6

/-- A row of versions in a block of its own, the causes of each in another. -/
structure ORow (w : World) (B U G : Nat) (vs : List V) (cur : Array Value) : Prop where
  blk : Blk w G 51 cur
  lo : B ≤ G
  hi : G < U
  size : vs.length * 6 ≤ cur.size
  at' : ∀ (i : Nat) v, vs[i]? = some v → VerAt cur i v
  own : ∀ (i : Nat) v, vs[i]? = some v → Own1 w B U v
  apart : ∀ (i j : Nat) v v', i ≠ j → vs[i]? = some v → vs[j]? = some v' → v.ts ≠ [] → v'.ts ≠ [] → v.a ≠ v'.a
theorem ver_ne_tag : (51 : TypeId) ≠ 49 := by decide
theorem blk_one {w : World} {g : Nat} {T T' : TypeId} {cs cs' : Array Value} (h : Blk w g T cs) (h' : Blk w g T' cs') : T = T' := (blk_type h h').1
theorem Own1.tk {w w' : World} {B U : Nat} {v : V} (h : Own1 w B U v) (hk : Tk w w') : Own1 w' B U v := by
  rcases h with h | ⟨g, cur, h1, h2, h3, h4, h5, h6⟩
  · exact .inl h
  · exact .inr ⟨g, cur, h1, h2, h3, hk _ _ h4, h5, h6⟩
section
variable {w w' : World} {B U G : Nat} {vs : List V} {cur : Array Value} {P : Nat → Prop}
theorem ORow.turned (h : ORow w B U G vs cur) (ht : Turn P w w') (hp : ∀ g, B ≤ g → g < U → ¬ P g) : ORow w' B U G vs cur :=
  ⟨h.blk.turned ht (hp G h.lo h.hi), h.lo, h.hi, h.size, h.at', fun i v hi => (h.own i v hi).turned ht (fun g _ h1 h2 _ => hp g h1 h2), h.apart⟩
theorem ORow.on (h : ORow w B U G vs cur) (hb : Below w.heap.size w w') : ORow w' B U G vs cur := h.turned (P := fun _ => False) (.below hb) (fun _ _ _ h => h)
theorem ORow.wide (h : ORow w B U G vs cur) {U' : Nat} (hu : U ≤ U') : ORow w B U' G vs cur := ⟨h.blk, h.lo, Nat.lt_of_lt_of_le h.hi hu, h.size, h.at', fun i v hi => (h.own i v hi).wide hu, h.apart⟩
theorem ORow.vg (h : ORow w B U G vs cur) : Vg w w.heap.size (some ⟨G, 0, none⟩) vs :=
  .inr ⟨G, 0, rfl, h.blk.inside, fun i v hi => by
    obtain ⟨h0, h1, h2, h3, h4, h5⟩ := h.at' i v hi
    refine ⟨⟨?_, ?_, ?_, ?_, ?_, ?_⟩, (h.own i v hi).tg⟩
    all_goals
      rw [Nat.zero_add, h.blk.at]
      assumption⟩
end

/-- How many marks a version bears. -/
def wt (v : V) : Int := 5 + 2 * (v.ts.length : Int)
def wts (vs : List V) : Int := (vs.map wt).sum
/-- A version that bears marks from number k on. -/
def mkV (k : Int) (v : V) : V := ⟨k, k + 1, k + 1 + 1, v.a, v.c, marksL (k + 1 + 1 + 1) v.ts.length, markT (k + 1 + 1 + 1 + 2 * (v.ts.length : Int)), (k + 1 + 1 + 1 + 2 * (v.ts.length : Int) + 1) % 3 == 0⟩
def mkVs : Int → List V → List V
  | _, [] => []
  | k, v :: r => mkV k v :: mkVs (k + wt v) r
/-- What marking the causes of one version leaves. -/
def MarkedO (w : World) (B U : Nat) (v : V) (k : Int) (e : Ending) (w' : World) : Prop :=
  e = .returned (.int .i64 (k + 2 * (v.ts.length : Int))) ∧ (∀ v' : V, v'.a = v.a → v'.ts = marksL k v.ts.length → Own1 w' B U v') ∧ Turn (fun g => v.ts ≠ [] ∧ v.a = some ⟨g, 0, none⟩) w w'
theorem ORow.apartG {w : World} {B U G j g : Nat} {l : List V} {cur : Array Value} {v : V} (h : ORow w B U G l cur) (hj : l[j]? = some v) (hne : v.ts ≠ []) (hg : v.a = some ⟨g, 0, none⟩) : g ≠ G := by
  intro e
  subst e
  rcases h.own j v hj with h0 | ⟨g', c', e1, _, _, e2, _⟩
  · exact hne h0
  · rw [e1] at hg
    injection hg with hg
    injection hg with hg
    subst hg
    exact ver_ne_tag (blk_one h.blk e2)

/-- What markVerS leaves: a row that bears the marks; nothing else has turned. -/
def MarkedVR (w : World) (B U G : Nat) (vs : List V) (k : Int) (e : Ending) (w' : World) : Prop :=
  e = .returned (.int .i64 (k + wts vs)) ∧ (∃ cur, ORow w' B U G (mkVs k vs) cur) ∧ Turn (fun g => B ≤ g ∧ g < U) w w'

/-- The blocks of a row: its own, and those of its causes. -/
def Foot (G : Nat) (vs : List V) (g : Nat) : Prop := g = G ∨ ∃ (i : Nat) (v : V), vs[i]? = some v ∧ v.ts ≠ [] ∧ v.a = some ⟨g, 0, none⟩
theorem ORow.foot {w : World} {B U G : Nat} {vs : List V} {cur : Array Value} (h : ORow w B U G vs cur) {g : Nat} (hg : Foot G vs g) : B ≤ g ∧ g < U := by
  rcases hg with rfl | ⟨i, v, hi, hn, ha⟩
  · exact ⟨h.lo, h.hi⟩
  · rcases h.own i v hi with h0 | ⟨g', c', e1, q1, q2, _⟩
    · exact absurd h0 hn
    · rw [e1] at ha
      injection ha with ha
      injection ha with ha
      subst ha
      exact ⟨q1, q2⟩
/-- The same, of the row's own blocks alone. -/
def MarkedVF (w : World) (B U G : Nat) (vs : List V) (k : Int) (e : Ending) (w' : World) : Prop :=
  e = .returned (.int .i64 (k + wts vs)) ∧ (∃ cur, ORow w' B U G (mkVs k vs) cur) ∧ Turn (Foot G vs) w w'

end Go.Proofs.YtjnloillcgeodaaGreat
/- Copies of stores in memory of their own; how stores are marked and the marks found again. Condition: as many versions and tags as a law lets by. -/
namespace Go.Proofs.YtjnloillcgeodaaGreat
open Go.RowKit Go.Joins

theorem Own1.low {w : World} {B B' U : Nat} {v : V} (h : Own1 w B U v) (hb : B' ≤ B) : Own1 w B' U v := by
  rcases h with h | ⟨g, cur, h1, h2, h3, h4, h5, h6⟩
  · exact .inl h
  · exact .inr ⟨g, cur, h1, by omega, h3, h4, h5, h6⟩
theorem ORow.low {w : World} {B B' U G : Nat} {vs : List V} {cur : Array Value} (h : ORow w B U G vs cur) (hb : B' ≤ B) : ORow w B' U G vs cur :=
  ⟨h.blk, Nat.le_trans hb h.lo, h.hi, h.size, h.at', fun i v hi => (h.own i v hi).low hb, h.apart⟩
/-- What toVerS leaves: a copy in memory of its own. -/
def CopiedVO (w : World) (vs : List V) (e : Ending) (w' : World) : Prop :=
  ∃ (g : Nat) (us : List V) (cur : Array Value), e = .returned (.slice (some ⟨g, 0, none⟩) vs.length vs.length) ∧ us.length = vs.length ∧ Like us vs ∧ ORow w' w.heap.size w'.heap.size g us cur ∧ Below w.heap.size w w'
/-- What toStore leaves: a copy in memory of its own. -/
def CopiedSO (w : World) (vs : List V) (e : Ending) (w' : World) : Prop :=
  ∃ (g : Nat) (us : List V) (cur : Array Value), e = .returned (.agg #[.slice (some ⟨g, 0, none⟩) vs.length vs.length]) ∧ us.length = vs.length ∧ Like us vs ∧ ORow w' w.heap.size w'.heap.size g us cur ∧ Below w.heap.size w w'
end Go.Proofs.YtjnloillcgeodaaGreat
/- Contracts of the functions that join vectors of tags, in the program and in the model. Condition: at most 1048576 tags. -/
namespace Go.Proofs.YtjnloillcgeodaaGreat
open Go.RowKit Go.Joins
attribute [local go_sem ↓] Go.wp_at_zero Go.wp_at_succ

/-- The later one of two tags. -/
def mxp (x y : Int × Int) : Int × Int := (mxT x.1 x.2 y.1 y.2, mxP x.1 x.2 y.1 y.2)
/-- The later one at each place. -/
def mxL (ts us : List (Int × Int)) : List (Int × Int) := List.zipWith mxp ts us
/-- Tags as cells, one behind the other. -/
def flatT (ts : List (Int × Int)) : List Value := ts.flatMap fun x => [Value.int .i64 x.1, Value.int .i64 x.2]
theorem flatT_one (ts : List (Int × Int)) : ∀ u ∈ flatT ts, u.oneCell' = true := by
  intro u hu
  simp only [flatT, List.mem_flatMap] at hu
  obtain ⟨x, _, hx⟩ := hu
  simp at hx
  rcases hx with rfl | rfl <;> rfl
theorem flatT_at : ∀ (ts : List (Int × Int)) (i : Nat) (x : Int × Int), ts[i]? = some x → (flatT ts)[i * 2]? = some (.int .i64 x.1) ∧ (flatT ts)[i * 2 + 1]? = some (.int .i64 x.2)
  | [], i, x, h => by simp at h
  | y :: ts, 0, x, h => by
    simp at h
    subst h
    simp [flatT]
  | y :: ts, i + 1, x, h => by
    have := flatT_at ts i x (by simpa using h)
    have e : flatT (y :: ts) = .int .i64 y.1 :: .int .i64 y.2 :: flatT ts := by simp [flatT]
    rw [e, show (i + 1) * 2 = i * 2 + 1 + 1 by omega]
    simpa using this

/-- An append onto a row of the call's own, from block n on, turns none of the known blocks. -/
theorem Inv.grow {w w1 w2 : World} {n : Nat} {bs : List (Nat × TypeId × Array Value)} {row : Option Nat} (h : Inv w n bs w1) (hg : w1.grownBy w2 row) (hr : ∀ g, row = some g → n ≤ g ∧ w.heap.size ≤ g) : Inv w n bs w2 :=
  ⟨h.below.grown hg h.below.size (fun k hk => (hr k hk).2), Nat.le_trans h.room hg.size, fun x hx => ⟨(h.blk x hx).1, (h.blk x hx).2.1, (h.blk x hx).2.2.kept hg (by intro e; have := (hr _ e).1; have := (h.blk x hx).2.1; omega)⟩⟩

/-- What a join leaves: the joined tags in a row of its own. -/
def JoinedP (w : World) (ts : List (Int × Int)) (e : Ending) (w' : World) : Prop :=
  ∃ (g cap : Nat) (T : TypeId) (cur : Array Value), e = .returned (.agg #[.slice (some ⟨g, 0, none⟩) 4 cap]) ∧ w.heap.size ≤ g ∧ Blk w' g T cur ∧ 8 ≤ cur.size ∧ (∀ i x, ts[i]? = some x → TagAt cur i x) ∧ Below w.heap.size w w'

/-- The eight cells of a vector in the midst of a join. -/
def jcells (x0 x1 x2 x3 y0 y1 y2 y3 : Int × Int) (k : Nat) : Array Value :=
  match k with
  | 0 => #[.int .i64 x0.1, .int .i64 x0.2, .int .i64 x1.1, .int .i64 x1.2, .int .i64 x2.1, .int .i64 x2.2, .int .i64 x3.1, .int .i64 x3.2]
  | 1 => #[.int .i64 (mxp x0 y0).1, .int .i64 (mxp x0 y0).2, .int .i64 x1.1, .int .i64 x1.2, .int .i64 x2.1, .int .i64 x2.2, .int .i64 x3.1, .int .i64 x3.2]
  | 2 => #[.int .i64 (mxp x0 y0).1, .int .i64 (mxp x0 y0).2, .int .i64 (mxp x1 y1).1, .int .i64 (mxp x1 y1).2, .int .i64 x2.1, .int .i64 x2.2, .int .i64 x3.1, .int .i64 x3.2]
  | 3 => #[.int .i64 (mxp x0 y0).1, .int .i64 (mxp x0 y0).2, .int .i64 (mxp x1 y1).1, .int .i64 (mxp x1 y1).2, .int .i64 (mxp x2 y2).1, .int .i64 (mxp x2 y2).2, .int .i64 x3.1, .int .i64 x3.2]
  | _ => #[.int .i64 (mxp x0 y0).1, .int .i64 (mxp x0 y0).2, .int .i64 (mxp x1 y1).1, .int .i64 (mxp x1 y1).2, .int .i64 (mxp x2 y2).1, .int .i64 (mxp x2 y2).2, .int .i64 (mxp x3 y3).1, .int .i64 (mxp x3 y3).2]

end Go.Proofs.YtjnloillcgeodaaGreat
/- Contracts of PastJoin and PastNone, in the program and in the model. Condition: at most 1048576 tags. -/
namespace Go.Proofs.YtjnloillcgeodaaGreat
open Go.RowKit Go.Joins

theorem tagAt_eight (z0 z1 z2 z3 : Int × Int) : ∀ i x, [z0, z1, z2, z3][i]? = some x → TagAt #[.int .i64 z0.1, .int .i64 z0.2, .int .i64 z1.1, .int .i64 z1.2, .int .i64 z2.1, .int .i64 z2.2, .int .i64 z3.1, .int .i64 z3.2] i x := by
  intro i x h
  match i with
  | 0 => simp at h; subst h; exact ⟨rfl, rfl⟩
  | 1 => simp at h; subst h; exact ⟨rfl, rfl⟩
  | 2 => simp at h; subst h; exact ⟨rfl, rfl⟩
  | 3 => simp at h; subst h; exact ⟨rfl, rfl⟩
  | n + 4 => simp at h

abbrev z4 : List (Int × Int) := [(0, 0), (0, 0), (0, 0), (0, 0)]

end Go.Proofs.YtjnloillcgeodaaGreat
/- Vectors that a call answers: nothing, or tags in a row of its own; how such an answer is marked and compared. Condition: at most 1048576 tags. -/
namespace Go.Proofs.YtjnloillcgeodaaGreat
open Go.RowKit Go.Joins

/-- A slice that reads as these tags: none at all, or in a block of its own from B on and below U. -/
def Res (w : World) (B U : Nat) (A : Option Addr) (rs : List (Int × Int)) : Prop :=
  (A = none ∧ rs = []) ∨ ∃ (g : Nat) (T : TypeId) (cur : Array Value), A = some ⟨g, 0, none⟩ ∧ B ≤ g ∧ g < U ∧ Blk w g T cur ∧ rs.length * 2 ≤ cur.size ∧ ∀ i x, rs[i]? = some x → TagAt cur i x
theorem Res.keep {w w' : World} {B U : Nat} {A : Option Addr} {rs : List (Int × Int)} {row : Option Nat} (h : Res w B U A rs) (hg : w.grownBy w' row) (hr : ∀ g, row = some g → g < B ∨ U ≤ g) : Res w' B U A rs := by
  rcases h with h | ⟨g, T, cur, rfl, hB, hU, hb, hs, hc⟩
  · exact .inl h
  · exact .inr ⟨g, T, cur, rfl, hB, hU, hb.kept hg (by intro e; have := hr g e; omega), hs, hc⟩
theorem Res.on {w w' : World} {B U : Nat} {A : Option Addr} {rs : List (Int × Int)} (h : Res w B U A rs) (hb : Below w.heap.size w w') : Res w' B U A rs := h.keep (row := none) (grown_none hb) (by simp)
theorem Res.drew {w : World} {B U : Nat} {A : Option Addr} {rs : List (Int × Int)} (h : Res w B U A rs) : Res w.drew B U A rs := h
theorem Res.alloc {w : World} {B U : Nat} {A : Option Addr} {rs : List (Int × Int)} (h : Res w B U A rs) (o : Obj) : Res (w.alloc o) B U A rs := h.on (below_alloc1 w o)
theorem Res.set {w : World} {B U : Nat} {A : Option Addr} {rs : List (Int × Int)} (h : Res w B U A rs) {p : Addr} (hp : p.block < B ∨ U ≤ p.block) (u : Value) : Res (w.setCell p u) B U A rs := by
  rcases h with h | ⟨g, T, cur, rfl, hB, hU, hb, hs, hc⟩
  · exact .inl h
  · exact .inr ⟨g, T, cur, rfl, hB, hU, hb.aside (by omega) u, hs, hc⟩
theorem Res.swap {w : World} {B U : Nat} {A : Option Addr} {rs : List (Int × Int)} {o o' : Obj} (h : Res (w.alloc o) B U A rs) (hU : U ≤ w.heap.size) : Res (w.alloc o') B U A rs := by
  rcases h with h | ⟨g, T, cur, rfl, hB, hU', hb, hs, hc⟩
  · exact .inl h
  · have e : Blk (w.alloc o') g T cur := by
      unfold Blk at hb ⊢
      rw [Below.heap_alloc w o' g (by omega), ← Below.heap_alloc w o g (by omega)]
      exact hb
    exact .inr ⟨g, T, cur, rfl, hB, hU', e, hs, hc⟩
theorem Res.tg {w : World} {B U : Nat} {A : Option Addr} {rs : List (Int × Int)} (h : Res w B U A rs) : Tg w w.heap.size A rs := by
  rcases h with ⟨_, h⟩ | ⟨g, T, cur, rfl, _, _, hb, _, hc⟩
  · exact .inl h
  · exact Tg.of hb hb.inside hc
theorem Res.of {w : World} {B U g : Nat} {T : TypeId} {cur : Array Value} {rs : List (Int × Int)} (hB : B ≤ g) (hU : g < U) (hb : Blk w g T cur) (hs : rs.length * 2 ≤ cur.size) (hc : ∀ i x, rs[i]? = some x → TagAt cur i x) : Res w B U (some ⟨g, 0, none⟩) rs :=
  .inr ⟨g, T, cur, rfl, hB, hU, hb, hs, hc⟩

/-- At most one block has turned, and none of the known ones. -/
theorem Inv.part {w w1 w2 : World} {n : Nat} {bs : List (Nat × TypeId × Array Value)} {row : Option Nat} (h : Inv w n bs w1) (hg : w1.grownBy w2 row) (hw : ∀ g, row = some g → w.heap.size ≤ g) (hs : ∀ x ∈ bs, ∀ g, row = some g → x.1 ≠ g) : Inv w n bs w2 :=
  ⟨h.below.grown hg h.below.size hw, Nat.le_trans h.room hg.size, fun x hx => ⟨(h.blk x hx).1, (h.blk x hx).2.1, (h.blk x hx).2.2.kept hg (fun e => hs x hx _ e rfl)⟩⟩

/-- What PastJoin answers, as tags. -/
def joinL (ts us : List (Int × Int)) : List (Int × Int) := if (pastB ts && pastB us) = true then mxL ts us else []
/-- An answer that is a vector. -/
def Answer (w : World) (rs : List (Int × Int)) (e : Ending) (w' : World) : Prop :=
  ∃ (A : Option Addr) (cap : Nat), e = .returned (.agg #[.slice A rs.length cap]) ∧ Res w' w.heap.size w'.heap.size A rs ∧ Below w.heap.size w w'

/-- What marking an answer leaves: the marks; only its own block has turned. -/
def MarkedR (w : World) (B U : Nat) (A : Option Addr) (n : Nat) (k : Int) (e : Ending) (w' : World) : Prop :=
  ∃ row : Option Nat, e = .returned (.int .i64 (k + 2 * (n : Int))) ∧ Res w' B U A (marksL k n) ∧ w.grownBy w' row ∧ ∀ g, row = some g → B ≤ g ∧ g < U
end Go.Proofs.YtjnloillcgeodaaGreat
/- Contracts of the functions that copy a version, of program and model. Condition: at most 1048576 causes. -/
namespace Go.Proofs.YtjnloillcgeodaaGreat
open Go.RowKit Go.Joins

theorem flatT_len (ts : List (Int × Int)) : (flatT ts).length = ts.length * 2 := by
  induction ts with
  | nil => rfl
  | cons x r ih => simp [flatT] at *; omega
theorem flatT_get : ∀ (ts : List (Int × Int)) (j : Nat) (u : Value), (flatT ts)[j]? = some u → ∃ (i : Nat) (x : Int × Int), ts[i]? = some x ∧ (j = i * 2 ∧ u = .int .i64 x.1 ∨ j = i * 2 + 1 ∧ u = .int .i64 x.2)
  | [], j, u, h => by simp [flatT] at h
  | x :: r, 0, u, h => ⟨0, x, rfl, .inl ⟨rfl, by simp [flatT] at h; exact h.symm⟩⟩
  | x :: r, 1, u, h => ⟨0, x, rfl, .inr ⟨rfl, by simp [flatT] at h; exact h.symm⟩⟩
  | x :: r, j + 2, u, h => by
    have h' : (flatT r)[j]? = some u := by
      have e : flatT (x :: r) = .int .i64 x.1 :: .int .i64 x.2 :: flatT r := by simp [flatT]
      rw [e] at h
      simpa using h
    obtain ⟨i, y, h1, h2⟩ := flatT_get r j u h'
    rcases h2 with ⟨h2, q⟩ | ⟨h2, q⟩
    · exact ⟨i + 1, y, by simpa using h1, .inl ⟨by omega, q⟩⟩
    · exact ⟨i + 1, y, by simpa using h1, .inr ⟨by omega, q⟩⟩
theorem tg_news {w : World} {b off : Nat} {ts : List (Int × Int)} (hx : ∀ (i : Nat) x, ts[i]? = some x → w.cell? ⟨b, off + i * 2, none⟩ = some (.int .i64 x.1) ∧ w.cell? ⟨b, off + i * 2 + 1, none⟩ = some (.int .i64 x.2)) (j : Nat) (u : Value) (hj : (flatT ts)[j]? = some u) :
    w.cell? ((⟨b, off, none⟩ : Addr).add j) = some u := by
  have hadd : (⟨b, off, none⟩ : Addr).add j = ⟨b, off + j, none⟩ := by unfold Addr.add; split <;> simp_all
  rw [hadd]
  obtain ⟨i, x, h1, h2 | h2⟩ := flatT_get ts j u hj
  · obtain ⟨rfl, rfl⟩ := h2
    exact (hx i x h1).1
  · obtain ⟨rfl, rfl⟩ := h2
    exact (hx i x h1).2

theorem flat_tagsV {cur : Array Value} {p : List (Int × Int)} {m : Nat} (h : cur.toList.take m = flatT p) : ∀ i x, p[i]? = some x → TagAt cur i x := by
  intro i x hx
  obtain ⟨h0, h1⟩ := flatT_at p i x hx
  rw [← h] at h0 h1
  refine ⟨?_, ?_⟩
  · obtain ⟨hl, _⟩ := List.getElem?_eq_some_iff.1 h0
    rw [List.length_take] at hl
    rw [List.getElem?_take_of_lt (by omega)] at h0
    simpa using h0
  · obtain ⟨hl, _⟩ := List.getElem?_eq_some_iff.1 h1
    rw [List.length_take] at hl
    rw [List.getElem?_take_of_lt (by omega)] at h1
    simpa using h1
theorem own_row {w : World} {base g cap n : Nat} {ts : List (Int × Int)} (h : w.ownsRow base 49 2 (.slice (some ⟨g, 0, none⟩) n cap) n (flatT ts)) : ∃ cur, base ≤ g ∧ Blk w g 49 cur ∧ n * 2 ≤ cur.size ∧ ∀ i x, ts[i]? = some x → TagAt cur i x := by
  rcases h.2 with ⟨h, _⟩ | ⟨g', cap', cur, h, hg', hb', hn', hm', hs', ht'⟩
  · cases h
  · injection h with h1 h2 h3
    injection h1 with h1
    injection h1 with h1
    subst h1
    exact ⟨cur, hg', hb', by omega, flat_tagsV ht'⟩

/-- What a copy of a version is. -/
def Cloned (w : World) (v : V) (e : Ending) (w' : World) : Prop :=
  ∃ v' : V, e = .returned (.agg (verC v'.k v'.t v'.u v'.a v'.ts.length v'.c v'.s v'.g)) ∧ V.like v' v ∧ Own1 w' w.heap.size w'.heap.size v' ∧ Below w.heap.size w w'

set_option maxRecDepth 100000 in
set_option maxHeartbeats 2000000 in
theorem clone_any (v : V) (w : World) (hn : v.ts.length ≤ 1048576) (ht : Tg w w.heap.size v.a v.ts) :
    Calls Tryz.prog 50 #[.agg (verC v.k v.t v.u v.a v.ts.length v.c v.s v.g)] w (Cloned w v) := by
  obtain ⟨k, t, u, a, c, ts, s, g⟩ := v
  simp only at hn ht ⊢
  have S0 := ((Inv.start w).box 51 (verC k t u a ts.length c s g)).box 51 (verC 0 0 0 none 0 0 ⟨#[]⟩ false)
  simp only [World.size_alloc] at S0
  obtain ⟨i0, hi0, hz0, hz1, hz2⟩ := info_parts tag_info
  have I0 := hide hi0
  have I1 := hide hz0
  have I2 := hide hz1
  have I3 := hide hz2
  clear hi0 hz0 hz1 hz2
  rcases ht with h0 | ⟨b, off, rfl, hb, hx⟩
  · subst h0
    cases a
    all_goals
      go_enter Tryz.func50, Tryz.ntmps50
      go_wp2
      refine bodyPost_ret (v := .agg (verC k t u none 0 0 s g)) (by simp [results, Tryz.results50, go_sem]) rfl ?_
      exact ⟨⟨k, t, u, none, 0, [], s, g⟩, rfl, ⟨rfl, rfl, rfl, rfl, rfl, rfl⟩, .inl rfl, by first | exact S0.below | exact below_alloc2 _ _ _⟩
  · by_cases h0 : ts = []
    · subst h0
      go_enter Tryz.func50, Tryz.ntmps50
      go_wp2
      refine bodyPost_ret (v := .agg (verC k t u none 0 0 s g)) (by simp [results, Tryz.results50, go_sem]) rfl ?_
      exact ⟨⟨k, t, u, none, 0, [], s, g⟩, rfl, ⟨rfl, rfl, rfl, rfl, rfl, rfl⟩, .inl rfl, by first | exact S0.below | exact below_alloc2 _ _ _⟩
    · have hpos : 0 < ts.length := List.length_pos_iff.2 h0
      have HNEWS := hide (tg_news (w := (w.alloc (.cells (verC k t u (some ⟨b, off, none⟩) ts.length c s g) 51)).alloc (.cells (verC 0 0 0 none 0 0 ⟨#[]⟩ false) 51)) (b := b) (off := off) (ts := ts) (fun i x hi => ⟨(S0.below.cell (p := ⟨b, off + i * 2, none⟩) hb).trans (hx i x hi).1, (S0.below.cell (p := ⟨b, off + i * 2 + 1, none⟩) hb).trans (hx i x hi).2⟩))
      have HFL := hide (flatT_len ts)
      have HO0 := hide (World.ownsRow_nil ((w.alloc (.cells (verC k t u (some ⟨b, off, none⟩) ts.length c s g) 51)).alloc (.cells (verC 0 0 0 none 0 0 ⟨#[]⟩ false) 51)) (w.heap.size + 1 + 1) 49 2)
      clear hx h0
      generalize hnn : ts.length = n at *
      have HN := hide hnn
      clear hnn
      go_enter Tryz.func50, Tryz.ntmps50
      go_wp2_with (at_builtin; (refine wpList_append_lies _ rfl (.const (.slice none 0 0)) (.tmp 5) 39 rfl (w.heap.size + 1 + 1) 49 i0 _ 2 16 Tryz.underlying39 I0.out I1.out I2.out I3.out rfl (by omega) (.slice none 0 0) 0 [] rfl HO0.out ⟨b, off, none⟩ n c (flatT ts) rfl HFL.out HNEWS.out (flatT_one ts) hpos (by unfold maxLen; omega) (by omega) (by simp) _ rfl ?_; intro g2 cap2 w5 hown hgrow hat hlt2; have S5 := S0.part hgrow (fun g' e => by simp [Value.ownBlock] at e) (fun x hx g' e => by simp [Value.ownBlock] at e); have OW := hide hown; have q5 := (S5.nth 1 rfl).six; have q6 := (S5.nth 0 rfl).six; have z5 := S5.room; clear hown hgrow hat))
      simp only [Nat.zero_add] at OW ⊢
      refine bodyPost_ret (v := .agg (verC k t u (some ⟨g2, 0, none⟩) n cap2 s g)) (by simp [results, Tryz.results50, go_sem, q6]) rfl ?_
      obtain ⟨cur, hg0, hblk, hcs, hca⟩ := own_row (by simpa using OW.out)
      have hl := S5.below
      exact ⟨⟨k, t, u, some ⟨g2, 0, none⟩, cap2, ts, s, g⟩, by simp only [HN.out], ⟨rfl, rfl, rfl, rfl, rfl, rfl⟩, .inr ⟨g2, cur, rfl, by omega, by simpa [World.setCell] using hblk.inside, (((((((hblk.aside (by simp; omega) _).aside (by simp; omega) _).aside (by simp; omega) _).aside (by simp; omega) _).aside (by simp; omega) _).aside (by simp; omega) _).aside (by simp; omega) _), by simp only [HN.out]; exact hcs, hca⟩, below_set6 (hl.setCell (by simp) _) (by omega) _ _ _ _ _ _⟩
set_option maxRecDepth 100000 in
set_option maxHeartbeats 2000000 in
theorem l2Copy_any (v : V) (w : World) (hn : v.ts.length ≤ 1048576) (ht : Tg w w.heap.size v.a v.ts) :
    Calls Tryz.prog 68 #[.agg (verC v.k v.t v.u v.a v.ts.length v.c v.s v.g)] w (Cloned w v) := by
  obtain ⟨k, t, u, a, c, ts, s, g⟩ := v
  simp only at hn ht ⊢
  have S0 := ((Inv.start w).box 51 (verC k t u a ts.length c s g)).box 51 (verC 0 0 0 none 0 0 ⟨#[]⟩ false)
  simp only [World.size_alloc] at S0
  obtain ⟨i0, hi0, hz0, hz1, hz2⟩ := info_parts tag_info
  have I0 := hide hi0
  have I1 := hide hz0
  have I2 := hide hz1
  have I3 := hide hz2
  clear hi0 hz0 hz1 hz2
  have S1 := S0.alloc (.cells #[] 49)
  rcases ht with h0 | ⟨b, off, rfl, hb, hx⟩
  · subst h0
    cases a
    all_goals
      go_enter Tryz.func68, Tryz.ntmps68
      go_wp2
      refine bodyPost_ret (v := .agg (verC k t u (some ⟨w.heap.size + 1 + 1, 0, none⟩) 0 0 s g)) (by simp [results, Tryz.results68, go_sem]) rfl ?_
      exact ⟨⟨k, t, u, some ⟨w.heap.size + 1 + 1, 0, none⟩, 0, [], s, g⟩, rfl, ⟨rfl, rfl, rfl, rfl, rfl, rfl⟩, .inl rfl, by first | exact S1.below | exact ((below_alloc2 _ _ _).alloc (by simp; omega) _) | exact below_set6 (((below_alloc2 _ _ _).alloc (by simp; omega) _).setCell (by simp) _) (by omega) _ _ _ _ _ _⟩
  · by_cases h0 : ts = []
    · subst h0
      go_enter Tryz.func68, Tryz.ntmps68
      go_wp2
      refine bodyPost_ret (v := .agg (verC k t u (some ⟨w.heap.size + 1 + 1, 0, none⟩) 0 0 s g)) (by simp [results, Tryz.results68, go_sem]) rfl ?_
      exact ⟨⟨k, t, u, some ⟨w.heap.size + 1 + 1, 0, none⟩, 0, [], s, g⟩, rfl, ⟨rfl, rfl, rfl, rfl, rfl, rfl⟩, .inl rfl, by first | exact S1.below | exact ((below_alloc2 _ _ _).alloc (by simp; omega) _) | exact below_set6 (((below_alloc2 _ _ _).alloc (by simp; omega) _).setCell (by simp) _) (by omega) _ _ _ _ _ _⟩
    · have hpos : 0 < ts.length := List.length_pos_iff.2 h0
      have BE := Blk.made ((w.alloc (.cells (verC k t u (some ⟨b, off, none⟩) ts.length c s g) 51)).alloc (.cells (verC 0 0 0 none 0 0 ⟨#[]⟩ false) 51)) 49 #[]
      simp only [World.size_alloc] at BE
      have O0 : (((w.alloc (.cells (verC k t u (some ⟨b, off, none⟩) ts.length c s g) 51)).alloc (.cells (verC 0 0 0 none 0 0 ⟨#[]⟩ false) 51)).alloc (.cells #[] 49)).ownsRow (w.heap.size + 1 + 1) 49 2 (.slice (some ⟨w.heap.size + 1 + 1, 0, none⟩) 0 0) 0 [] :=
        ⟨rfl, .inr ⟨w.heap.size + 1 + 1, 0, #[], rfl, Nat.le_refl _, BE, Nat.le_refl _, Nat.zero_le _, rfl, rfl⟩⟩
      have HNEWS := hide (tg_news (w := ((w.alloc (.cells (verC k t u (some ⟨b, off, none⟩) ts.length c s g) 51)).alloc (.cells (verC 0 0 0 none 0 0 ⟨#[]⟩ false) 51)).alloc (.cells #[] 49)) (b := b) (off := off) (ts := ts) (fun i x hi => ⟨(S1.below.cell (p := ⟨b, off + i * 2, none⟩) hb).trans (hx i x hi).1, (S1.below.cell (p := ⟨b, off + i * 2 + 1, none⟩) hb).trans (hx i x hi).2⟩))
      have HFL := hide (flatT_len ts)
      have HO0 := hide O0
      clear hx h0 O0 BE
      generalize hnn : ts.length = n at *
      have HN := hide hnn
      clear hnn
      go_enter Tryz.func68, Tryz.ntmps68
      go_wp2_with (at_builtin; (refine wpList_append_lies _ rfl (.tmp 3) (.tmp 6) 39 rfl (w.heap.size + 1 + 1) 49 i0 _ 2 16 Tryz.underlying39 I0.out I1.out I2.out I3.out rfl (by omega) (.slice (some ⟨w.heap.size + 1 + 1, 0, none⟩) 0 0) 0 [] rfl HO0.out ⟨b, off, none⟩ n c (flatT ts) rfl HFL.out HNEWS.out (flatT_one ts) hpos (by unfold maxLen; omega) (by omega) (by simp) _ rfl ?_; intro g2 cap2 w5 hown hgrow hat hlt2; have S5 := S1.part hgrow (fun g' e => by simp [Value.ownBlock] at e; omega) (fun x hx g' e => by { simp [Value.ownBlock] at e; have := (S0.blk x hx).2.1; omega }); have OW := hide hown; have q5 := (S5.nth 1 rfl).six; have q6 := (S5.nth 0 rfl).six; have z5 := S5.room; clear hown hgrow hat))
      simp only [Nat.zero_add] at OW ⊢
      refine bodyPost_ret (v := .agg (verC k t u (some ⟨g2, 0, none⟩) n cap2 s g)) (by simp [results, Tryz.results68, go_sem, q6]) rfl ?_
      obtain ⟨cur, hg0, hblk, hcs, hca⟩ := own_row (by simpa using OW.out)
      have hl := S5.below
      exact ⟨⟨k, t, u, some ⟨g2, 0, none⟩, cap2, ts, s, g⟩, by simp only [HN.out], ⟨rfl, rfl, rfl, rfl, rfl, rfl⟩, .inr ⟨g2, cur, rfl, by omega, by simpa [World.setCell] using hblk.inside, (((((((hblk.aside (by simp; omega) _).aside (by simp; omega) _).aside (by simp; omega) _).aside (by simp; omega) _).aside (by simp; omega) _).aside (by simp; omega) _).aside (by simp; omega) _), by simp only [HN.out]; exact hcs, hca⟩, below_set6 (hl.setCell (by simp) _) (by omega) _ _ _ _ _ _⟩
end Go.Proofs.YtjnloillcgeodaaGreat
