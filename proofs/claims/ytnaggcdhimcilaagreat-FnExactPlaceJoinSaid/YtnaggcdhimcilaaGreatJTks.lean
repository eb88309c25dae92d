/- Contracts of whether two versions, two slices of versions are the same, in the program and in the model. Condition: what is said of each. -/
import Derived.Test.YtnaggcdhimcilaaGreatJStoreOk
import Derived.Test.YtnaggcdhimcilaaGreatJPutPure
import Derived.Test.YtnaggcdhimcilaaGreatJPastOk
import Derived.Test.YtnaggcdhimcilaaGreatJVerOk0
import Derived.Laws.BytesString
import Derived.Laws.Concat
namespace Go.Proofs.YtnaggcdhimcilaaGreat
open Go.RowKit Go.Joins
attribute [local go_sem ↓] Go.wp_at_zero Go.wp_at_succ

theorem tagEq_at (a b t u : Int) (W : World) : (binOp .eql 91 (.agg #[.int .i64 a, .int .i64 b]) (.agg #[.int .i64 t, .int .i64 u])).run Tryz.prog W = .ok (.bool (eqB a b t u)) W := by
  by_cases ht : a = t
  · subst ht
    by_cases hp : b = u
    · subst hp
      rw [eqB_same]
      go_simp
    · have h : eqB a b a u = false := by unfold eqB; simpa using hp
      rw [h]
      go_simp
  · have h : eqB a b t u = false := by unfold eqB; simp [ht]
    rw [h]
    go_simp
theorem tagNe_at (a b t u : Int) (W : World) : (binOp .neq 91 (.agg #[.int .i64 a, .int .i64 b]) (.agg #[.int .i64 t, .int .i64 u])).run Tryz.prog W = .ok (.bool (!eqB a b t u)) W := by
  by_cases ht : a = t
  · subst ht
    by_cases hp : b = u
    · subst hp
      rw [eqB_same]
      go_simp
    · have h : eqB a b a u = false := by unfold eqB; simpa using hp
      rw [h]
      go_simp
  · have h : eqB a b t u = false := by unfold eqB; simp [ht]
    rw [h]
    go_simp
theorem str_same (s s' : ByteArray) : (s.toList == s'.toList) = decide (s = s') := by
  rw [Bool.eq_iff_iff, beq_iff_eq, decide_eq_true_eq, ByteArray.toList_eq, ByteArray.toList_eq]
  exact ⟨bl_inj, fun h => by rw [h]⟩
set_option maxRecDepth 100000 in
set_option maxHeartbeats 2000000 in
theorem equalTags_any (a a' : Option Addr) (c c' : Nat) (ts us : List (Int × Int)) (w : World) (hn : ts.length ≤ 1048576) (_hn' : us.length ≤ 1048576) (ht : Tg w w.heap.size a ts) (hu : Tg w w.heap.size a' us) :
    Calls Tryz.prog 142 #[.slice a ts.length c, .slice a' us.length c'] w fun e w' => e = .returned (.bool (decide (ts = us))) ∧ Below w.heap.size w w' := by
  by_cases hlen : ts.length = us.length
  · have hd : Hid (ts.take ts.length = us.take us.length ↔ ts = us) := by unfold Hid; rw [List.take_length, List.take_length]
    generalize hnn : ts.length = n at *
    rw [← hlen] at hd ⊢
    have HN := hide hnn
    have HL := hide hlen
    clear hnn hlen
    go_enter Tryz.func142, Tryz.ntmps142
    go_wp2
    go_loopw [13] (fun i wr => ∃ k : Nat, k ≤ n ∧ i = .int .i64 (k : Int) ∧ Hid (ts.take k = us.take k) ∧ Below w.heap.size w wr) (fun i _ => n - (intOf i).toNat)
    case atStart => exact ⟨0, Nat.zero_le _, rfl, by simp [Hid], Below.refl _ _⟩
    case round =>
      obtain ⟨k, hk, rfl, heq, hL⟩ := hrel
      by_cases hlt : k < n
      · rcases ht with h0 | ⟨b, off, rfl, hb, hx⟩
        · have := HN.out; subst h0; simp at this; omega
        · rcases hu with h0 | ⟨b', off', rfl, hb', hx'⟩
          · have := HL.out; subst h0; simp at this; omega
          · have hkl : k < ts.length := by have := HN.out; omega
            have hkl' : k < us.length := by have := HL.out; omega
            obtain ⟨hc0, hc1⟩ := hx k _ (List.getElem?_eq_getElem hkl)
            obtain ⟨hd0, hd1⟩ := hx' k _ (List.getElem?_eq_getElem hkl')
            have c0 := (hL.cell (p := ⟨b, off + k * 2, none⟩) hb).trans hc0
            have c1 := (hL.cell (p := ⟨b, off + k * 2 + 1, none⟩) hb).trans hc1
            have d0 := (hL.cell (p := ⟨b', off' + k * 2, none⟩) hb').trans hd0
            have d1 := (hL.cell (p := ⟨b', off' + k * 2 + 1, none⟩) hb').trans hd1
            have HX := hide (List.getElem?_eq_getElem hkl)
            have HY := hide (List.getElem?_eq_getElem hkl')
            generalize ts[k] = x at c0 c1 HX
            generalize us[k] = y at d0 d1 HY
            obtain ⟨x1, x2⟩ := x
            obtain ⟨y1, y2⟩ := y
            simp only at c0 c1 d0 d1
            clear hc0 hc1 hd0 hd1 hx hx'
            have hne := tagNe_at x1 x2 y1 y2
            have i1 : (0 : Int) ≤ (k : Int) := by omega
            have i2 : (k : Int) < (n : Int) := by omega
            go_wp2_with fail
            refine wp_region_noPanic ?_
            refine wp_region_held_drew (S := (fun w' => w'.cell? ⟨b, off + k * 2, none⟩ = some (.int .i64 x1) ∧ w'.cell? ⟨b, off + k * 2 + 1, none⟩ = some (.int .i64 x2) ∧ w'.cell? ⟨b', off' + k * 2, none⟩ = some (.int .i64 y1) ∧ w'.cell? ⟨b', off' + k * 2 + 1, none⟩ = some (.int .i64 y2) ∧ Below w.heap.size w w')) (by kernel_rfl) (by exact ⟨c0, c1, d0, d1, hL.drew⟩) (fun hHeld => ?_)
            refine take_run 0 (some 16) (v := ?_) rfl rfl (by kernel_rfl) (by kernel_rfl) (by kernel_rfl) (fun _ _ _ h => h) (by rfl) ?_ hHeld ?_
            rotate_left
            · ((intro w hSw); (try dsimp only at hSw); go_simp <;> with_reducible rfl)
            simp only [Act.put, List.setIfInBounds_toArray, List.set_cons_zero, List.set_cons_succ]
            refine take_run 1 (some 17) (v := ?_) rfl rfl (by kernel_rfl) (by kernel_rfl) (by kernel_rfl) (fun _ _ _ h => h) (by rfl) ?_ hHeld ?_
            rotate_left
            · ((intro w hSw); (try dsimp only at hSw); go_simp <;> with_reducible rfl)
            simp only [Act.put, List.setIfInBounds_toArray, List.set_cons_zero, List.set_cons_succ]
            refine take_run 2 (some 18) (v := ?_) rfl rfl (by kernel_rfl) (by kernel_rfl) (by kernel_rfl) (fun _ _ _ h => h) (by rfl) ?_ hHeld ?_
            rotate_left
            · ((intro w hSw); (try dsimp only at hSw); go_simp <;> with_reducible rfl)
            simp only [Act.put, List.setIfInBounds_toArray, List.set_cons_zero, List.set_cons_succ]
            refine take_run 3 (some 19) (v := ?_) rfl rfl (by kernel_rfl) (by kernel_rfl) (by kernel_rfl) (fun _ _ _ h => h) (by rfl) ?_ hHeld ?_
            rotate_left
            · ((intro w hSw); (try dsimp only at hSw); go_simp <;> with_reducible rfl)
            simp only [Act.put, List.setIfInBounds_toArray, List.set_cons_zero, List.set_cons_succ]
            refine take_run 4 (some 20) (v := ?_) rfl rfl (by kernel_rfl) (by kernel_rfl) (by kernel_rfl) (fun _ _ _ h => h) (by rfl) ?_ hHeld ?_
            rotate_left
            · ((intro w hSw); (try dsimp only at hSw); go_simp <;> with_reducible rfl)
            simp only [Act.put, List.setIfInBounds_toArray, List.set_cons_zero, List.set_cons_succ]
            refine take_run 5 (some 21) (v := ?_) rfl rfl (by kernel_rfl) (by kernel_rfl) (by kernel_rfl) (fun _ _ _ h => h) (by rfl) ?_ hHeld ?_
            rotate_left
            · ((intro w hSw); (try dsimp only at hSw); go_simp <;> with_reducible rfl)
            simp only [Act.put, List.setIfInBounds_toArray, List.set_cons_zero, List.set_cons_succ]
            refine take_run 6 (some 22) (v := ?_) rfl rfl (by kernel_rfl) (by kernel_rfl) (by kernel_rfl) (fun _ _ _ h => h) (by rfl) ?_ hHeld ?_
            rotate_left
            · ((intro w hSw); (try dsimp only at hSw); go_simp <;> with_reducible rfl)
            simp only [Act.put, List.setIfInBounds_toArray, List.set_cons_zero, List.set_cons_succ]
            refine take_run 7 (some 23) (v := ?_) rfl rfl (by kernel_rfl) (by kernel_rfl) (by kernel_rfl) (fun _ _ _ h => h) (by rfl) ?_ hHeld ?_
            rotate_left
            · ((intro w hSw); (try dsimp only at hSw); go_simp <;> with_reducible rfl)
            simp only [Act.put, List.setIfInBounds_toArray, List.set_cons_zero, List.set_cons_succ]
            refine take_run 8 (some 24) (v := ?_) rfl rfl (by kernel_rfl) (by kernel_rfl) (by kernel_rfl) (fun _ _ _ h => h) (by rfl) ?_ hHeld ?_
            rotate_left
            · ((intro w hSw); (try dsimp only at hSw); go_simp <;> with_reducible rfl)
            simp only [Act.put, List.setIfInBounds_toArray, List.set_cons_zero, List.set_cons_succ]
            refine wpAnyH_done (by kernel_rfl) ?_ _
            refine NoPanic.normal ?_
            have hL2 := hHeld.2.2.2.2
            clear hHeld c0 c1 d0 d1 hL hne
            by_cases hxy : x1 = y1 ∧ x2 = y2
            · obtain ⟨rfl, rfl⟩ := hxy
              rw [eqB_same]
              have HS := hide (take_eq_step HX.out HY.out heq.out rfl)
              clear heq
              go_wp2
              exact ⟨⟨k + 1, by omega, by go_num, HS, hL2⟩, by simp [intOf]; omega⟩
            · have he : eqB x1 x2 y1 y2 = false := decide_eq_false hxy
              rw [he]
              have hf : Hid (decide (ts = us) = false) := decide_eq_false (fun e => hxy (by
                have h1 := HX.out
                have h2 := HY.out
                rw [e, h2] at h1
                injection h1 with h1
                injection h1 with h3 h4
                exact ⟨h3.symm, h4.symm⟩))
              clear hxy he
              go_wp2
              go_ret
              exact ⟨ret_bool hf.out.symm, hL2⟩
      · have hkn : k = n := by omega
        subst hkn
        clear hlt
        have hf : Hid (decide (ts = us) = true) := decide_eq_true (hd.out.1 heq.out)
        clear heq
        go_wp2
        go_ret
        exact ⟨ret_bool hf.out.symm, hL⟩
  · have hd : Hid (decide (ts = us) = false) := decide_eq_false (fun e => hlen (by rw [e]))
    have hne : ((ts.length : Int) != (us.length : Int)) = true := by simp; omega
    clear hlen
    go_enter Tryz.func142, Tryz.ntmps142
    go_wp2
    go_ret
    exact ⟨ret_bool hd.out.symm, Below.refl _ _⟩

/-- Whether two versions say the same. -/
def likeB (v v' : V) : Bool := decide (v.k = v'.k) && eqB v.t v.u v'.t v'.u && decide (v.ts = v'.ts) && decide (v.s = v'.s) && decide (v.g = v'.g)
theorem likeB_iff (v v' : V) : likeB v v' = true ↔ V.like v v' := by
  unfold likeB V.like eqB
  simp only [Bool.and_eq_true, decide_eq_true_eq]
  constructor
  · rintro ⟨⟨⟨⟨h1, h2, h3⟩, h4⟩, h5⟩, h6⟩
    exact ⟨h1, h2, h3, h4, h5, h6⟩
  · rintro ⟨h1, h2, h3, h4, h5, h6⟩
    exact ⟨⟨⟨⟨h1, h2, h3⟩, h4⟩, h5⟩, h6⟩
set_option maxRecDepth 100000 in
set_option maxHeartbeats 2000000 in
theorem verSame_any (k t u : Int) (a : Option Addr) (c : Nat) (ts : List (Int × Int)) (s : ByteArray) (g : Bool) (k' t' u' : Int) (a' : Option Addr) (c' : Nat) (ts' : List (Int × Int)) (s' : ByteArray) (g' : Bool) (w : World) (hn : ts.length ≤ 1048576) (hn' : ts'.length ≤ 1048576) (ht : Tg w w.heap.size a ts) (ht' : Tg w w.heap.size a' ts') :
    Calls Tryz.prog 111 #[.agg (verC k t u a ts.length c s g), .agg (verC k' t' u' a' ts'.length c' s' g')] w fun e w' => e = .returned (.bool (likeB ⟨k, t, u, a, c, ts, s, g⟩ ⟨k', t', u', a', c', ts', s', g'⟩)) ∧ Below w.heap.size w w' := by
  have S0 := ((Inv.start w).box 96 (verC k t u a ts.length c s g)).box 96 (verC k' t' u' a' ts'.length c' s' g')
  simp only [World.size_alloc] at S0
  have q0 := (S0.nth 0 rfl).six.1
  have q1 := (S0.nth 1 rfl).six.1
  by_cases hk : k = k'
  · subst hk
    have hte := tagEq_at t u t' u'
    cases hq : eqB t u t' u'
    · have HF : Hid (likeB ⟨k, t, u, a, c, ts, s, g⟩ ⟨k, t', u', a', c', ts', s', g'⟩ = false) := by unfold Hid likeB; simp [hq]
      rw [hq] at hte
      clear hq
      go_enter Tryz.func111, Tryz.ntmps111
      go_wp2
      go_ret
      exact ⟨ret_bool HF.out.symm, S0.below⟩
    · rw [hq] at hte
      have HQ := hide hq
      have CT := hide (equalTags_any a a' c c' ts ts' ((w.alloc (.cells (verC k t u a ts.length c s g) 96)).alloc (.cells (verC k t' u' a' ts'.length c' s' g') 96)) hn hn' ((ht.on S0.below).up S0.base) ((ht'.on S0.below).up S0.base))
      have hse := str_same s s'
      clear hq ht ht'
      go_enter Tryz.func111, Tryz.ntmps111
      go_wp2_with fail
      with_reducible refine CT.out.mono ?_
      rintro e w1 ⟨rfl, hb1⟩
      have S1 := S0.on hb1
      have p0 := (S1.nth 0 rfl).six.1
      have p1 := (S1.nth 1 rfl).six.1
      clear S0 q0 q1 CT hte hb1
      by_cases h3 : ts = ts'
      · rw [decide_eq_true h3]
        have H3 := hide h3
        clear h3
        by_cases h4 : s = s'
        · rw [decide_eq_true h4] at hse
          have HF : Hid (likeB ⟨k, t, u, a, c, ts, s, g⟩ ⟨k, t', u', a', c', ts', s', g'⟩ = decide (g = g')) := by unfold Hid likeB; simp [HQ.out, H3.out, h4]
          clear h4
          have HG : Hid (decide (g = g') = (g == g')) := by unfold Hid; cases g <;> cases g' <;> rfl
          go_wp2
          go_ret
          exact ⟨ret_bool (by rw [HF.out, HG.out]), S1.below⟩
        · rw [decide_eq_false h4] at hse
          have HF : Hid (likeB ⟨k, t, u, a, c, ts, s, g⟩ ⟨k, t', u', a', c', ts', s', g'⟩ = false) := by unfold Hid likeB; simp [h4]
          clear h4
          go_wp2
          go_ret
          exact ⟨ret_bool HF.out.symm, S1.below⟩
      · rw [decide_eq_false h3]
        have HF : Hid (likeB ⟨k, t, u, a, c, ts, s, g⟩ ⟨k, t', u', a', c', ts', s', g'⟩ = false) := by unfold Hid likeB; simp [h3]
        clear h3
        go_wp2
        go_ret
        exact ⟨ret_bool HF.out.symm, S1.below⟩
  · have HF : Hid (likeB ⟨k, t, u, a, c, ts, s, g⟩ ⟨k', t', u', a', c', ts', s', g'⟩ = false) := by unfold Hid likeB; simp [hk]
    have hk' : (k == k') = false := by simpa using hk
    clear hk
    go_enter Tryz.func111, Tryz.ntmps111
    go_wp2
    go_ret
    exact ⟨ret_bool HF.out.symm, S0.below⟩

/-- Whether two slices of versions say the same. -/
def likesB : List V → List V → Bool
  | [], [] => true
  | v :: vs, u :: us => likeB v u && likesB vs us
  | _, _ => false
theorem likesB_iff (vs us : List V) : likesB vs us = true ↔ vs.length = us.length ∧ Like vs us := by
  induction vs generalizing us with
  | nil =>
    cases us with
    | nil => simp [likesB, Like]
    | cons u us => simp [likesB]
  | cons v vs ih =>
    cases us with
    | nil => simp [likesB]
    | cons u us =>
      rw [likesB, Bool.and_eq_true, likeB_iff, ih]
      constructor
      · rintro ⟨h1, h2, h3⟩
        refine ⟨by simp [h2], fun i x y hx hy => ?_⟩
        cases i with
        | zero =>
          simp only [List.getElem?_cons_zero, Option.some.injEq] at hx hy
          rw [← hx, ← hy]
          exact h1
        | succ i => exact h3 i x y hx hy
      · rintro ⟨h2, h3⟩
        exact ⟨h3 0 v u rfl rfl, by simpa using h2, fun i x y hx hy => h3 (i + 1) x y hx hy⟩
theorem likesB_no {vs us : List V} {i : Nat} {v u : V} (h1 : vs[i]? = some v) (h2 : us[i]? = some u) (h : likeB v u = false) : likesB vs us = false := by
  cases hq : likesB vs us with
  | false => rfl
  | true =>
    have := (likesB_iff vs us).1 hq
    rw [(likeB_iff v u).2 (this.2 i v u h1 h2)] at h
    cases h
set_option maxRecDepth 100000 in
set_option maxHeartbeats 2000000 in
theorem equalFunc_any (a a' : Option Addr) (c c' : Nat) (vs us : List V) (w : World) (hn : vs.length ≤ 1048576) (hm : Small vs) (hm' : Small us) (hv : Vg w w.heap.size a vs) (hu : Vg w w.heap.size a' us) :
    Calls Tryz.prog 133 #[.slice a vs.length c, .slice a' us.length c', .func (.func 111) #[] #[]] w fun e w' => e = .returned (.bool (likesB vs us)) ∧ Below w.heap.size w w' := by
  have HM := hide hm
  have HM' := hide hm'
  clear hm hm'
  by_cases hlen : vs.length = us.length
  · generalize hnn : vs.length = n at *
    rw [← hlen]
    have HN := hide hnn
    have HL := hide hlen
    clear hnn hlen
    go_enter Tryz.func133, Tryz.ntmps133
    go_wp2
    go_loopw [17] (fun i wr => ∃ k : Nat, k ≤ n ∧ i = .int .i64 (k : Int) ∧ Hid (∀ (j : Nat) x y, j < k → vs[j]? = some x → us[j]? = some y → V.like x y) ∧ Below w.heap.size w wr) (fun i _ => n - (intOf i).toNat)
    case atStart => exact ⟨0, Nat.zero_le _, rfl, fun j x y hj => absurd hj (by omega), Below.refl _ _⟩
    case round =>
      obtain ⟨k, hk, rfl, heq, hL⟩ := hrel
      by_cases hlt : k < n
      · rcases hv with h0 | ⟨b, off, rfl, hb, hx⟩
        · have := HN.out; subst h0; simp at this; omega
        · rcases hu with h0 | ⟨b', off', rfl, hb', hx'⟩
          · have := HL.out; subst h0; simp at this; omega
          · have hkl : k < vs.length := by have := HN.out; omega
            have hkl' : k < us.length := by have := HL.out; omega
            obtain ⟨hS, hT⟩ := hx k _ (List.getElem?_eq_getElem hkl)
            obtain ⟨hS2, hT2⟩ := hx' k _ (List.getElem?_eq_getElem hkl')
            have HX := hide (List.getElem?_eq_getElem hkl)
            have HY := hide (List.getElem?_eq_getElem hkl')
            generalize vs[k] = v at hS hT HX
            generalize us[k] = v' at hS2 hT2 HY
            have HB := hide (HM.out v (List.mem_of_getElem? HX.out)).1
            have HB' := hide (HM'.out v' (List.mem_of_getElem? HY.out)).1
            obtain ⟨vk, vt, vu, va, vc, vts, vs', vg⟩ := v
            obtain ⟨uk, ut, uu, ua, uc, uts, us', ug⟩ := v'
            have Q1 := (hS.keep hb fun _ hp => hL.cell hp)
            have hLa := hL.trans ((below_alloc1 wr (.cells (verC vk vt vu va vts.length vc vs' vg) 96)).mono hL.size)
            have Q2 := (hS2.keep hb' fun _ hp => hLa.cell hp)
            simp only at Q1 Q2 hT hT2
            have T1 := hide hT
            have T2 := hide hT2
            clear hS hS2 hT hT2 hx hx'
            have i1 : (0 : Int) ≤ (k : Int) := by omega
            have i2 : (k : Int) < (n : Int) := by omega
            have S0 := (((Inv.start w).on hL).top.box 96 (verC vk vt vu va vts.length vc vs' vg)).box 96 (verC uk ut uu ua uts.length uc us' ug)
            simp only [World.size_alloc] at S0
            go_wp2_with fail
            generalize (wr.alloc (.cells (verC vk vt vu va vts.length vc vs' vg) 96)).alloc (.cells (verC uk ut uu ua uts.length uc us' ug) 96) = W at S0 ⊢
            refine (verSame_any vk vt vu va vc vts vs' vg uk ut uu ua uc uts us' ug W HB.out HB'.out ((T1.out.on S0.below).up S0.base) ((T2.out.on S0.below).up S0.base)).mono ?_
            rintro e w1 ⟨rfl, hb1⟩
            have S1 := S0.on hb1
            clear S0 Q1 Q2 hLa hL
            cases hq : likeB ⟨vk, vt, vu, va, vc, vts, vs', vg⟩ ⟨uk, ut, uu, ua, uc, uts, us', ug⟩
            · have HF := hide (likesB_no HX.out HY.out hq)
              clear hq
              go_wp2
              go_ret
              exact ⟨ret_bool HF.out.symm, S1.below⟩
            · have HS : Hid (∀ (j : Nat) x y, j < k + 1 → vs[j]? = some x → us[j]? = some y → V.like x y) := fun j x y hj hx hy => by
                by_cases e : j = k
                · subst e
                  have h1 := HX.out
                  have h2 := HY.out
                  rw [h1] at hx
                  rw [h2] at hy
                  injection hx with hx
                  injection hy with hy
                  rw [← hx, ← hy]
                  exact (likeB_iff _ _).1 hq
                · exact heq.out j x y (by omega) hx hy
              clear hq heq
              go_wp2
              exact ⟨⟨k + 1, by omega, by go_num, HS, S1.below⟩, by simp [intOf]; omega⟩
      · have hkn : k = n := by omega
        subst hkn
        clear hlt
        have hf : Hid (likesB vs us = true) := (likesB_iff vs us).2 ⟨by have := HN.out; have := HL.out; omega, fun i x y hx hy => heq.out i x y (by have := (List.getElem?_eq_some_iff.1 hx).1; have := HN.out; omega) hx hy⟩
        clear heq
        go_wp2
        go_ret
        exact ⟨ret_bool hf.out.symm, hL⟩
  · have hd : Hid (likesB vs us = false) := by
      cases hq : likesB vs us with
      | false => rfl
      | true => exact absurd ((likesB_iff vs us).1 hq).1 hlen
    have hne : ((vs.length : Int) != (us.length : Int)) = true := by simp; omega
    clear hlen
    go_enter Tryz.func133, Tryz.ntmps133
    go_wp2
    go_ret
    exact ⟨ret_bool hd.out.symm, Below.refl _ _⟩
end Go.Proofs.YtnaggcdhimcilaaGreat
/- Contract of the laws' function that writes a number as a text. Condition: the number is at least 1 and at most 8388000. -/
namespace Go.Proofs.YtnaggcdhimcilaaGreat
open Go.RowKit Go.Joins

/-- The digits of m, ahead of s. -/
def mtx : Nat → Int → ByteArray → ByteArray
  | 0, _, s => s
  | f + 1, m, s => if m ≤ 0 then s else mtx f (m / 10) (⟨#[UInt8.ofNat (48 + m % 10).toNat]⟩ ++ s)
/-- The text that tells the number k. -/
def markT (k : Int) : ByteArray := ⟨#[109]⟩ ++ mtx k.toNat k ⟨#[]⟩
theorem mtx_zero (f : Nat) (s : ByteArray) : mtx f 0 s = s := by cases f <;> rfl
theorem mtx_step {f : Nat} {m : Int} {s : ByteArray} (hm : 0 < m) (hf : m.toNat ≤ f) : ∃ f', (m / 10).toNat ≤ f' ∧ mtx f m s = mtx f' (m / 10) (⟨#[UInt8.ofNat (48 + m % 10).toNat]⟩ ++ s) := by
  match f with
  | 0 => omega
  | f' + 1 =>
    refine ⟨f', by omega, ?_⟩
    rw [mtx, if_neg (by omega)]

set_option maxRecDepth 100000 in
set_option maxHeartbeats 1000000 in
theorem markText_any (k : Int) (w : World) (h1 : 1 ≤ k) (h2 : k ≤ 8388000) :
    Calls Tryz.prog 82 #[.int .i64 k] w fun e w' => e = .returned (.string (markT k)) ∧ Below w.heap.size w w' := by
  have h0 : ¬ k ≤ 0 := by omega
  go_enter Tryz.func82, Tryz.ntmps82
  go_wp2
  go_loopw [0, 3] (fun kk o wr => ∃ (m : Int) (s : ByteArray), 0 ≤ m ∧ (s.size : Int) + m ≤ k ∧ kk = .int .i64 m ∧ o = .string s ∧ Hid (∃ f, m.toNat ≤ f ∧ mtx k.toNat k ⟨#[]⟩ = mtx f m s) ∧ Below w.heap.size w wr) (fun kk _ _ => (intOf kk).toNat)
  case atStart => exact ⟨k, _, by omega, by simp [ByteArray.size], rfl, rfl, ⟨_, Nat.le_refl _, rfl⟩, Below.refl _ _⟩
  case round =>
    obtain ⟨m, s, hm, hmk, rfl, rfl, hE, hL⟩ := hrel
    by_cases hlt : m > 0
    · have hr0 : 0 ≤ m % 10 ∧ m % 10 < 10 := by omega
      have hsz : (s.size : Int) ≤ 8388608 := by omega
      have hone : ((ByteArray.mk #[UInt8.ofNat (48 + m % 10).toNat]).size : Int) ≤ 8388608 := by simp [ByteArray.size]
      have B0 := Blk.made wr 5 #[.int .u8 (48 + m % 10)]
      have hcv : (convert 145 9 (.slice (some ⟨wr.heap.size, 0, none⟩) 1 1)).run Tryz.prog (wr.alloc (.cells #[.int .u8 (48 + m % 10)] 5)) = .ok (.string ⟨#[UInt8.ofNat (48 + m % 10).toNat]⟩) (wr.alloc (.cells #[.int .u8 (48 + m % 10)] 5)) := by
        rw [run_convert_bytes_string _ _ _ 5 _ _ _ Tryz.underlying145 Tryz.underlying5 Tryz.underlying9, run_bytesToString _ _ 1 1 [48 + m % 10] (by go_simp)]
        rfl
      have hadd := fun W : World => run_string_add (P := Tryz.prog) (w := W) (ByteArray.mk #[UInt8.ofNat (48 + m % 10).toNat]) s hone hsz
      have HE : Hid (∃ f, (m / 10).toNat ≤ f ∧ mtx k.toNat k ⟨#[]⟩ = mtx f (m / 10) (⟨#[UInt8.ofNat (48 + m % 10).toNat]⟩ ++ s)) := by
        obtain ⟨f, hf, e⟩ := hE.out
        obtain ⟨f', hf', e'⟩ := mtx_step (s := s) hlt hf
        exact ⟨f', hf', e.trans e'⟩
      have H9 : Hid (0 ≤ m / 10 ∧ ((ByteArray.mk #[UInt8.ofNat (48 + m % 10).toNat] ++ s).size : Int) + m / 10 ≤ k) := by
        refine ⟨by omega, ?_⟩
        have e1 : (ByteArray.mk #[UInt8.ofNat (48 + m % 10).toNat]).size = 1 := rfl
        rw [ByteArray.size_append, e1]
        omega
      go_wp2
      exact ⟨⟨m / 10, _, H9.out.1, H9.out.2, rfl, rfl, HE, hL.alloc hL.size _⟩, by simp [intOf]; omega⟩
    · have hm0 : m = 0 := by omega
      subst hm0
      have HE : Hid (mtx k.toNat k ⟨#[]⟩ = s) := by
        obtain ⟨f, _, e⟩ := hE.out
        show mtx k.toNat k ⟨#[]⟩ = s
        rw [e, mtx_zero]
      go_wp2
      go_ret
      exact ⟨congrArg (fun x => Ending.returned (.string x)) (show _ = markT k by unfold markT; rw [HE.out]), hL⟩
end Go.Proofs.YtnaggcdhimcilaaGreat
/- Contracts of the laws' functions that write marks into a vector's own memory and look whether they stand. Condition: at most 1048576 tags, marks within bounds. -/
namespace Go.Proofs.YtnaggcdhimcilaaGreat
open Go.RowKit Go.Joins

/-- The marks that n tags bear, from number k on. -/
def marksL (k : Int) (n : Nat) : List (Int × Int) := (List.range n).map fun (i : Nat) => (k + 2 * (i : Int), k + 2 * (i : Int) + 1)
theorem marksL_len (k : Int) (n : Nat) : (marksL k n).length = n := by simp [marksL]
theorem marksL_at (k : Int) (n i : Nat) (h : i < n) : (marksL k n)[i]? = some (k + 2 * (i : Int), k + 2 * (i : Int) + 1) := by simp [marksL, h]

theorem int_val {a b : Int} (h : a = b) : Value.int .i64 a = .int .i64 b := by rw [h]
theorem grown_own {w w' : World} {g i : Nat} (h : w.grownBy w' (some g)) (u : Value) : w.grownBy (w'.setCell ⟨g, i, none⟩ u) (some g) :=
  ⟨h.os, h.tape, h.output, by simpa [World.setCell] using h.size, fun k hk hne => (Below.heap_setCell w' _ u k (by rintro rfl; exact hne rfl)).trans (h.block k hk hne)⟩
/-- One known block has turned; the others are as they were. -/
theorem Inv.turn {w w1 w2 : World} {n g : Nat} {bs bs' : List (Nat × TypeId × Array Value)} (h : Inv w n bs w1) (hg : w1.grownBy w2 (some g)) (hw : w.heap.size ≤ g)
    (hs : ∀ x ∈ bs', (x ∈ bs ∧ x.1 ≠ g) ∨ (x.1 = g ∧ g < n ∧ Blk w2 g x.2.1 x.2.2)) : Inv w n bs' w2 := by
  refine ⟨h.below.grown hg h.below.size (fun k hk => by injection hk; omega), Nat.le_trans h.room hg.size, fun x hx => ?_⟩
  rcases hs x hx with ⟨hm, hne⟩ | ⟨rfl, hlt, hb⟩
  · exact ⟨(h.blk x hm).1, (h.blk x hm).2.1, (h.blk x hm).2.2.kept hg (by intro e; injection e; omega)⟩
  · exact ⟨hw, hlt, hb⟩

/-- What marking leaves: the marks in the row's own block; no other block has turned. -/
def MarkedS (w : World) (g : Nat) (T : TypeId) (size n : Nat) (k : Int) (e : Ending) (w' : World) : Prop :=
  e = .returned (.int .i64 (k + 2 * (n : Int))) ∧ (∃ cur', Blk w' g T cur' ∧ cur'.size = size ∧ ∀ i x, (marksL k n)[i]? = some x → TagAt cur' i x) ∧ w.grownBy w' (some g)

set_option maxRecDepth 100000 in
set_option maxHeartbeats 1000000 in
theorem markTagS_any (g c n : Nat) (T : TypeId) (cur : Array Value) (k : Int) (w : World) (hB : Blk w g T cur) (hs : n * 2 ≤ cur.size) (hn : n ≤ 1048576) (hk0 : 0 ≤ k) (hk : k ≤ 1000000000) :
    Calls Tryz.prog 81 #[.slice (some ⟨g, 0, none⟩) n c, .int .i64 k] w (MarkedS w g T cur.size n k) := by
  go_enter Tryz.func81, Tryz.ntmps81
  go_wp2
  go_loopw [1, 5] (fun v i wr => ∃ (j : Nat) (cr : Array Value), j ≤ n ∧ i = .int .i64 (j : Int) ∧ v = .int .i64 (k + 2 * (j : Int)) ∧ Blk wr g T cr ∧ cr.size = cur.size ∧ (∀ i x, i < j → (marksL k n)[i]? = some x → TagAt cr i x) ∧ w.grownBy wr (some g)) (fun _ i _ => n - (intOf i).toNat)
  case atStart => exact ⟨0, cur, Nat.zero_le _, rfl, by simp, hB, rfl, fun i x hi => absurd hi (by omega), World.grownBy.refl _ _⟩
  case round =>
    obtain ⟨j, cr, hj, rfl, rfl, hC, hsz, hall, hG⟩ := hrel
    by_cases hlt : j < n
    · have hs0 : j * 2 < cr.size := by omega
      have hs1 : j * 2 + 1 < cr.size := by omega
      have HA := hide (tagAt_step hs1 (marksL_at k n j hlt) hall)
      have HZ := hide hsz
      have d0 : wr.cell? ⟨g, j * 2, none⟩ = some cr[j * 2] := by rw [hC.at]; exact Array.getElem?_eq_getElem hs0
      have d1 : wr.cell? ⟨g, j * 2 + 1, none⟩ = some cr[j * 2 + 1] := by rw [hC.at]; exact Array.getElem?_eq_getElem hs1
      have f0 := hC.loose (j * 2)
      have f1 := hC.loose (j * 2 + 1)
      clear hall hsz
      go_wp2
      exact ⟨⟨j + 1, _, by omega, by go_num, int_val (by omega), (hC.put _ _).put _ _, by simp; exact HZ.out, HA.out, grown_own (grown_own hG _) _⟩, by simp [intOf]; omega⟩
    · have hjn : j = n := by omega
      subst hjn
      clear hlt
      have HA := hide hall
      clear hall
      go_wp2
      go_ret
      exact ⟨rfl, ⟨cr, hC, hsz, fun i x hx => HA.out i x (by have := (List.getElem?_eq_some_iff.1 hx).1; rw [marksL_len] at this; exact this) hx⟩, hG⟩

set_option maxRecDepth 100000 in
set_option maxHeartbeats 1000000 in
theorem heldTagS_any (a : Option Addr) (c n : Nat) (k : Int) (w : World) (hn : n ≤ 1048576) (hk0 : 0 ≤ k) (hk : k ≤ 1000000000) (ht : Tg w w.heap.size a (marksL k n)) :
    Calls Tryz.prog 84 #[.slice a n c, .int .i64 k] w fun e w' => e = .returned (.int .i64 (k + 2 * (n : Int))) ∧ w = w' := by
  go_enter Tryz.func84, Tryz.ntmps84
  go_wp2
  go_loop [1, 5] (fun v i => ∃ j : Nat, j ≤ n ∧ i = .int .i64 (j : Int) ∧ v = .int .i64 (k + 2 * (j : Int))) (fun _ i => n - (intOf i).toNat)
  case atStart => exact ⟨0, Nat.zero_le _, rfl, by simp⟩
  case round =>
    obtain ⟨j, hj, rfl, rfl⟩ := hrel
    by_cases hlt : j < n
    · rcases ht with h0 | ⟨b, off, rfl, hb, hx⟩
      · have := marksL_len k n; rw [h0] at this; simp at this; omega
      · obtain ⟨c0, c1⟩ := hx j _ (marksL_at k n j hlt)
        simp only at c0 c1
        clear hx
        go_wp2
        exact ⟨⟨j + 1, by omega, by go_num, int_val (by omega)⟩, by simp [intOf]; omega⟩
    · have hjn : j = n := by omega
      subst hjn
      clear hlt
      go_wp2
      go_ret
      exact ⟨rfl, rfl⟩

end Go.Proofs.YtnaggcdhimcilaaGreat
/- What it is that every block of tags stays as it is. Of whatever program that has tags. -/
namespace Go.Proofs.YtnaggcdhimcilaaGreat
open Go.RowKit Go.Joins

/-- Every block of tags stays as it is. -/
def Tk (w w' : World) : Prop := ∀ g cur, Blk w g 91 cur → Blk w' g 91 cur
theorem Tk.below {w w' : World} (h : Below w.heap.size w w') : Tk w w' := fun _ _ hb => hb.on h
theorem Tk.drew (w : World) : Tk w w.drew := fun _ _ hb => hb
theorem Tk.alloc (w : World) (o : Obj) : Tk w (w.alloc o) := fun _ _ hb => hb.more o
theorem Tk.trans {a b c : World} (h : Tk a b) (k : Tk b c) : Tk a c := fun g cur hb => k g cur (h g cur hb)
theorem blk_type {w : World} {g : Nat} {T T' : TypeId} {cs cs' : Array Value} (h : Blk w g T cs) (h' : Blk w g T' cs') : T = T' ∧ cs = cs' := by
  unfold Blk at h h'
  rw [h] at h'
  injection h' with h'
  injection h' with h1 h2 h3
  exact ⟨h2, h1⟩
theorem Tk.set {w : World} {p : Addr} {T : TypeId} {cs : Array Value} (hb : Blk w p.block T cs) (hT : T ≠ 91) (u : Value) : Tk w (w.setCell p u) := fun _ _ h => h.aside (fun e => by
  subst e
  exact hT (blk_type hb h).1) u
theorem Tk.grown {w w' : World} {row : Option Nat} (hg : w.grownBy w' row) (hr : ∀ r, row = some r → ∃ T cs, Blk w r T cs ∧ T ≠ 91) : Tk w w' := fun g _ h => h.kept hg (fun e => by
  obtain ⟨T, cs, hb, hT⟩ := hr g e
  exact hT (blk_type hb h).1)
end Go.Proofs.YtnaggcdhimcilaaGreat
