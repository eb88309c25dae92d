/- Contracts of whether two versions, two slices of versions are the same, in the program and in the model. Condition: what is said of each. -/
import Derived.Test.YtbbaogpgapemhaaGreatJStoreOk
import Derived.Test.YtbbaogpgapemhaaGreatJPutPure
import Derived.Test.YtbbaogpgapemhaaGreatJPastOk
import Derived.Test.YtbbaogpgapemhaaGreatJVerOk0
import Derived.Laws.BytesString
import Derived.Laws.Concat
import Derived.Deep.AppendLies
namespace Go.Proofs.YtbbaogpgapemhaaGreat
open Go.RowKit Go.Joins
attribute [local go_sem ↓] Go.wp_at_zero Go.wp_at_succ

theorem tagEq_at (a b t u : Int) (W : World) : (binOp .eql 46 (.agg #[.int .i64 a, .int .i64 b]) (.agg #[.int .i64 t, .int .i64 u])).run Tryz.prog W = .ok (.bool (eqB a b t u)) W := by
  by_cases ht : a = t
  · subst ht
    by_cases hp : b = u
    · subst hp
      rw [eqB_same]
      go_simp
    · have h : eqB a b a u = false := by unfold eqB; simpa using hp
      rw [h]
      go_simp
  · have h : eqB a b t u = false := by unfold eqB; simp [ht]
    rw [h]
    go_simp
theorem tagNe_at (a b t u : Int) (W : World) : (binOp .neq 46 (.agg #[.int .i64 a, .int .i64 b]) (.agg #[.int .i64 t, .int .i64 u])).run Tryz.prog W = .ok (.bool (!eqB a b t u)) W := by
  by_cases ht : a = t
  · subst ht
    by_cases hp : b = u
    · subst hp
      rw [eqB_same]
      go_simp
    · have h : eqB a b a u = false := by unfold eqB; simpa using hp
      rw [h]
      go_simp
  · have h : eqB a b t u = false := by unfold eqB; simp [ht]
    rw [h]
    go_simp
theorem str_same (s s' : ByteArray) : (s.toList == s'.toList) = decide (s = s') := by
  rw [Bool.eq_iff_iff, beq_iff_eq, decide_eq_true_eq, ByteArray.toList_eq, ByteArray.toList_eq]
  exact ⟨bl_inj, fun h => by rw [h]⟩
set_option maxRecDepth 100000 in
set_option maxHeartbeats 2000000 in
theorem equalTags_any (a a' : Option Addr) (c c' : Nat) (ts us : List (Int × Int)) (w : World) (hn : ts.length ≤ 1048576) (_hn' : us.length ≤ 1048576) (ht : Tg w w.heap.size a ts) (hu : Tg w w.heap.size a' us) :
    Calls Tryz.prog 191 #[.slice a ts.length c, .slice a' us.length c'] w fun e w' => e = .returned (.bool (decide (ts = us))) ∧ Below w.heap.size w w' := by
  by_cases hlen : ts.length = us.length
  · have hd : Hid (ts.take ts.length = us.take us.length ↔ ts = us) := by unfold Hid; rw [List.take_length, List.take_length]
    generalize hnn : ts.length = n at *
    rw [← hlen] at hd ⊢
    have HN := hide hnn
    have HL := hide hlen
    clear hnn hlen
    go_enter Tryz.func191, Tryz.ntmps191
    go_wp2
    go_loopw [13] (fun i wr => ∃ k : Nat, k ≤ n ∧ i = .int .i64 (k : Int) ∧ Hid (ts.take k = us.take k) ∧ Below w.heap.size w wr) (fun i _ => n - (intOf i).toNat)
    case atStart => exact ⟨0, Nat.zero_le _, rfl, by simp [Hid], Below.refl _ _⟩
    case round =>
      obtain ⟨k, hk, rfl, heq, hL⟩ := hrel
      by_cases hlt : k < n
      · rcases ht with h0 | ⟨b, off, rfl, hb, hx⟩
        · have := HN.out; subst h0; simp at this; omega
        · rcases hu with h0 | ⟨b', off', rfl, hb', hx'⟩
          · have := HL.out; subst h0; simp at this; omega
          · have hkl : k < ts.length := by have := HN.out; omega
            have hkl' : k < us.length := by have := HL.out; omega
            obtain ⟨hc0, hc1⟩ := hx k _ (List.getElem?_eq_getElem hkl)
            obtain ⟨hd0, hd1⟩ := hx' k _ (List.getElem?_eq_getElem hkl')
            have c0 := (hL.cell (p := ⟨b, off + k * 2, none⟩) hb).trans hc0
            have c1 := (hL.cell (p := ⟨b, off + k * 2 + 1, none⟩) hb).trans hc1
            have d0 := (hL.cell (p := ⟨b', off' + k * 2, none⟩) hb').trans hd0
            have d1 := (hL.cell (p := ⟨b', off' + k * 2 + 1, none⟩) hb').trans hd1
            have HX := hide (List.getElem?_eq_getElem hkl)
            have HY := hide (List.getElem?_eq_getElem hkl')
            generalize ts[k] = x at c0 c1 HX
            generalize us[k] = y at d0 d1 HY
            obtain ⟨x1, x2⟩ := x
            obtain ⟨y1, y2⟩ := y
            simp only at c0 c1 d0 d1
            clear hc0 hc1 hd0 hd1 hx hx'
            have hne := tagNe_at x1 x2 y1 y2
            have i1 : (0 : Int) ≤ (k : Int) := by omega
            have i2 : (k : Int) < (n : Int) := by omega
            go_wp2_with fail
            refine wp_region_noPanic ?_
            refine wp_region_held_drew (S := (fun w' => w'.cell? ⟨b, off + k * 2, none⟩ = some (.int .i64 x1) ∧ w'.cell? ⟨b, off + k * 2 + 1, none⟩ = some (.int .i64 x2) ∧ w'.cell? ⟨b', off' + k * 2, none⟩ = some (.int .i64 y1) ∧ w'.cell? ⟨b', off' + k * 2 + 1, none⟩ = some (.int .i64 y2) ∧ Below w.heap.size w w')) (by kernel_rfl) (by exact ⟨c0, c1, d0, d1, hL.drew⟩) (fun hHeld => ?_)
            refine take_run 0 (some 16) (v := ?_) rfl rfl (by kernel_rfl) (by kernel_rfl) (by kernel_rfl) (fun _ _ _ h => h) (by rfl) ?_ hHeld ?_
            rotate_left
            · ((intro w hSw); (try dsimp only at hSw); go_simp <;> with_reducible rfl)
            simp only [Act.put, List.setIfInBounds_toArray, List.set_cons_zero, List.set_cons_succ]
            refine take_run 1 (some 17) (v := ?_) rfl rfl (by kernel_rfl) (by kernel_rfl) (by kernel_rfl) (fun _ _ _ h => h) (by rfl) ?_ hHeld ?_
            rotate_left
            · ((intro w hSw); (try dsimp only at hSw); go_simp <;> with_reducible rfl)
            simp only [Act.put, List.setIfInBounds_toArray, List.set_cons_zero, List.set_cons_succ]
            refine take_run 2 (some 18) (v := ?_) rfl rfl (by kernel_rfl) (by kernel_rfl) (by kernel_rfl) (fun _ _ _ h => h) (by rfl) ?_ hHeld ?_
            rotate_left
            · ((intro w hSw); (try dsimp only at hSw); go_simp <;> with_reducible rfl)
            simp only [Act.put, List.setIfInBounds_toArray, List.set_cons_zero, List.set_cons_succ]
            refine take_run 3 (some 19) (v := ?_) rfl rfl (by kernel_rfl) (by kernel_rfl) (by kernel_rfl) (fun _ _ _ h => h) (by rfl) ?_ hHeld ?_
            rotate_left
            · ((intro w hSw); (try dsimp only at hSw); go_simp <;> with_reducible rfl)
            simp only [Act.put, List.setIfInBounds_toArray, List.set_cons_zero, List.set_cons_succ]
            refine take_run 4 (some 20) (v := ?_) rfl rfl (by kernel_rfl) (by kernel_rfl) (by kernel_rfl) (fun _ _ _ h => h) (by rfl) ?_ hHeld ?_
            rotate_left
            · ((intro w hSw); (try dsimp only at hSw); go_simp <;> with_reducible rfl)
            simp only [Act.put, List.setIfInBounds_toArray, List.set_cons_zero, List.set_cons_succ]
            refine take_run 5 (some 21) (v := ?_) rfl rfl (by kernel_rfl) (by kernel_rfl) (by kernel_rfl) (fun _ _ _ h => h) (by rfl) ?_ hHeld ?_
            rotate_left
            · ((intro w hSw); (try dsimp only at hSw); go_simp <;> with_reducible rfl)
            simp only [Act.put, List.setIfInBounds_toArray, List.set_cons_zero, List.set_cons_succ]
            refine take_run 6 (some 22) (v := ?_) rfl rfl (by kernel_rfl) (by kernel_rfl) (by kernel_rfl) (fun _ _ _ h => h) (by rfl) ?_ hHeld ?_
            rotate_left
            · ((intro w hSw); (try dsimp only at hSw); go_simp <;> with_reducible rfl)
            simp only [Act.put, List.setIfInBounds_toArray, List.set_cons_zero, List.set_cons_succ]
            refine take_run 7 (some 23) (v := ?_) rfl rfl (by kernel_rfl) (by kernel_rfl) (by kernel_rfl) (fun _ _ _ h => h) (by rfl) ?_ hHeld ?_
            rotate_left
            · ((intro w hSw); (try dsimp only at hSw); go_simp <;> with_reducible rfl)
            simp only [Act.put, List.setIfInBounds_toArray, List.set_cons_zero, List.set_cons_succ]
            refine take_run 8 (some 24) (v := ?_) rfl rfl (by kernel_rfl) (by kernel_rfl) (by kernel_rfl) (fun _ _ _ h => h) (by rfl) ?_ hHeld ?_
            rotate_left
            · ((intro w hSw); (try dsimp only at hSw); go_simp <;> with_reducible rfl)
            simp only [Act.put, List.setIfInBounds_toArray, List.set_cons_zero, List.set_cons_succ]
            refine wpAnyH_done (by kernel_rfl) ?_ _
            refine NoPanic.normal ?_
            have hL2 := hHeld.2.2.2.2
            clear hHeld c0 c1 d0 d1 hL hne
            by_cases hxy : x1 = y1 ∧ x2 = y2
            · obtain ⟨rfl, rfl⟩ := hxy
              rw [eqB_same]
              have HS := hide (take_eq_step HX.out HY.out heq.out rfl)
              clear heq
              go_wp2
              exact ⟨⟨k + 1, by omega, by go_num, HS, hL2⟩, by simp [intOf]; omega⟩
            · have he : eqB x1 x2 y1 y2 = false := decide_eq_false hxy
              rw [he]
              have hf : Hid (decide (ts = us) = false) := decide_eq_false (fun e => hxy (by
                have h1 := HX.out
                have h2 := HY.out
                rw [e, h2] at h1
                injection h1 with h1
                injection h1 with h3 h4
                exact ⟨h3.symm, h4.symm⟩))
              clear hxy he
              go_wp2
              go_ret
              exact ⟨ret_bool hf.out.symm, hL2⟩
      · have hkn : k = n := by omega
        subst hkn
        clear hlt
        have hf : Hid (decide (ts = us) = true) := decide_eq_true (hd.out.1 heq.out)
        clear heq
        go_wp2
        go_ret
        exact ⟨ret_bool hf.out.symm, hL⟩
  · have hd : Hid (decide (ts = us) = false) := decide_eq_false (fun e => hlen (by rw [e]))
    have hne : ((ts.length : Int) != (us.length : Int)) = true := by simp; omega
    clear hlen
    go_enter Tryz.func191, Tryz.ntmps191
    go_wp2
    go_ret
    exact ⟨ret_bool hd.out.symm, Below.refl _ _⟩

/-- Whether two versions say the same. -/
def likeB (v v' : V) : Bool := decide (v.k = v'.k) && eqB v.t v.u v'.t v'.u && decide (v.ts = v'.ts) && decide (v.s = v'.s) && decide (v.g = v'.g)
theorem likeB_iff (v v' : V) : likeB v v' = true ↔ V.like v v' := by
  unfold likeB V.like eqB
  simp only [Bool.and_eq_true, decide_eq_true_eq]
  constructor
  · rintro ⟨⟨⟨⟨h1, h2, h3⟩, h4⟩, h5⟩, h6⟩
    exact ⟨h1, h2, h3, h4, h5, h6⟩
  · rintro ⟨h1, h2, h3, h4, h5, h6⟩
    exact ⟨⟨⟨⟨h1, h2, h3⟩, h4⟩, h5⟩, h6⟩
set_option maxRecDepth 100000 in
set_option maxHeartbeats 2000000 in
theorem verSame_any (k t u : Int) (a : Option Addr) (c : Nat) (ts : List (Int × Int)) (s : ByteArray) (g : Bool) (k' t' u' : Int) (a' : Option Addr) (c' : Nat) (ts' : List (Int × Int)) (s' : ByteArray) (g' : Bool) (w : World) (hn : ts.length ≤ 1048576) (hn' : ts'.length ≤ 1048576) (ht : Tg w w.heap.size a ts) (ht' : Tg w w.heap.size a' ts') :
    Calls Tryz.prog 178 #[.agg (verC k t u a ts.length c s g), .agg (verC k' t' u' a' ts'.length c' s' g')] w fun e w' => e = .returned (.bool (likeB ⟨k, t, u, a, c, ts, s, g⟩ ⟨k', t', u', a', c', ts', s', g'⟩)) ∧ Below w.heap.size w w' := by
  have S0 := ((Inv.start w).box 68 (verC k t u a ts.length c s g)).box 68 (verC k' t' u' a' ts'.length c' s' g')
  simp only [World.size_alloc] at S0
  have q0 := (S0.nth 0 rfl).six.1
  have q1 := (S0.nth 1 rfl).six.1
  by_cases hk : k = k'
  · subst hk
    have hte := tagEq_at t u t' u'
    cases hq : eqB t u t' u'
    · have HF : Hid (likeB ⟨k, t, u, a, c, ts, s, g⟩ ⟨k, t', u', a', c', ts', s', g'⟩ = false) := by unfold Hid likeB; simp [hq]
      rw [hq] at hte
      clear hq
      go_enter Tryz.func178, Tryz.ntmps178
      go_wp2
      go_ret
      exact ⟨ret_bool HF.out.symm, S0.below⟩
    · rw [hq] at hte
      have HQ := hide hq
      have CT := hide (equalTags_any a a' c c' ts ts' ((w.alloc (.cells (verC k t u a ts.length c s g) 68)).alloc (.cells (verC k t' u' a' ts'.length c' s' g') 68)) hn hn' ((ht.on S0.below).up S0.base) ((ht'.on S0.below).up S0.base))
      have hse := str_same s s'
      clear hq ht ht'
      go_enter Tryz.func178, Tryz.ntmps178
      go_wp2_with fail
      with_reducible refine CT.out.mono ?_
      rintro e w1 ⟨rfl, hb1⟩
      have S1 := S0.on hb1
      have p0 := (S1.nth 0 rfl).six.1
      have p1 := (S1.nth 1 rfl).six.1
      clear S0 q0 q1 CT hte hb1
      by_cases h3 : ts = ts'
      · rw [decide_eq_true h3]
        have H3 := hide h3
        clear h3
        by_cases h4 : s = s'
        · rw [decide_eq_true h4] at hse
          have HF : Hid (likeB ⟨k, t, u, a, c, ts, s, g⟩ ⟨k, t', u', a', c', ts', s', g'⟩ = decide (g = g')) := by unfold Hid likeB; simp [HQ.out, H3.out, h4]
          clear h4
          have HG : Hid (decide (g = g') = (g == g')) := by unfold Hid; cases g <;> cases g' <;> rfl
          go_wp2
          go_ret
          exact ⟨ret_bool (by rw [HF.out, HG.out]), S1.below⟩
        · rw [decide_eq_false h4] at hse
          have HF : Hid (likeB ⟨k, t, u, a, c, ts, s, g⟩ ⟨k, t', u', a', c', ts', s', g'⟩ = false) := by unfold Hid likeB; simp [h4]
          clear h4
          go_wp2
          go_ret
          exact ⟨ret_bool HF.out.symm, S1.below⟩
      · rw [decide_eq_false h3]
        have HF : Hid (likeB ⟨k, t, u, a, c, ts, s, g⟩ ⟨k, t', u', a', c', ts', s', g'⟩ = false) := by unfold Hid likeB; simp [h3]
        clear h3
        go_wp2
        go_ret
        exact ⟨ret_bool HF.out.symm, S1.below⟩
  · have HF : Hid (likeB ⟨k, t, u, a, c, ts, s, g⟩ ⟨k', t', u', a', c', ts', s', g'⟩ = false) := by unfold Hid likeB; simp [hk]
    have hk' : (k == k') = false := by simpa using hk
    clear hk
    go_enter Tryz.func178, Tryz.ntmps178
    go_wp2
    go_ret
    exact ⟨ret_bool HF.out.symm, S0.below⟩

/-- Whether two slices of versions say the same. -/
def likesB : List V → List V → Bool
  | [], [] => true
  | v :: vs, u :: us => likeB v u && likesB vs us
  | _, _ => false
theorem likesB_iff (vs us : List V) : likesB vs us = true ↔ vs.length = us.length ∧ Like vs us := by
  induction vs generalizing us with
  | nil =>
    cases us with
    | nil => simp [likesB, Like]
    | cons u us => simp [likesB]
  | cons v vs ih =>
    cases us with
    | nil => simp [likesB]
    | cons u us =>
      rw [likesB, Bool.and_eq_true, likeB_iff, ih]
      constructor
      · rintro ⟨h1, h2, h3⟩
        refine ⟨by simp [h2], fun i x y hx hy => ?_⟩
        cases i with
        | zero =>
          simp only [List.getElem?_cons_zero, Option.some.injEq] at hx hy
          rw [← hx, ← hy]
          exact h1
        | succ i => exact h3 i x y hx hy
      · rintro ⟨h2, h3⟩
        exact ⟨h3 0 v u rfl rfl, by simpa using h2, fun i x y hx hy => h3 (i + 1) x y hx hy⟩
theorem likesB_no {vs us : List V} {i : Nat} {v u : V} (h1 : vs[i]? = some v) (h2 : us[i]? = some u) (h : likeB v u = false) : likesB vs us = false := by
  cases hq : likesB vs us with
  | false => rfl
  | true =>
    have := (likesB_iff vs us).1 hq
    rw [(likeB_iff v u).2 (this.2 i v u h1 h2)] at h
    cases h
set_option maxRecDepth 100000 in
set_option maxHeartbeats 2000000 in
theorem equalFunc_any (a a' : Option Addr) (c c' : Nat) (vs us : List V) (w : World) (hn : vs.length ≤ 1048576) (hm : Small vs) (hm' : Small us) (hv : Vg w w.heap.size a vs) (hu : Vg w w.heap.size a' us) :
    Calls Tryz.prog 177 #[.slice a vs.length c, .slice a' us.length c', .func (.func 178) #[] #[]] w fun e w' => e = .returned (.bool (likesB vs us)) ∧ Below w.heap.size w w' := by
  have HM := hide hm
  have HM' := hide hm'
  clear hm hm'
  by_cases hlen : vs.length = us.length
  · generalize hnn : vs.length = n at *
    rw [← hlen]
    have HN := hide hnn
    have HL := hide hlen
    clear hnn hlen
    go_enter Tryz.func177, Tryz.ntmps177
    go_wp2
    go_loopw [17] (fun i wr => ∃ k : Nat, k ≤ n ∧ i = .int .i64 (k : Int) ∧ Hid (∀ (j : Nat) x y, j < k → vs[j]? = some x → us[j]? = some y → V.like x y) ∧ Below w.heap.size w wr) (fun i _ => n - (intOf i).toNat)
    case atStart => exact ⟨0, Nat.zero_le _, rfl, fun j x y hj => absurd hj (by omega), Below.refl _ _⟩
    case round =>
      obtain ⟨k, hk, rfl, heq, hL⟩ := hrel
      by_cases hlt : k < n
      · rcases hv with h0 | ⟨b, off, rfl, hb, hx⟩
        · have := HN.out; subst h0; simp at this; omega
        · rcases hu with h0 | ⟨b', off', rfl, hb', hx'⟩
          · have := HL.out; subst h0; simp at this; omega
          · have hkl : k < vs.length := by have := HN.out; omega
            have hkl' : k < us.length := by have := HL.out; omega
            obtain ⟨hS, hT⟩ := hx k _ (List.getElem?_eq_getElem hkl)
            obtain ⟨hS2, hT2⟩ := hx' k _ (List.getElem?_eq_getElem hkl')
            have HX := hide (List.getElem?_eq_getElem hkl)
            have HY := hide (List.getElem?_eq_getElem hkl')
            generalize vs[k] = v at hS hT HX
            generalize us[k] = v' at hS2 hT2 HY
            have HB := hide (HM.out v (List.mem_of_getElem? HX.out)).1
            have HB' := hide (HM'.out v' (List.mem_of_getElem? HY.out)).1
            obtain ⟨vk, vt, vu, va, vc, vts, vs', vg⟩ := v
            obtain ⟨uk, ut, uu, ua, uc, uts, us', ug⟩ := v'
            have Q1 := (hS.keep hb fun _ hp => hL.cell hp)
            have hLa := hL.trans ((below_alloc1 wr (.cells (verC vk vt vu va vts.length vc vs' vg) 68)).mono hL.size)
            have Q2 := (hS2.keep hb' fun _ hp => hLa.cell hp)
            simp only at Q1 Q2 hT hT2
            have T1 := hide hT
            have T2 := hide hT2
            clear hS hS2 hT hT2 hx hx'
            have i1 : (0 : Int) ≤ (k : Int) := by omega
            have i2 : (k : Int) < (n : Int) := by omega
            have S0 := (((Inv.start w).on hL).top.box 68 (verC vk vt vu va vts.length vc vs' vg)).box 68 (verC uk ut uu ua uts.length uc us' ug)
            simp only [World.size_alloc] at S0
            go_wp2_with fail
            generalize (wr.alloc (.cells (verC vk vt vu va vts.length vc vs' vg) 68)).alloc (.cells (verC uk ut uu ua uts.length uc us' ug) 68) = W at S0 ⊢
            refine (verSame_any vk vt vu va vc vts vs' vg uk ut uu ua uc uts us' ug W HB.out HB'.out ((T1.out.on S0.below).up S0.base) ((T2.out.on S0.below).up S0.base)).mono ?_
            rintro e w1 ⟨rfl, hb1⟩
            have S1 := S0.on hb1
            clear S0 Q1 Q2 hLa hL
            cases hq : likeB ⟨vk, vt, vu, va, vc, vts, vs', vg⟩ ⟨uk, ut, uu, ua, uc, uts, us', ug⟩
            · have HF := hide (likesB_no HX.out HY.out hq)
              clear hq
              go_wp2
              go_ret
              exact ⟨ret_bool HF.out.symm, S1.below⟩
            · have HS : Hid (∀ (j : Nat) x y, j < k + 1 → vs[j]? = some x → us[j]? = some y → V.like x y) := fun j x y hj hx hy => by
                by_cases e : j = k
                · subst e
                  have h1 := HX.out
                  have h2 := HY.out
                  rw [h1] at hx
                  rw [h2] at hy
                  injection hx with hx
                  injection hy with hy
                  rw [← hx, ← hy]
                  exact (likeB_iff _ _).1 hq
                · exact heq.out j x y (by omega) hx hy
              clear hq heq
              go_wp2
              exact ⟨⟨k + 1, by omega, by go_num, HS, S1.below⟩, by simp [intOf]; omega⟩
      · have hkn : k = n := by omega
        subst hkn
        clear hlt
        have hf : Hid (likesB vs us = true) := (likesB_iff vs us).2 ⟨by have := HN.out; have := HL.out; omega, fun i x y hx hy => heq.out i x y (by have := (List.getElem?_eq_some_iff.1 hx).1; have := HN.out; omega) hx hy⟩
        clear heq
        go_wp2
        go_ret
        exact ⟨ret_bool hf.out.symm, hL⟩
  · have hd : Hid (likesB vs us = false) := by
      cases hq : likesB vs us with
      | false => rfl
      | true => exact absurd ((likesB_iff vs us).1 hq).1 hlen
    have hne : ((vs.length : Int) != (us.length : Int)) = true := by simp; omega
    clear hlen
    go_enter Tryz.func177, Tryz.ntmps177
    go_wp2
    go_ret
    exact ⟨ret_bool hd.out.symm, Below.refl _ _⟩
end Go.Proofs.YtbbaogpgapemhaaGreat
/- Contract of the laws' function that writes a number as a text. Condition: the number is at least 1 and at most 8388000. -/
namespace Go.Proofs.YtbbaogpgapemhaaGreat
open Go.RowKit Go.Joins

/-- The digits of m, ahead of s. -/
def mtx : Nat → Int → ByteArray → ByteArray
  | 0, _, s => s
  | f + 1, m, s => if m ≤ 0 then s else mtx f (m / 10) (⟨#[UInt8.ofNat (48 + m % 10).toNat]⟩ ++ s)
/-- The text that tells the number k. -/
def markT (k : Int) : ByteArray := ⟨#[109]⟩ ++ mtx k.toNat k ⟨#[]⟩
end Go.Proofs.YtbbaogpgapemhaaGreat
/- Contracts of the laws' functions that write marks into a vector's own memory and look whether they stand. Condition: at most 1048576 tags, marks within bounds. -/
namespace Go.Proofs.YtbbaogpgapemhaaGreat
open Go.RowKit Go.Joins

/-- The marks that n tags bear, from number k on. -/
def marksL (k : Int) (n : Nat) : List (Int × Int) := (List.range n).map fun (i : Nat) => (k + 2 * (i : Int), k + 2 * (i : Int) + 1)
/-- One known block has turned; the others are as they were. -/
theorem Inv.turn {w w1 w2 : World} {n g : Nat} {bs bs' : List (Nat × TypeId × Array Value)} (h : Inv w n bs w1) (hg : w1.grownBy w2 (some g)) (hw : w.heap.size ≤ g)
    (hs : ∀ x ∈ bs', (x ∈ bs ∧ x.1 ≠ g) ∨ (x.1 = g ∧ g < n ∧ Blk w2 g x.2.1 x.2.2)) : Inv w n bs' w2 := by
  refine ⟨h.below.grown hg h.below.size (fun k hk => by injection hk; omega), Nat.le_trans h.room hg.size, fun x hx => ?_⟩
  rcases hs x hx with ⟨hm, hne⟩ | ⟨rfl, hlt, hb⟩
  · exact ⟨(h.blk x hm).1, (h.blk x hm).2.1, (h.blk x hm).2.2.kept hg (by intro e; injection e; omega)⟩
  · exact ⟨hw, hlt, hb⟩

/-- What marking leaves: the marks in the row's own block; no other block has turned. -/
def MarkedS (w : World) (g : Nat) (T : TypeId) (size n : Nat) (k : Int) (e : Ending) (w' : World) : Prop :=
  e = .returned (.int .i64 (k + 2 * (n : Int))) ∧ (∃ cur', Blk w' g T cur' ∧ cur'.size = size ∧ ∀ i x, (marksL k n)[i]? = some x → TagAt cur' i x) ∧ w.grownBy w' (some g)

end Go.Proofs.YtbbaogpgapemhaaGreat
/- What it is that every block of tags stays as it is. Of whatever program that has tags. -/
namespace Go.Proofs.YtbbaogpgapemhaaGreat
open Go.RowKit Go.Joins

/-- Every block of tags stays as it is. -/
def Tk (w w' : World) : Prop := ∀ g cur, Blk w g 46 cur → Blk w' g 46 cur
theorem Tk.below {w w' : World} (h : Below w.heap.size w w') : Tk w w' := fun _ _ hb => hb.on h
theorem Tk.drew (w : World) : Tk w w.drew := fun _ _ hb => hb
theorem Tk.alloc (w : World) (o : Obj) : Tk w (w.alloc o) := fun _ _ hb => hb.more o
theorem Tk.trans {a b c : World} (h : Tk a b) (k : Tk b c) : Tk a c := fun g cur hb => k g cur (h g cur hb)
theorem blk_type {w : World} {g : Nat} {T T' : TypeId} {cs cs' : Array Value} (h : Blk w g T cs) (h' : Blk w g T' cs') : T = T' ∧ cs = cs' := by
  unfold Blk at h h'
  rw [h] at h'
  injection h' with h'
  injection h' with h1 h2 h3
  exact ⟨h2, h1⟩
theorem Tk.set {w : World} {p : Addr} {T : TypeId} {cs : Array Value} (hb : Blk w p.block T cs) (hT : T ≠ 46) (u : Value) : Tk w (w.setCell p u) := fun _ _ h => h.aside (fun e => by
  subst e
  exact hT (blk_type hb h).1) u
theorem Tk.grown {w w' : World} {row : Option Nat} (hg : w.grownBy w' row) (hr : ∀ r, row = some r → ∃ T cs, Blk w r T cs ∧ T ≠ 46) : Tk w w' := fun g _ h => h.kept hg (fun e => by
  obtain ⟨T, cs, hb, hT⟩ := hr g e
  exact hT (blk_type hb h).1)
end Go.Proofs.YtbbaogpgapemhaaGreat
/- Rows of versions in memory of their own: how they are kept, marked, and how the marks are found again. Condition: as many versions and tags as a law lets by. -/
namespace Go.Proofs.YtbbaogpgapemhaaGreat
open Go.RowKit Go.Joins

/-- Nothing has turned but in blocks of P. -/
structure Turn (P : Nat → Prop) (w w' : World) : Prop where
  os : w'.os = w.os
  tape : w'.tape = w.tape
  output : w'.output = w.output
  size : w.heap.size ≤ w'.heap.size
  block : ∀ k, k < w.heap.size → ¬ P k → w'.heap[k]? = w.heap[k]?
theorem Turn.refl (P : Nat → Prop) (w : World) : Turn P w w := ⟨rfl, rfl, rfl, Nat.le_refl _, fun _ _ _ => rfl⟩
theorem Turn.of {P : Nat → Prop} {w w' : World} {row : Option Nat} (h : w.grownBy w' row) (hr : ∀ g, row = some g → P g) : Turn P w w' := ⟨h.os, h.tape, h.output, h.size, fun k hk hn => h.block k hk (fun e => hn (hr k e.symm))⟩
theorem Turn.below {P : Nat → Prop} {w w' : World} (h : Below w.heap.size w w') : Turn P w w' := ⟨h.os, h.tape, h.output, h.size, fun k hk _ => h.block k hk⟩
theorem Turn.trans {P : Nat → Prop} {a b c : World} (h : Turn P a b) (k : Turn P b c) : Turn P a c :=
  ⟨k.os.trans h.os, k.tape.trans h.tape, k.output.trans h.output, Nat.le_trans h.size k.size, fun i hi hn => (k.block i (Nat.lt_of_lt_of_le hi h.size) hn).trans (h.block i hi hn)⟩
theorem Turn.set {P : Nat → Prop} {w w' : World} (h : Turn P w w') {p : Addr} (hp : P p.block) (u : Value) : Turn P w (w'.setCell p u) :=
  ⟨h.os, h.tape, h.output, by simpa [World.setCell] using h.size, fun k hk hn => (Below.heap_setCell w' p u k (fun e => hn (e ▸ hp))).trans (h.block k hk hn)⟩
theorem Blk.turned {P : Nat → Prop} {w w' : World} {g : Nat} {t : TypeId} {cs : Array Value} (h : Blk w g t cs) (ht : Turn P w w') (hg : ¬ P g) : Blk w' g t cs := (ht.block g h.inside hg).trans h
theorem below_turned {P : Nat → Prop} {n : Nat} {w w1 w2 : World} (h : Below n w w1) (ht : Turn P w1 w2) (hn : n ≤ w1.heap.size) (hp : ∀ g, P g → n ≤ g) : Below n w w2 :=
  ⟨ht.os.trans h.os, ht.tape.trans h.tape, ht.output.trans h.output, Nat.le_trans h.size ht.size, fun k hk => (ht.block k (by omega) (fun hP => by have := hp k hP; omega)).trans (h.block k hk)⟩
theorem Inv.turned {P : Nat → Prop} {w w1 w2 : World} {n : Nat} {bs : List (Nat × TypeId × Array Value)} (h : Inv w n bs w1) (ht : Turn P w1 w2) (hw : ∀ g, P g → w.heap.size ≤ g) (hs : ∀ x ∈ bs, ¬ P x.1) : Inv w n bs w2 :=
  ⟨below_turned h.below ht h.below.size hw, Nat.le_trans h.room ht.size, fun x hx => ⟨(h.blk x hx).1, (h.blk x hx).2.1, (h.blk x hx).2.2.turned ht (hs x hx)⟩⟩

/-- A version's causes: none, or in a block of their own from B on and below U. -/
def Own1 (w : World) (B U : Nat) (v : V) : Prop :=
  v.ts = [] ∨ ∃ (g : Nat) (cur : Array Value), v.a = some ⟨g, 0, none⟩ ∧ B ≤ g ∧ g < U ∧ Blk w g 46 cur ∧ v.ts.length * 2 ≤ cur.size ∧ ∀ i x, v.ts[i]? = some x → TagAt cur i x
theorem Own1.turned {P : Nat → Prop} {w w' : World} {B U : Nat} {v : V} (h : Own1 w B U v) (ht : Turn P w w') (hp : ∀ g, v.a = some ⟨g, 0, none⟩ → B ≤ g → g < U → v.ts ≠ [] → ¬ P g) : Own1 w' B U v := by
  by_cases h0 : v.ts = []
  · exact .inl h0
  · rcases h with h | ⟨g, cur, h1, h2, h3, h4, h5, h6⟩
    · exact .inl h
    · exact .inr ⟨g, cur, h1, h2, h3, h4.turned ht (hp g h1 h2 h3 h0), h5, h6⟩
theorem Own1.on {w w' : World} {B U : Nat} {v : V} (h : Own1 w B U v) (hb : Below w.heap.size w w') : Own1 w' B U v := h.turned (P := fun _ => False) (.below hb) (fun _ _ _ _ _ h => h)
theorem Own1.wide {w : World} {B U U' : Nat} {v : V} (h : Own1 w B U v) (hu : U ≤ U') : Own1 w B U' v := by
  rcases h with h | ⟨g, cur, h1, h2, h3, h4, h5, h6⟩
  · exact .inl h
  · exact .inr ⟨g, cur, h1, h2, by omega, h4, h5, h6⟩
theorem Own1.tg {w : World} {B U : Nat} {v : V} (h : Own1 w B U v) : Tg w w.heap.size v.a v.ts := by
  rcases h with h | ⟨g, cur, h1, h2, h3, h4, h5, h6⟩
  · exact .inl h
  · rw [h1]; exact Tg.of h4 h4.inside h6

/-- A row of versions in a block of its own, the causes of each in another. -/
structure ORow (w : World) (B U G : Nat) (vs : List V) (cur : Array Value) : Prop where
  blk : Blk w G 68 cur
  lo : B ≤ G
  hi : G < U
  size : vs.length * 6 ≤ cur.size
  at' : ∀ (i : Nat) v, vs[i]? = some v → VerAt cur i v
  own : ∀ (i : Nat) v, vs[i]? = some v → Own1 w B U v
  apart : ∀ (i j : Nat) v v', i ≠ j → vs[i]? = some v → vs[j]? = some v' → v.ts ≠ [] → v'.ts ≠ [] → v.a ≠ v'.a
theorem ver_ne_tag : (68 : TypeId) ≠ 46 := by decide
theorem blk_one {w : World} {g : Nat} {T T' : TypeId} {cs cs' : Array Value} (h : Blk w g T cs) (h' : Blk w g T' cs') : T = T' := (blk_type h h').1
theorem Own1.tk {w w' : World} {B U : Nat} {v : V} (h : Own1 w B U v) (hk : Tk w w') : Own1 w' B U v := by
  rcases h with h | ⟨g, cur, h1, h2, h3, h4, h5, h6⟩
  · exact .inl h
  · exact .inr ⟨g, cur, h1, h2, h3, hk _ _ h4, h5, h6⟩
section
variable {w w' : World} {B U G : Nat} {vs : List V} {cur : Array Value} {P : Nat → Prop}
theorem ORow.turned (h : ORow w B U G vs cur) (ht : Turn P w w') (hp : ∀ g, B ≤ g → g < U → ¬ P g) : ORow w' B U G vs cur :=
  ⟨h.blk.turned ht (hp G h.lo h.hi), h.lo, h.hi, h.size, h.at', fun i v hi => (h.own i v hi).turned ht (fun g _ h1 h2 _ => hp g h1 h2), h.apart⟩
theorem ORow.on (h : ORow w B U G vs cur) (hb : Below w.heap.size w w') : ORow w' B U G vs cur := h.turned (P := fun _ => False) (.below hb) (fun _ _ _ h => h)
theorem ORow.wide (h : ORow w B U G vs cur) {U' : Nat} (hu : U ≤ U') : ORow w B U' G vs cur := ⟨h.blk, h.lo, Nat.lt_of_lt_of_le h.hi hu, h.size, h.at', fun i v hi => (h.own i v hi).wide hu, h.apart⟩
theorem ORow.vg (h : ORow w B U G vs cur) : Vg w w.heap.size (some ⟨G, 0, none⟩) vs :=
  .inr ⟨G, 0, rfl, h.blk.inside, fun i v hi => by
    obtain ⟨h0, h1, h2, h3, h4, h5⟩ := h.at' i v hi
    refine ⟨⟨?_, ?_, ?_, ?_, ?_, ?_⟩, (h.own i v hi).tg⟩
    all_goals
      rw [Nat.zero_add, h.blk.at]
      assumption⟩
end

/-- How many marks a version bears. -/
def wt (v : V) : Int := 5 + 2 * (v.ts.length : Int)
def wts (vs : List V) : Int := (vs.map wt).sum
theorem wts_pos (vs : List V) : 0 ≤ wts vs := by
  induction vs with
  | nil => simp [wts]
  | cons v r ih => unfold wts at *; simp [wt]; omega
/-- A version that bears marks from number k on. -/
def mkV (k : Int) (v : V) : V := ⟨k, k + 1, k + 1 + 1, v.a, v.c, marksL (k + 1 + 1 + 1) v.ts.length, markT (k + 1 + 1 + 1 + 2 * (v.ts.length : Int)), (k + 1 + 1 + 1 + 2 * (v.ts.length : Int) + 1) % 3 == 0⟩
def mkVs : Int → List V → List V
  | _, [] => []
  | k, v :: r => mkV k v :: mkVs (k + wt v) r
/-- What marking the causes of one version leaves. -/
def MarkedO (w : World) (B U : Nat) (v : V) (k : Int) (e : Ending) (w' : World) : Prop :=
  e = .returned (.int .i64 (k + 2 * (v.ts.length : Int))) ∧ (∀ v' : V, v'.a = v.a → v'.ts = marksL k v.ts.length → Own1 w' B U v') ∧ Turn (fun g => v.ts ≠ [] ∧ v.a = some ⟨g, 0, none⟩) w w'
theorem ORow.apartG {w : World} {B U G j g : Nat} {l : List V} {cur : Array Value} {v : V} (h : ORow w B U G l cur) (hj : l[j]? = some v) (hne : v.ts ≠ []) (hg : v.a = some ⟨g, 0, none⟩) : g ≠ G := by
  intro e
  subst e
  rcases h.own j v hj with h0 | ⟨g', c', e1, _, _, e2, _⟩
  · exact hne h0
  · rw [e1] at hg
    injection hg with hg
    injection hg with hg
    subst hg
    exact ver_ne_tag (blk_one h.blk e2)

/-- What markVerS leaves: a row that bears the marks; nothing else has turned. -/
def MarkedVR (w : World) (B U G : Nat) (vs : List V) (k : Int) (e : Ending) (w' : World) : Prop :=
  e = .returned (.int .i64 (k + wts vs)) ∧ (∃ cur, ORow w' B U G (mkVs k vs) cur) ∧ Turn (fun g => B ≤ g ∧ g < U) w w'

/-- The blocks of a row: its own, and those of its causes. -/
def Foot (G : Nat) (vs : List V) (g : Nat) : Prop := g = G ∨ ∃ (i : Nat) (v : V), vs[i]? = some v ∧ v.ts ≠ [] ∧ v.a = some ⟨g, 0, none⟩
theorem ORow.foot {w : World} {B U G : Nat} {vs : List V} {cur : Array Value} (h : ORow w B U G vs cur) {g : Nat} (hg : Foot G vs g) : B ≤ g ∧ g < U := by
  rcases hg with rfl | ⟨i, v, hi, hn, ha⟩
  · exact ⟨h.lo, h.hi⟩
  · rcases h.own i v hi with h0 | ⟨g', c', e1, q1, q2, _⟩
    · exact absurd h0 hn
    · rw [e1] at ha
      injection ha with ha
      injection ha with ha
      subst ha
      exact ⟨q1, q2⟩
/-- The same, of the row's own blocks alone. -/
def MarkedVF (w : World) (B U G : Nat) (vs : List V) (k : Int) (e : Ending) (w' : World) : Prop :=
  e = .returned (.int .i64 (k + wts vs)) ∧ (∃ cur, ORow w' B U G (mkVs k vs) cur) ∧ Turn (Foot G vs) w w'

end Go.Proofs.YtbbaogpgapemhaaGreat
/- Copies of stores in memory of their own; how stores are marked and the marks found again. Condition: as many versions and tags as a law lets by. -/
namespace Go.Proofs.YtbbaogpgapemhaaGreat
open Go.RowKit Go.Joins

theorem Own1.low {w : World} {B B' U : Nat} {v : V} (h : Own1 w B U v) (hb : B' ≤ B) : Own1 w B' U v := by
  rcases h with h | ⟨g, cur, h1, h2, h3, h4, h5, h6⟩
  · exact .inl h
  · exact .inr ⟨g, cur, h1, by omega, h3, h4, h5, h6⟩
theorem ORow.low {w : World} {B B' U G : Nat} {vs : List V} {cur : Array Value} (h : ORow w B U G vs cur) (hb : B' ≤ B) : ORow w B' U G vs cur :=
  ⟨h.blk, Nat.le_trans hb h.lo, h.hi, h.size, h.at', fun i v hi => (h.own i v hi).low hb, h.apart⟩
/-- One version more in a row. -/
theorem ORow.snoc {w w' : World} {B U G k : Nat} {us : List V} {cur cur' : Array Value} {v : V} (h : ORow w B U G us cur) (hk : us.length = k) (hb : Blk w' G 68 cur') (hs : (k + 1) * 6 ≤ cur'.size)
    (hv : VerAt cur' k v) (ho : ∀ i x, i < k → VerAt cur i x → VerAt cur' i x) (hown : Own1 w' B U v) (hap : ∀ (i : Nat) x, us[i]? = some x → x.ts ≠ [] → x.a ≠ v.a)
    {P : Nat → Prop} (ht : Turn P w w') (hP : ∀ g, P g → g = G) : ORow w' B U G (us ++ [v]) cur' := by
  have hget : ∀ (i : Nat) x, (us ++ [v])[i]? = some x → (i = k ∧ x = v) ∨ (i < k ∧ us[i]? = some x) := by
    intro i x hx
    by_cases e : i < us.length
    · rw [List.getElem?_append_left e] at hx
      exact .inr ⟨by omega, hx⟩
    · rw [List.getElem?_append_right (by omega)] at hx
      have h0 : i - us.length = 0 := by
        have := (List.getElem?_eq_some_iff.1 hx).1
        simp at this
        omega
      rw [h0] at hx
      simp at hx
      exact .inl ⟨by omega, hx.symm⟩
  refine ⟨hb, h.lo, h.hi, by simp only [List.length_append, List.length_singleton]; omega, fun i x hx => ?_, fun i x hx => ?_, fun i j x y hne hx hy hn hn' => ?_⟩
  · rcases hget i x hx with ⟨rfl, rfl⟩ | ⟨e, hx⟩
    · exact hv
    · exact ho i x e (h.at' i x hx)
  · rcases hget i x hx with ⟨rfl, rfl⟩ | ⟨e, hx⟩
    · exact hown
    · exact (h.own i x hx).turned ht (fun g hg _ _ hne hp => h.apartG hx hne hg (hP g hp))
  · rcases hget i x hx with ⟨e1, e2⟩ | ⟨e, hq⟩ <;> rcases hget j y hy with ⟨e3, e4⟩ | ⟨e', hq'⟩
    · omega
    · rw [e2]; exact fun e => hap j y hq' hn' e.symm
    · rw [e4]; exact hap i x hq hn
    · exact h.apart i j x y hne hq hq' hn hn'
theorem orow_step {w : World} {B U G k : Nat} {us : List V} {cur : Array Value} {v : V} (h : ORow w B U G us cur) (hk : us.length = k) (ho : Own1 w B U v) (hap : ∀ (i : Nat) x, us[i]? = some x → x.ts ≠ [] → x.a ≠ v.a) (hs : k * 6 + 5 < cur.size) (hG : v.ts ≠ [] → v.a ≠ some ⟨G, 0, none⟩) :
    ORow ((((((w.setCell ⟨G, k * 6, none⟩ (.int .i64 v.k)).setCell ⟨G, k * 6 + 1, none⟩ (.int .i64 v.t)).setCell ⟨G, k * 6 + 2, none⟩ (.int .i64 v.u)).setCell ⟨G, k * 6 + 3, none⟩ (.slice v.a v.ts.length v.c)).setCell ⟨G, k * 6 + 4, none⟩ (.string v.s)).setCell ⟨G, k * 6 + 5, none⟩ (.bool v.g)) B U G (us ++ [v]) (put6 cur k v) := by
  have ht : Turn (fun g => g = G) w ((((((w.setCell ⟨G, k * 6, none⟩ (.int .i64 v.k)).setCell ⟨G, k * 6 + 1, none⟩ (.int .i64 v.t)).setCell ⟨G, k * 6 + 2, none⟩ (.int .i64 v.u)).setCell ⟨G, k * 6 + 3, none⟩ (.slice v.a v.ts.length v.c)).setCell ⟨G, k * 6 + 4, none⟩ (.string v.s)).setCell ⟨G, k * 6 + 5, none⟩ (.bool v.g)) :=
    ((((((Turn.refl (fun g => g = G) w).set (p := ⟨G, k * 6, none⟩) rfl _).set (p := ⟨G, k * 6 + 1, none⟩) rfl _).set (p := ⟨G, k * 6 + 2, none⟩) rfl _).set (p := ⟨G, k * 6 + 3, none⟩) rfl _).set (p := ⟨G, k * 6 + 4, none⟩) rfl _).set (p := ⟨G, k * 6 + 5, none⟩) rfl _
  refine h.snoc hk ((((((h.blk.put _ _).put _ _).put _ _).put _ _).put _ _).put _ _) (by simp; omega) (verAt_put hs) (fun i x hi hx => verAt_other (by omega) hx) (ho.turned ht (fun g hg _ _ hne e => hG hne (by rw [hg, e]))) hap ht (fun g e => e)

/-- What toVerS leaves: a copy in memory of its own. -/
def CopiedVO (w : World) (vs : List V) (e : Ending) (w' : World) : Prop :=
  ∃ (g : Nat) (us : List V) (cur : Array Value), e = .returned (.slice (some ⟨g, 0, none⟩) vs.length vs.length) ∧ us.length = vs.length ∧ Like us vs ∧ ORow w' w.heap.size w'.heap.size g us cur ∧ Below w.heap.size w w'
set_option maxRecDepth 100000 in
set_option maxHeartbeats 2000000 in
theorem toVerS_own (a : Option Addr) (c : Nat) (vs : List V) (w : World) (hn : vs.length ≤ 1048576) (hm : ∀ v ∈ vs, v.ts.length ≤ 1048576) (hv : Vg w w.heap.size a vs) :
    Calls Tryz.prog 43 #[.slice a vs.length c] w (CopiedVO w vs) := by
  obtain ⟨i0, hi0, hz0, hz1, hz2⟩ := info_parts ver_info
  have hmk : ∀ W : World, (Instr.makeSlice 34 (.int .i64 (vs.length : Int)) (.int .i64 (vs.length : Int))).run Tryz.prog W = .ok (.slice (some ⟨W.heap.size, 0, none⟩) vs.length vs.length) (W.alloc (.cells (madeCells (Value.agg (verC 0 0 0 none 0 0 ⟨#[]⟩ false)).cells (vs.length * 6)) 68)) := by
    intro W
    have hr := run_make (P := Tryz.prog) W 34 68 i0 _ Tryz.underlying34 hi0 hz0 .i64 .i64 (vs.length : Int) (vs.length : Int) (by omega) (by omega) (by rw [hz2]; omega) (by omega)
    rw [hz1] at hr
    simpa using hr
  have HM := hide hm
  clear hm
  generalize hn' : vs.length = n at *
  have HN := hide hn'
  clear hn'
  go_enter Tryz.func43, Tryz.ntmps43
  go_wp2
  clear hmk hi0 hz0 hz1 hz2
  have B0 := Blk.made w 68 (madeCells (verC 0 0 0 none 0 0 ⟨#[]⟩ false) (n * 6))
  have L0 := below_alloc1 w (.cells (madeCells (verC 0 0 0 none 0 0 ⟨#[]⟩ false) (n * 6)) 68)
  go_loopw [4] (fun i wr => ∃ (k : Nat) (cur : Array Value) (us : List V), k ≤ n ∧ i = .int .i64 (k : Int) ∧ Hid (us.length = k) ∧ ORow wr w.heap.size wr.heap.size w.heap.size us cur ∧ cur.size = n * 6 ∧ Hid (Like us vs) ∧ Below w.heap.size w wr) (fun i _ => n - (intOf i).toNat)
  case atStart => exact ⟨0, _, [], Nat.zero_le _, rfl, rfl, ⟨B0, Nat.le_refl _, by simp, by simp, fun i v hi => by simp at hi, fun i v hi => by simp at hi, fun i j v v' _ hi => by simp at hi⟩, size_madeCells _ _, fun i v v' hi => by simp at hi, L0⟩
  case round =>
    obtain ⟨k, cur, us, hk, rfl, hus, hR, hsz, hli, hL⟩ := hrel
    by_cases hlt : k < n
    · rcases hv with h0 | ⟨b, off, rfl, hb, hx⟩
      · have := HN.out; subst h0; simp at this; omega
      · have hkl : k < vs.length := by have := HN.out; omega
        obtain ⟨hS, hT⟩ := hx k _ (List.getElem?_eq_getElem hkl)
        have HX := hide (List.getElem?_eq_getElem hkl)
        generalize vs[k] = v at hS hT HX
        have HB := hide (HM.out v (List.mem_of_getElem? HX.out))
        obtain ⟨vk, vt, vu, va, vc, vts, vs', vg⟩ := v
        simp only at hS hT
        have hS' := hS.keep hb fun _ hp => hL.cell hp
        have HT := hide ((hT.on hL).up hL.size)
        clear hS hT hx
        go_wp2_with fail
        refine (toVer_any vk vt vu va vc vts vs' vg wr HB.out HT.out).mono ?_
        rintro e w1 ⟨g1, cur1, rfl, hg1, hB1, hsz1, hcur1, hb1⟩
        have hG : w.heap.size < wr.heap.size := hR.blk.inside
        have zw1 := hb1.size
        have in1 := hB1.inside
        have O1 : Own1 w1 w.heap.size w1.heap.size ⟨vk, vt, vu, some ⟨g1, 0, none⟩, vts.length, vts, vs', vg⟩ := .inr ⟨g1, cur1, rfl, by omega, in1, hB1, by simp only; omega, hcur1⟩
        have HR := hide (orow_step ((hR.on hb1).wide zw1) hus.out O1 (fun i x hx hne => by
          rcases hR.own i x hx with h0 | ⟨g', c', e1, q1, q2, _⟩
          · exact absurd h0 hne
          · rw [e1]; intro e; injection e with e; injection e with e; omega) (show k * 6 + 5 < cur.size by omega) (fun _ e => by injection e with e; injection e with e; omega))
        have HL := hide (like_step hli.out hus.out HX.out (v := ⟨vk, vt, vu, some ⟨g1, 0, none⟩, vts.length, vts, vs', vg⟩) ⟨rfl, rfl, rfl, rfl, rfl, rfl⟩)
        have B1 := hR.blk.on hb1
        have hs0 : k * 6 < cur.size := by omega
        have hs1 : k * 6 + 1 < cur.size := by omega
        have hs2 : k * 6 + 2 < cur.size := by omega
        have hs3 : k * 6 + 3 < cur.size := by omega
        have hs4 : k * 6 + 4 < cur.size := by omega
        have hs5 : k * 6 + 5 < cur.size := by omega
        have d0 : w1.cell? ⟨w.heap.size, k * 6, none⟩ = some cur[k * 6] := by rw [B1.at]; exact Array.getElem?_eq_getElem hs0
        have d1 : w1.cell? ⟨w.heap.size, k * 6 + 1, none⟩ = some cur[k * 6 + 1] := by rw [B1.at]; exact Array.getElem?_eq_getElem hs1
        have d2 : w1.cell? ⟨w.heap.size, k * 6 + 2, none⟩ = some cur[k * 6 + 2] := by rw [B1.at]; exact Array.getElem?_eq_getElem hs2
        have d3 : w1.cell? ⟨w.heap.size, k * 6 + 3, none⟩ = some cur[k * 6 + 3] := by rw [B1.at]; exact Array.getElem?_eq_getElem hs3
        have d4 : w1.cell? ⟨w.heap.size, k * 6 + 4, none⟩ = some cur[k * 6 + 4] := by rw [B1.at]; exact Array.getElem?_eq_getElem hs4
        have d5 : w1.cell? ⟨w.heap.size, k * 6 + 5, none⟩ = some cur[k * 6 + 5] := by rw [B1.at]; exact Array.getElem?_eq_getElem hs5
        have f0 := B1.loose (k * 6)
        have f1 := B1.loose (k * 6 + 1)
        have f2 := B1.loose (k * 6 + 2)
        have f3 := B1.loose (k * 6 + 3)
        have f4 := B1.loose (k * 6 + 4)
        have f5 := B1.loose (k * 6 + 5)
        have hL1 := hL.trans (hb1.mono hL.size)
        have HU : Hid ((us ++ [(⟨vk, vt, vu, some ⟨g1, 0, none⟩, vts.length, vts, vs', vg⟩ : V)]).length = k + 1) := by
          unfold Hid
          rw [List.length_append, hus.out]
          rfl
        clear hS' hR hli hus hcur1 O1 hL B1 hB1
        go_wp2
        exact ⟨⟨k + 1, _, _, by omega, by go_num, HU, by simpa [World.setCell] using HR.out, by simp [hsz], HL, (((((hL1.setCell (Nat.le_refl _) _).setCell (Nat.le_refl _) _).setCell (Nat.le_refl _) _).setCell (Nat.le_refl _) _).setCell (Nat.le_refl _) _).setCell (Nat.le_refl _) _⟩, by simp [intOf]; omega⟩
    · have hkn : k = n := by omega
      subst hkn
      clear hlt
      go_wp2
      go_ret
      have e := HN.out
      exact ⟨_, us, cur, by rw [e]; rfl, hus.out.trans e.symm, hli.out, hR, hL⟩

/-- What toStore leaves: a copy in memory of its own. -/
def CopiedSO (w : World) (vs : List V) (e : Ending) (w' : World) : Prop :=
  ∃ (g : Nat) (us : List V) (cur : Array Value), e = .returned (.agg #[.slice (some ⟨g, 0, none⟩) vs.length vs.length]) ∧ us.length = vs.length ∧ Like us vs ∧ ORow w' w.heap.size w'.heap.size g us cur ∧ Below w.heap.size w w'
set_option maxRecDepth 100000 in
set_option maxHeartbeats 1000000 in
theorem toStore_own (a : Option Addr) (c : Nat) (vs : List V) (w : World) (hn : vs.length ≤ 1048576) (hm : ∀ v ∈ vs, v.ts.length ≤ 1048576) (hv : Vg w w.heap.size a vs) :
    Calls Tryz.prog 190 #[.agg #[.slice a vs.length c]] w (CopiedSO w vs) := by
  have S0 := (((Inv.start w).box 175 #[.slice a vs.length c]).box 130 #[.slice none 0 0]).box 130 #[.slice none 0 0]
  simp only [World.size_alloc] at S0
  have T0 := hv.on S0.below
  go_enter Tryz.func190, Tryz.ntmps190
  go_wp2_with fail
  generalize (((w.alloc (.cells #[.slice a vs.length c] 175)).alloc (.cells #[.slice none 0 0] 130)).alloc (.cells #[.slice none 0 0] 130)) = W at S0 T0 ⊢
  refine (toVerS_own a c vs W hn hm (T0.up S0.base)).mono ?_
  rintro e w1 ⟨g, us, cur, rfl, hul, hli, hR, hb1⟩
  have S1 := S0.on hb1
  have hr := S0.room
  have hl := S1.below
  obtain ⟨k0, f0⟩ := (S1.nth 0 rfl).one
  obtain ⟨k1, f1⟩ := (S1.nth 1 rfl).one
  have hW := S0.base
  have HR := hide hR
  have HL := hide hli
  have HU := hide hul
  clear hR hli hul S0 S1 T0 hv hm
  go_wp2
  refine bodyPost_ret (v := .agg #[.slice (some ⟨g, 0, none⟩) vs.length vs.length]) (by simp [results, Tryz.results190, go_sem, k1]) rfl ?_
  have HT := (((Turn.refl (fun i => i < W.heap.size) w1).set (p := ⟨w.heap.size + 1 + 1, 0, none⟩) (by simp only; omega) (.slice (some ⟨g, 0, none⟩) vs.length vs.length)).set (p := ⟨w.heap.size + 1, 0, none⟩) (by simp only; omega) (.slice (some ⟨g, 0, none⟩) vs.length vs.length))
  exact ⟨g, us, cur, rfl, HU.out, HL.out, by simpa [World.setCell] using (HR.out.turned HT (fun i h1 h2 h3 => by omega)).low hW, (hl.setCell (by simp; omega) _).setCell (by simp) _⟩

end Go.Proofs.YtbbaogpgapemhaaGreat
/- Contracts of the functions that join vectors of tags, in the program and in the model. Condition: at most 1048576 tags. -/
namespace Go.Proofs.YtbbaogpgapemhaaGreat
open Go.RowKit Go.Joins
attribute [local go_sem ↓] Go.wp_at_zero Go.wp_at_succ

/-- The later one of two tags. -/
def mxp (x y : Int × Int) : Int × Int := (mxT x.1 x.2 y.1 y.2, mxP x.1 x.2 y.1 y.2)
/-- The later one at each place. -/
def mxL (ts us : List (Int × Int)) : List (Int × Int) := List.zipWith mxp ts us
/-- Tags as cells, one behind the other. -/
def flatT (ts : List (Int × Int)) : List Value := ts.flatMap fun x => [Value.int .i64 x.1, Value.int .i64 x.2]
theorem flatT_snoc (ts : List (Int × Int)) (x : Int × Int) : flatT (ts ++ [x]) = flatT ts ++ [.int .i64 x.1, .int .i64 x.2] := by simp [flatT]
theorem flatT_take {ts : List (Int × Int)} {k : Nat} {x : Int × Int} (h : ts[k]? = some x) : flatT (ts.take (k + 1)) = flatT (ts.take k) ++ [.int .i64 x.1, .int .i64 x.2] := by
  rw [List.take_add_one, h]
  exact flatT_snoc _ _
theorem flatT_one (ts : List (Int × Int)) : ∀ u ∈ flatT ts, u.oneCell' = true := by
  intro u hu
  simp only [flatT, List.mem_flatMap] at hu
  obtain ⟨x, _, hx⟩ := hu
  simp at hx
  rcases hx with rfl | rfl <;> rfl
theorem flatT_at : ∀ (ts : List (Int × Int)) (i : Nat) (x : Int × Int), ts[i]? = some x → (flatT ts)[i * 2]? = some (.int .i64 x.1) ∧ (flatT ts)[i * 2 + 1]? = some (.int .i64 x.2)
  | [], i, x, h => by simp at h
  | y :: ts, 0, x, h => by
    simp at h
    subst h
    simp [flatT]
  | y :: ts, i + 1, x, h => by
    have := flatT_at ts i x (by simpa using h)
    have e : flatT (y :: ts) = .int .i64 y.1 :: .int .i64 y.2 :: flatT ts := by simp [flatT]
    rw [e, show (i + 1) * 2 = i * 2 + 1 + 1 by omega]
    simpa using this

/-- An append onto a row of the call's own, from block n on, turns none of the known blocks. -/
theorem Inv.grow {w w1 w2 : World} {n : Nat} {bs : List (Nat × TypeId × Array Value)} {row : Option Nat} (h : Inv w n bs w1) (hg : w1.grownBy w2 row) (hr : ∀ g, row = some g → n ≤ g ∧ w.heap.size ≤ g) : Inv w n bs w2 :=
  ⟨h.below.grown hg h.below.size (fun k hk => (hr k hk).2), Nat.le_trans h.room hg.size, fun x hx => ⟨(h.blk x hx).1, (h.blk x hx).2.1, (h.blk x hx).2.2.kept hg (by intro e; have := (hr _ e).1; have := (h.blk x hx).2.1; omega)⟩⟩

/-- Four tags at a row's beginning. -/
theorem tags_of_take {cr : Array Value} {ts : List (Int × Int)} (h : cr.toList.take (4 * 2) = flatT (ts.take 4)) : ∀ i x, i < 4 → ts[i]? = some x → TagAt cr i x := by
  intro i x hi hx
  have h1 := flatT_at (ts.take 4) i x (by rw [List.getElem?_take_of_lt hi]; exact hx)
  rw [← h, List.getElem?_take_of_lt (by omega), List.getElem?_take_of_lt (by omega)] at h1
  exact ⟨by simpa using h1.1, by simpa using h1.2⟩

/-- What a join leaves: the joined tags in a row of its own. -/
def JoinedP (w : World) (ts : List (Int × Int)) (e : Ending) (w' : World) : Prop :=
  ∃ (g cap : Nat) (T : TypeId) (cur : Array Value), e = .returned (.agg #[.slice (some ⟨g, 0, none⟩) 4 cap]) ∧ w.heap.size ≤ g ∧ Blk w' g T cur ∧ 8 ≤ cur.size ∧ (∀ i x, ts[i]? = some x → TagAt cur i x) ∧ Below w.heap.size w w'

/-- The eight cells of a vector in the midst of a join. -/
def jcells (x0 x1 x2 x3 y0 y1 y2 y3 : Int × Int) (k : Nat) : Array Value :=
  match k with
  | 0 => #[.int .i64 x0.1, .int .i64 x0.2, .int .i64 x1.1, .int .i64 x1.2, .int .i64 x2.1, .int .i64 x2.2, .int .i64 x3.1, .int .i64 x3.2]
  | 1 => #[.int .i64 (mxp x0 y0).1, .int .i64 (mxp x0 y0).2, .int .i64 x1.1, .int .i64 x1.2, .int .i64 x2.1, .int .i64 x2.2, .int .i64 x3.1, .int .i64 x3.2]
  | 2 => #[.int .i64 (mxp x0 y0).1, .int .i64 (mxp x0 y0).2, .int .i64 (mxp x1 y1).1, .int .i64 (mxp x1 y1).2, .int .i64 x2.1, .int .i64 x2.2, .int .i64 x3.1, .int .i64 x3.2]
  | 3 => #[.int .i64 (mxp x0 y0).1, .int .i64 (mxp x0 y0).2, .int .i64 (mxp x1 y1).1, .int .i64 (mxp x1 y1).2, .int .i64 (mxp x2 y2).1, .int .i64 (mxp x2 y2).2, .int .i64 x3.1, .int .i64 x3.2]
  | _ => #[.int .i64 (mxp x0 y0).1, .int .i64 (mxp x0 y0).2, .int .i64 (mxp x1 y1).1, .int .i64 (mxp x1 y1).2, .int .i64 (mxp x2 y2).1, .int .i64 (mxp x2 y2).2, .int .i64 (mxp x3 y3).1, .int .i64 (mxp x3 y3).2]

end Go.Proofs.YtbbaogpgapemhaaGreat
/- Contracts of PastJoin and PastNone, in the program and in the model. Condition: at most 1048576 tags. -/
namespace Go.Proofs.YtbbaogpgapemhaaGreat
open Go.RowKit Go.Joins

theorem tagAt_eight (z0 z1 z2 z3 : Int × Int) : ∀ i x, [z0, z1, z2, z3][i]? = some x → TagAt #[.int .i64 z0.1, .int .i64 z0.2, .int .i64 z1.1, .int .i64 z1.2, .int .i64 z2.1, .int .i64 z2.2, .int .i64 z3.1, .int .i64 z3.2] i x := by
  intro i x h
  match i with
  | 0 => simp at h; subst h; exact ⟨rfl, rfl⟩
  | 1 => simp at h; subst h; exact ⟨rfl, rfl⟩
  | 2 => simp at h; subst h; exact ⟨rfl, rfl⟩
  | 3 => simp at h; subst h; exact ⟨rfl, rfl⟩
  | n + 4 => simp at h

set_option maxHeartbeats 1000000 in
theorem past_any (z0 z1 z2 z3 : Int × Int) (w : World) :
    Calls Tryz.prog 184 #[.agg #[.int .i64 z0.1, .int .i64 z0.2, .int .i64 z1.1, .int .i64 z1.2, .int .i64 z2.1, .int .i64 z2.2, .int .i64 z3.1, .int .i64 z3.2]] w (JoinedP w [z0, z1, z2, z3]) := by
  have S0 := ((Inv.start w).box 156 #[.int .i64 z0.1, .int .i64 z0.2, .int .i64 z1.1, .int .i64 z1.2, .int .i64 z2.1, .int .i64 z2.2, .int .i64 z3.1, .int .i64 z3.2]).box 51 #[.slice none 0 0]
  simp only [World.size_alloc] at S0
  have L0 := S0.below
  clear S0
  go_enter Tryz.func184, Tryz.ntmps184
  go_wp2
  refine bodyPost_ret (v := .agg #[.slice (some ⟨w.heap.size, 0, none⟩) 4 4]) (by simp [results, Tryz.results184, go_sem]) rfl ?_
  exact ⟨w.heap.size, 4, 156, #[.int .i64 z0.1, .int .i64 z0.2, .int .i64 z1.1, .int .i64 z1.2, .int .i64 z2.1, .int .i64 z2.2, .int .i64 z3.1, .int .i64 z3.2], rfl, Nat.le_refl _, (Blk.made w 156 #[.int .i64 z0.1, .int .i64 z0.2, .int .i64 z1.1, .int .i64 z1.2, .int .i64 z2.1, .int .i64 z2.2, .int .i64 z3.1, .int .i64 z3.2]).more _, by simp, tagAt_eight z0 z1 z2 z3, below_alloc2 _ _ _⟩

abbrev z4 : List (Int × Int) := [(0, 0), (0, 0), (0, 0), (0, 0)]

end Go.Proofs.YtbbaogpgapemhaaGreat
/- Vectors that a call answers: nothing, or tags in a row of its own; how such an answer is marked and compared. Condition: at most 1048576 tags. -/
namespace Go.Proofs.YtbbaogpgapemhaaGreat
open Go.RowKit Go.Joins

/-- A slice that reads as these tags: none at all, or in a block of its own from B on and below U. -/
def Res (w : World) (B U : Nat) (A : Option Addr) (rs : List (Int × Int)) : Prop :=
  (A = none ∧ rs = []) ∨ ∃ (g : Nat) (T : TypeId) (cur : Array Value), A = some ⟨g, 0, none⟩ ∧ B ≤ g ∧ g < U ∧ Blk w g T cur ∧ rs.length * 2 ≤ cur.size ∧ ∀ i x, rs[i]? = some x → TagAt cur i x
theorem Res.keep {w w' : World} {B U : Nat} {A : Option Addr} {rs : List (Int × Int)} {row : Option Nat} (h : Res w B U A rs) (hg : w.grownBy w' row) (hr : ∀ g, row = some g → g < B ∨ U ≤ g) : Res w' B U A rs := by
  rcases h with h | ⟨g, T, cur, rfl, hB, hU, hb, hs, hc⟩
  · exact .inl h
  · exact .inr ⟨g, T, cur, rfl, hB, hU, hb.kept hg (by intro e; have := hr g e; omega), hs, hc⟩
theorem Res.on {w w' : World} {B U : Nat} {A : Option Addr} {rs : List (Int × Int)} (h : Res w B U A rs) (hb : Below w.heap.size w w') : Res w' B U A rs := h.keep (row := none) (grown_none hb) (by simp)
theorem Res.drew {w : World} {B U : Nat} {A : Option Addr} {rs : List (Int × Int)} (h : Res w B U A rs) : Res w.drew B U A rs := h
theorem Res.alloc {w : World} {B U : Nat} {A : Option Addr} {rs : List (Int × Int)} (h : Res w B U A rs) (o : Obj) : Res (w.alloc o) B U A rs := h.on (below_alloc1 w o)
theorem Res.set {w : World} {B U : Nat} {A : Option Addr} {rs : List (Int × Int)} (h : Res w B U A rs) {p : Addr} (hp : p.block < B ∨ U ≤ p.block) (u : Value) : Res (w.setCell p u) B U A rs := by
  rcases h with h | ⟨g, T, cur, rfl, hB, hU, hb, hs, hc⟩
  · exact .inl h
  · exact .inr ⟨g, T, cur, rfl, hB, hU, hb.aside (by omega) u, hs, hc⟩
theorem Res.swap {w : World} {B U : Nat} {A : Option Addr} {rs : List (Int × Int)} {o o' : Obj} (h : Res (w.alloc o) B U A rs) (hU : U ≤ w.heap.size) : Res (w.alloc o') B U A rs := by
  rcases h with h | ⟨g, T, cur, rfl, hB, hU', hb, hs, hc⟩
  · exact .inl h
  · have e : Blk (w.alloc o') g T cur := by
      unfold Blk at hb ⊢
      rw [Below.heap_alloc w o' g (by omega), ← Below.heap_alloc w o g (by omega)]
      exact hb
    exact .inr ⟨g, T, cur, rfl, hB, hU', e, hs, hc⟩
theorem Res.tg {w : World} {B U : Nat} {A : Option Addr} {rs : List (Int × Int)} (h : Res w B U A rs) : Tg w w.heap.size A rs := by
  rcases h with ⟨_, h⟩ | ⟨g, T, cur, rfl, _, _, hb, _, hc⟩
  · exact .inl h
  · exact Tg.of hb hb.inside hc
theorem Res.of {w : World} {B U g : Nat} {T : TypeId} {cur : Array Value} {rs : List (Int × Int)} (hB : B ≤ g) (hU : g < U) (hb : Blk w g T cur) (hs : rs.length * 2 ≤ cur.size) (hc : ∀ i x, rs[i]? = some x → TagAt cur i x) : Res w B U (some ⟨g, 0, none⟩) rs :=
  .inr ⟨g, T, cur, rfl, hB, hU, hb, hs, hc⟩

/-- At most one block has turned, and none of the known ones. -/
theorem Inv.part {w w1 w2 : World} {n : Nat} {bs : List (Nat × TypeId × Array Value)} {row : Option Nat} (h : Inv w n bs w1) (hg : w1.grownBy w2 row) (hw : ∀ g, row = some g → w.heap.size ≤ g) (hs : ∀ x ∈ bs, ∀ g, row = some g → x.1 ≠ g) : Inv w n bs w2 :=
  ⟨h.below.grown hg h.below.size hw, Nat.le_trans h.room hg.size, fun x hx => ⟨(h.blk x hx).1, (h.blk x hx).2.1, (h.blk x hx).2.2.kept hg (fun e => hs x hx _ e rfl)⟩⟩

/-- What PastJoin answers, as tags. -/
def joinL (ts us : List (Int × Int)) : List (Int × Int) := if (pastB ts && pastB us) = true then mxL ts us else []
/-- An answer that is a vector. -/
def Answer (w : World) (rs : List (Int × Int)) (e : Ending) (w' : World) : Prop :=
  ∃ (A : Option Addr) (cap : Nat), e = .returned (.agg #[.slice A rs.length cap]) ∧ Res w' w.heap.size w'.heap.size A rs ∧ Below w.heap.size w w'

/-- What marking an answer leaves: the marks; only its own block has turned. -/
def MarkedR (w : World) (B U : Nat) (A : Option Addr) (n : Nat) (k : Int) (e : Ending) (w' : World) : Prop :=
  ∃ row : Option Nat, e = .returned (.int .i64 (k + 2 * (n : Int))) ∧ Res w' B U A (marksL k n) ∧ w.grownBy w' row ∧ ∀ g, row = some g → B ≤ g ∧ g < U
end Go.Proofs.YtbbaogpgapemhaaGreat
