/- Whether two versions, two stores are the same, as the promises compare them: of such as are. Condition: what is said of each. -/
import Derived.Test.YtgofeljmpkhkbaaDrawPasts
import Derived.Test.YtgofeljmpkhkbaaStores2
namespace Go.Proofs.Ytgofeljmpkhkbaa
open Go.RowKit Go.Joins
attribute [local go_sem ↓] Go.wp_at_zero Go.wp_at_succ

set_option maxRecDepth 100000 in
set_option maxHeartbeats 2000000 in
theorem cfVer_same (k t u : Int) (a a' : Option Addr) (c c' : Nat) (ts : List (Int × Int)) (s : ByteArray) (b : Bool) (w : World) (hn : ts.length ≤ 1048576) (ht : Tg w w.heap.size a ts) (hu : Tg w w.heap.size a' ts) :
    Calls Try.prog 28 #[.agg (verC k t u a ts.length c s b), .agg (verC k t u a' ts.length c' s b)] w fun e w' => e = .returned (.bool true) ∧ Below w.heap.size w w' := by
  have S0 := ((Inv.start w).box 32 (verC k t u a ts.length c s b)).box 32 (verC k t u a' ts.length c' s b)
  simp only [World.size_alloc] at S0
  have q0 := (S0.nth 0 rfl).six.1
  have q1 := (S0.nth 1 rfl).six.1
  go_enter Try.func28, Try.ntmps28
  go_wp2_with fail
  refine (cfPast_any a a' c c' ts ts _ hn hn ((ht.on S0.below).up S0.base) ((hu.on S0.below).up S0.base)).mono ?_
  rw [decide_eq_true rfl]
  rintro e w1 ⟨rfl, hb1⟩
  have S1 := S0.on hb1
  have k0 := (S1.nth 0 rfl).six.1
  have k1 := (S1.nth 1 rfl).six.1
  clear S0 q0 q1 hb1 ht hu
  go_wp2
  go_ret
  exact ⟨rfl, S1.below⟩
set_option maxRecDepth 100000 in
set_option maxHeartbeats 2000000 in
theorem cfStore_same (a a' : Option Addr) (c c' n : Nat) (vs us : List V) (w : World) (hn : n ≤ 1048576) (hvn : vs.length = n) (hun : us.length = n)
    (hlike : Like vs us) (hm : ∀ v ∈ vs, v.ts.length ≤ 1048576) (hv : Vg w w.heap.size a vs) (hu : Vg w w.heap.size a' us) :
    Calls Try.prog 8 #[.agg #[.slice a n c], .agg #[.slice a' n c']] w fun e w' => e = .returned (.bool true) ∧ Below w.heap.size w w' := by
  have S0 := ((Inv.start w).box 25 #[.slice a n c]).box 25 #[.slice a' n c']
  simp only [World.size_alloc] at S0
  have HN := hide hvn
  have HU := hide hun
  have HK := hide hlike
  have HM := hide hm
  clear hvn hun hlike hm
  go_enter Try.func8, Try.ntmps8
  go_wp2
  go_loopw [5] (fun i wr => ∃ k : Nat, k ≤ n ∧ i = .int .i64 (k : Int) ∧ Inv w (w.heap.size + 1 + 1) [(w.heap.size + 1, 25, #[.slice a' n c']), (w.heap.size, 25, #[.slice a n c])] wr) (fun i _ => n - (intOf i).toNat)
  case atStart => exact ⟨0, Nat.zero_le _, rfl, S0⟩
  case round =>
    obtain ⟨k, hk, rfl, hI⟩ := hrel
    clear S0
    by_cases hlt : k < n
    · rcases hv with e0 | ⟨b, off, rfl, hb, hx⟩
      · have := HN.out; subst e0; simp at this; omega
      · rcases hu with e0 | ⟨b', off', rfl, hb', hx'⟩
        · have := HU.out; subst e0; simp at this; omega
        · have hkl : k < vs.length := by have := HN.out; omega
          have hkl' : k < us.length := by have := HU.out; omega
          obtain ⟨hS, hT⟩ := hx k _ (List.getElem?_eq_getElem hkl)
          obtain ⟨hS2, hT2⟩ := hx' k _ (List.getElem?_eq_getElem hkl')
          have HX := hide (List.getElem?_eq_getElem hkl)
          have HY := hide (List.getElem?_eq_getElem hkl')
          generalize vs[k] = v at hS hT HX
          generalize us[k] = v' at hS2 hT2 HY
          have hli := HK.out k v v' HX.out HY.out
          have HB := hide (HM.out v (List.mem_of_getElem? HX.out))
          obtain ⟨vk, vt, vu, va, vc, vts, vs', vg⟩ := v
          obtain ⟨uk, ut, uu, ua, uc, uts, us', ug⟩ := v'
          obtain ⟨e1, e2, e3, e4, e5, e6⟩ := hli
          simp only at e1 e2 e3 e4 e5 e6 hS hS2 hT hT2
          subst e1 e2 e3 e4 e5 e6
          have Q1 := hide hS
          have Q2 := hide hS2
          have T1 := hide hT
          have T2 := hide hT2
          clear hS hS2 hT hT2 hx hx'
          have i1 : (0 : Int) ≤ (k : Int) := by omega
          have i2 : (k : Int) < (n : Int) := by omega
          have q0 := (hI.nth 0 rfl).one.1
          have q1 := (hI.nth 1 rfl).one.1
          have jh : ∀ w', Inv w (w.heap.size + 1 + 1) [(w.heap.size + 1, 25, #[.slice (some ⟨b', off', none⟩) n c']), (w.heap.size, 25, #[.slice (some ⟨b, off, none⟩) n c])] w' → (w'.cell? ⟨w.heap.size + 1, 0, none⟩ = some (.slice (some ⟨b', off', none⟩) n c') ∧ w'.cell? ⟨w.heap.size, 0, none⟩ = some (.slice (some ⟨b, off, none⟩) n c)) ∧ Six w' b (off + k * 6) ⟨vk, vt, vu, va, vc, vts, vs', vg⟩ ∧ Six w' b' (off' + k * 6) ⟨vk, vt, vu, ua, uc, vts, vs', vg⟩ ∧ Inv w (w.heap.size + 1 + 1) [(w.heap.size + 1, 25, #[.slice (some ⟨b', off', none⟩) n c']), (w.heap.size, 25, #[.slice (some ⟨b, off, none⟩) n c])] w' := fun w' h =>
            ⟨⟨(h.nth 0 rfl).at 0, (h.nth 1 rfl).at 0⟩, Q1.out.keep hb fun _ hp => h.below.cell hp, Q2.out.keep hb' fun _ hp => h.below.cell hp, h⟩
          go_wp2_with fail
          refine wp_region_noPanic ?_
          refine wp_region_held_drew (S := (fun w' => (w'.cell? ⟨w.heap.size + 1, 0, none⟩ = some (.slice (some ⟨b', off', none⟩) n c') ∧ w'.cell? ⟨w.heap.size, 0, none⟩ = some (.slice (some ⟨b, off, none⟩) n c)) ∧ Six w' b (off + k * 6) ⟨vk, vt, vu, va, vc, vts, vs', vg⟩ ∧ Six w' b' (off' + k * 6) ⟨vk, vt, vu, ua, uc, vts, vs', vg⟩ ∧ Inv w (w.heap.size + 1 + 1) [(w.heap.size + 1, 25, #[.slice (some ⟨b', off', none⟩) n c']), (w.heap.size, 25, #[.slice (some ⟨b, off, none⟩) n c])] w')) (by kernel_rfl) (by exact jh _ hI.drew) (fun hHeld => ?_)
          refine take_run 0 (some 20) (v := ?_) rfl rfl (by kernel_rfl) (by kernel_rfl) (by kernel_rfl) (fun _ _ _ h => h) (by rfl) ?_ hHeld ?_
          rotate_left
          · ((intro w hSw); (try dsimp only at hSw); go_simp <;> with_reducible rfl)
          simp only [Act.put, List.setIfInBounds_toArray, List.set_cons_zero, List.set_cons_succ]
          refine take_run 1 (some 21) (v := ?_) rfl rfl (by kernel_rfl) (by kernel_rfl) (by kernel_rfl) (fun _ _ _ h => h) (by rfl) ?_ hHeld ?_
          rotate_left
          · ((intro w hSw); (try dsimp only at hSw); go_simp <;> with_reducible rfl)
          simp only [Act.put, List.setIfInBounds_toArray, List.set_cons_zero, List.set_cons_succ]
          refine take_run 2 (some 22) (v := ?_) rfl rfl (by kernel_rfl) (by kernel_rfl) (by kernel_rfl) (fun _ _ _ h => h) (by rfl) ?_ hHeld ?_
          rotate_left
          · ((intro w hSw); (try dsimp only at hSw); go_simp <;> with_reducible rfl)
          simp only [Act.put, List.setIfInBounds_toArray, List.set_cons_zero, List.set_cons_succ]
          refine take_run 3 (some 23) (v := ?_) rfl rfl (by kernel_rfl) (by kernel_rfl) (by kernel_rfl) (fun _ _ _ h => h) (by rfl) ?_ hHeld ?_
          rotate_left
          · ((intro w hSw); (try dsimp only at hSw); go_simp <;> with_reducible rfl)
          simp only [Act.put, List.setIfInBounds_toArray, List.set_cons_zero, List.set_cons_succ]
          refine take_run 4 (some 24) (v := ?_) rfl rfl (by kernel_rfl) (by kernel_rfl) (by kernel_rfl) (fun _ _ _ h => h) (by rfl) ?_ hHeld ?_
          rotate_left
          · ((intro w hSw); (try dsimp only at hSw); go_simp <;> with_reducible rfl)
          simp only [Act.put, List.setIfInBounds_toArray, List.set_cons_zero, List.set_cons_succ]
          refine take_run 5 (some 25) (v := ?_) rfl rfl (by kernel_rfl) (by kernel_rfl) (by kernel_rfl) (fun _ _ _ h => h) (by rfl) ?_ hHeld ?_
          rotate_left
          · ((intro w hSw); (try dsimp only at hSw); go_simp <;> with_reducible rfl)
          simp only [Act.put, List.setIfInBounds_toArray, List.set_cons_zero, List.set_cons_succ]
          refine take_run 6 (some 26) (v := ?_) rfl rfl (by kernel_rfl) (by kernel_rfl) (by kernel_rfl) (fun _ _ _ h => h) (by rfl) ?_ hHeld ?_
          rotate_left
          · ((intro w hSw); (try dsimp only at hSw); go_simp <;> with_reducible rfl)
          simp only [Act.put, List.setIfInBounds_toArray, List.set_cons_zero, List.set_cons_succ]
          refine take_run 7 (some 27) (v := ?_) rfl rfl (by kernel_rfl) (by kernel_rfl) (by kernel_rfl) (fun _ _ _ h => h) (by rfl) ?_ hHeld ?_
          rotate_left
          · ((intro w hSw); (try dsimp only at hSw); go_simp <;> with_reducible rfl)
          simp only [Act.put, List.setIfInBounds_toArray, List.set_cons_zero, List.set_cons_succ]
          refine take_run 8 (some 28) (v := ?_) rfl rfl (by kernel_rfl) (by kernel_rfl) (by kernel_rfl) (fun _ _ _ h => h) (by rfl) ?_ hHeld ?_
          rotate_left
          · ((intro w hSw); (try dsimp only at hSw); go_simp <;> with_reducible rfl)
          simp only [Act.put, List.setIfInBounds_toArray, List.set_cons_zero, List.set_cons_succ]
          refine take_run 9 (some 29) (v := ?_) rfl rfl (by kernel_rfl) (by kernel_rfl) (by kernel_rfl) (fun _ _ _ h => h) (by rfl) ?_ hHeld ?_
          rotate_left
          · ((intro w hSw); (try dsimp only at hSw); go_simp <;> with_reducible rfl)
          simp only [Act.put, List.setIfInBounds_toArray, List.set_cons_zero, List.set_cons_succ]
          refine take_one 10 (by kernel_rfl) rfl (fun K hK => ?_)
          go_simp
          (refine (cfVer_same _ _ _ _ _ _ _ vts _ _ _ HB.out ((T1.out.on hHeld.2.2.2.below).up hHeld.2.2.2.base) ((T2.out.on hHeld.2.2.2.below).up hHeld.2.2.2.base)).mono ?_; rintro e w1 ⟨rfl, hb1⟩)
          try go_wp2_with fail
          refine hK.out _ _ (by exact jh _ (hHeld.2.2.2.on hb1)) (fun hHeld => ?_)
          clear hK K
          refine take_run 11 (some 31) (v := ?_) rfl rfl (by kernel_rfl) (by kernel_rfl) (by kernel_rfl) (fun _ _ _ h => h) (by rfl) ?_ hHeld ?_
          rotate_left
          · ((intro w hSw); (try dsimp only at hSw); go_simp <;> with_reducible rfl)
          simp only [Act.put, List.setIfInBounds_toArray, List.set_cons_zero, List.set_cons_succ]
          refine wpAnyH_done (by kernel_rfl) ?_ _
          refine NoPanic.normal ?_
          have hI2 := hHeld.2.2.2
          clear hHeld hI q0 q1
          go_wp2
          exact ⟨⟨k + 1, by omega, by go_num, hI2⟩, by simp [intOf]; omega⟩
    · have hkn : k = n := by omega
      subst hkn
      clear hlt
      have q0 := (hI.nth 0 rfl).one.1
      have q1 := (hI.nth 1 rfl).one.1
      go_wp2
      go_ret
      exact ⟨rfl, hI.below⟩
end Go.Proofs.Ytgofeljmpkhkbaa
