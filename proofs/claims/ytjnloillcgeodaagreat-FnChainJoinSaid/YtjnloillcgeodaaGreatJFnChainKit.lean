/- Whether two slices of versions, two chains are the same, as the promises compare them: of such as are; and the draw of a number of nodes. Condition: what is said of each. -/
import Derived.Test.YtjnloillcgeodaaGreatJCfStores
import Derived.Test.YtjnloillcgeodaaGreatJNodeOk
import Derived.Test.YtjnloillcgeodaaGreatJDrawVers3
import Derived.Test.YtjnloillcgeodaaGreatJChainRow
import Derived.Test.YtjnloillcgeodaaGreatJDrawChPure
import Derived.Test.YtjnloillcgeodaaGreatJVerOk0
import Derived.Test.YtjnloillcgeodaaGreatJVerClone
import Derived.Test.YtjnloillcgeodaaGreatJStoreJoin
import Derived.Test.YtjnloillcgeodaaGreatJStoreNew0
import Derived.Test.YtjnloillcgeodaaGreatJChainPass4
import Derived.Test.YtjnloillcgeodaaGreatJChainStable
import Derived.Test.YtjnloillcgeodaaGreatJDrawChains2
namespace Go.Proofs.YtjnloillcgeodaaGreat
open Go.RowKit Go.Joins
attribute [local go_sem ↓] Go.wp_at_zero Go.wp_at_succ

set_option maxRecDepth 100000 in
set_option maxHeartbeats 2000000 in
theorem cfVers_same (a a' : Option Addr) (c c' n : Nat) (vs us : List V) (w : World) (hn : n ≤ 1048576) (hvn : vs.length = n) (hun : us.length = n)
    (hlike : Like vs us) (hm : ∀ v ∈ vs, v.ts.length ≤ 1048576) (hv : Vg w w.heap.size a vs) (hu : Vg w w.heap.size a' us) :
    Calls Tryz.prog 40 #[.slice a n c, .slice a' n c'] w fun e w' => e = .returned (.bool true) ∧ Below w.heap.size w w' := by
  have HN := hide hvn
  have HU := hide hun
  have HK := hide hlike
  have HM := hide hm
  clear hvn hun hlike hm
  go_enter Tryz.func40, Tryz.ntmps40
  go_wp2
  go_loopw [5] (fun i wr => ∃ k : Nat, k ≤ n ∧ i = .int .i64 (k : Int) ∧ Below w.heap.size w wr) (fun i _ => n - (intOf i).toNat)
  case atStart => exact ⟨0, Nat.zero_le _, rfl, Below.refl _ _⟩
  case round =>
    obtain ⟨k, hk, rfl, hL⟩ := hrel
    by_cases hlt : k < n
    · rcases hv with e0 | ⟨b, off, rfl, hb, hx⟩
      · have := HN.out; subst e0; simp at this; omega
      · rcases hu with e0 | ⟨b', off', rfl, hb', hx'⟩
        · have := HU.out; subst e0; simp at this; omega
        · have hkl : k < vs.length := by have := HN.out; omega
          have hkl' : k < us.length := by have := HU.out; omega
          obtain ⟨hS, hT⟩ := hx k _ (List.getElem?_eq_getElem hkl)
          obtain ⟨hS2, hT2⟩ := hx' k _ (List.getElem?_eq_getElem hkl')
          have HX := hide (List.getElem?_eq_getElem hkl)
          have HY := hide (List.getElem?_eq_getElem hkl')
          generalize vs[k] = v at hS hT HX
          generalize us[k] = v' at hS2 hT2 HY
          have hli := HK.out k v v' HX.out HY.out
          have HB := hide (HM.out v (List.mem_of_getElem? HX.out))
          obtain ⟨vk, vt, vu, va, vc, vts, vs', vg⟩ := v
          obtain ⟨uk, ut, uu, ua, uc, uts, us', ug⟩ := v'
          obtain ⟨e1, e2, e3, e4, e5, e6⟩ := hli
          simp only at e1 e2 e3 e4 e5 e6 hS hS2 hT hT2
          subst e1 e2 e3 e4 e5 e6
          have Q1 := hide hS
          have Q2 := hide hS2
          have T1 := hide hT
          have T2 := hide hT2
          clear hS hS2 hT hT2 hx hx'
          have i1 : (0 : Int) ≤ (k : Int) := by omega
          have i2 : (k : Int) < (n : Int) := by omega
          go_wp2_with fail
          refine wp_region_noPanic ?_
          refine wp_region_held_drew (S := (fun w' => Six w' b (off + k * 6) ⟨vk, vt, vu, va, vc, vts, vs', vg⟩ ∧ Six w' b' (off' + k * 6) ⟨vk, vt, vu, ua, uc, vts, vs', vg⟩ ∧ Below w.heap.size w w')) (by kernel_rfl) (by exact ⟨Q1.out.keep hb fun _ hp => hL.cell hp, Q2.out.keep hb' fun _ hp => hL.cell hp, hL.drew⟩) (fun hHeld => ?_)
          refine take_run 0 (some 17) (v := ?_) rfl rfl (by kernel_rfl) (by kernel_rfl) (by kernel_rfl) (fun _ _ _ h => h) (by rfl) ?_ hHeld ?_
          rotate_left
          · ((intro w hSw); (try dsimp only at hSw); go_simp <;> with_reducible rfl)
          simp only [Act.put, List.setIfInBounds_toArray, List.set_cons_zero, List.set_cons_succ]
          refine take_run 1 (some 18) (v := ?_) rfl rfl (by kernel_rfl) (by kernel_rfl) (by kernel_rfl) (fun _ _ _ h => h) (by rfl) ?_ hHeld ?_
          rotate_left
          · ((intro w hSw); (try dsimp only at hSw); go_simp <;> with_reducible rfl)
          simp only [Act.put, List.setIfInBounds_toArray, List.set_cons_zero, List.set_cons_succ]
          refine take_run 2 (some 19) (v := ?_) rfl rfl (by kernel_rfl) (by kernel_rfl) (by kernel_rfl) (fun _ _ _ h => h) (by rfl) ?_ hHeld ?_
          rotate_left
          · ((intro w hSw); (try dsimp only at hSw); go_simp <;> with_reducible rfl)
          simp only [Act.put, List.setIfInBounds_toArray, List.set_cons_zero, List.set_cons_succ]
          refine take_run 3 (some 20) (v := ?_) rfl rfl (by kernel_rfl) (by kernel_rfl) (by kernel_rfl) (fun _ _ _ h => h) (by rfl) ?_ hHeld ?_
          rotate_left
          · ((intro w hSw); (try dsimp only at hSw); go_simp <;> with_reducible rfl)
          simp only [Act.put, List.setIfInBounds_toArray, List.set_cons_zero, List.set_cons_succ]
          refine take_run 4 (some 21) (v := ?_) rfl rfl (by kernel_rfl) (by kernel_rfl) (by kernel_rfl) (fun _ _ _ h => h) (by rfl) ?_ hHeld ?_
          rotate_left
          · ((intro w hSw); (try dsimp only at hSw); go_simp <;> with_reducible rfl)
          simp only [Act.put, List.setIfInBounds_toArray, List.set_cons_zero, List.set_cons_succ]
          refine take_run 5 (some 22) (v := ?_) rfl rfl (by kernel_rfl) (by kernel_rfl) (by kernel_rfl) (fun _ _ _ h => h) (by rfl) ?_ hHeld ?_
          rotate_left
          · ((intro w hSw); (try dsimp only at hSw); go_simp <;> with_reducible rfl)
          simp only [Act.put, List.setIfInBounds_toArray, List.set_cons_zero, List.set_cons_succ]
          refine take_run 6 (some 23) (v := ?_) rfl rfl (by kernel_rfl) (by kernel_rfl) (by kernel_rfl) (fun _ _ _ h => h) (by rfl) ?_ hHeld ?_
          rotate_left
          · ((intro w hSw); (try dsimp only at hSw); go_simp <;> with_reducible rfl)
          simp only [Act.put, List.setIfInBounds_toArray, List.set_cons_zero, List.set_cons_succ]
          refine take_run 7 (some 24) (v := ?_) rfl rfl (by kernel_rfl) (by kernel_rfl) (by kernel_rfl) (fun _ _ _ h => h) (by rfl) ?_ hHeld ?_
          rotate_left
          · ((intro w hSw); (try dsimp only at hSw); go_simp <;> with_reducible rfl)
          simp only [Act.put, List.setIfInBounds_toArray, List.set_cons_zero, List.set_cons_succ]
          refine take_one 8 (by kernel_rfl) rfl (fun K hK => ?_)
          go_simp
          (refine (cfVer_same _ _ _ _ _ _ _ vts _ _ _ HB.out ((T1.out.on hHeld.2.2).up hHeld.2.2.size) ((T2.out.on hHeld.2.2).up hHeld.2.2.size)).mono ?_; rintro e w1 ⟨rfl, hb1⟩)
          try go_wp2_with fail
          refine hK.out _ _ (by exact ⟨Q1.out.keep hb fun _ hp => (hHeld.2.2.trans (hb1.mono hHeld.2.2.size)).cell hp, Q2.out.keep hb' fun _ hp => (hHeld.2.2.trans (hb1.mono hHeld.2.2.size)).cell hp, hHeld.2.2.trans (hb1.mono hHeld.2.2.size)⟩) (fun hHeld => ?_)
          clear hK K
          refine take_run 9 (some 26) (v := ?_) rfl rfl (by kernel_rfl) (by kernel_rfl) (by kernel_rfl) (fun _ _ _ h => h) (by rfl) ?_ hHeld ?_
          rotate_left
          · ((intro w hSw); (try dsimp only at hSw); go_simp <;> with_reducible rfl)
          simp only [Act.put, List.setIfInBounds_toArray, List.set_cons_zero, List.set_cons_succ]
          refine wpAnyH_done (by kernel_rfl) ?_ _
          refine NoPanic.normal ?_
          have hL2 := hHeld.2.2
          clear hHeld hL
          go_wp2
          exact ⟨⟨k + 1, by omega, by go_num, hL2⟩, by simp [intOf]; omega⟩
    · have hkn : k = n := by omega
      subst hkn
      clear hlt
      go_wp2
      go_ret
      exact ⟨rfl, hL⟩
end Go.Proofs.YtjnloillcgeodaaGreat
/- Whether two chains are the same, as the promises compare them: of such as are, wherever they lie. Condition: what is said of each. -/
namespace Go.Proofs.YtjnloillcgeodaaGreat
open Go.RowKit Go.Joins
attribute [local go_sem ↓] Go.wp_at_zero Go.wp_at_succ

set_option maxRecDepth 100000 in
set_option maxHeartbeats 4000000 in
theorem cfChain_cg (A A' : Option Addr) (c c' n : Nat) (ns us : List Nd) (w : World) (hn : n ≤ 1048576) (hvn : ns.length = n) (hun : us.length = n)
    (hlike : ∀ (i : Nat) v v', ns[i]? = some v → us[i]? = some v' → Nd.like v v') (hm : SmallN ns) (hv : CgA w A ns) (hu : CgA w A' us) :
    Calls Tryz.prog 10 #[.agg #[.slice A n c], .agg #[.slice A' n c']] w fun e w' => e = .returned (.bool true) ∧ Below w.heap.size w w' := by
  have S0 := ((Inv.start w).box 25 #[.slice A n c]).box 25 #[.slice A' n c']
  simp only [World.size_alloc] at S0
  have HN := hide hvn
  have HU := hide hun
  have HK := hide hlike
  have HM := hide hm
  clear hvn hun hlike hm
  go_enter Tryz.func10, Tryz.ntmps10
  go_wp2
  go_loopw [5] (fun i wr => ∃ k : Nat, k ≤ n ∧ i = .int .i64 (k : Int) ∧ Inv w (w.heap.size + 1 + 1) [(w.heap.size + 1, 25, #[.slice A' n c']), (w.heap.size, 25, #[.slice A n c])] wr) (fun i _ => n - (intOf i).toNat)
  case atStart => exact ⟨0, Nat.zero_le _, rfl, S0⟩
  case round =>
    obtain ⟨k, hk, rfl, hI⟩ := hrel
    clear S0
    have q0 := (hI.nth 0 rfl).one.1
    have q1 := (hI.nth 1 rfl).one.1
    by_cases hlt : k < n
    · rcases hv with e0 | ⟨G, cur, rfl, hv⟩
      · have := HN.out; rw [e0] at this; simp at this; omega
      rcases hu with e0 | ⟨G', cur', rfl, hu⟩
      · have := HU.out; rw [e0] at this; simp at this; omega
      obtain ⟨v, hvv⟩ : ∃ v, ns[k]? = some v := ⟨_, List.getElem?_eq_getElem (by have := HN.out; omega)⟩
      obtain ⟨u, huu⟩ : ∃ u, us[k]? = some u := ⟨_, List.getElem?_eq_getElem (by have := HU.out; omega)⟩
      have HB := hide (HM.out v (List.mem_of_getElem? hvv))
      obtain ⟨e1, e2, e3, e4⟩ := HK.out k v u hvv huu
      have E1 := hide e1
      have E2 := hide e2
      have E3 := hide e3
      have E4 := hide e4
      have A1 := hv.at' k v hvv
      have A2 := hu.at' k u huu
      rw [NdAt, ← e1, ← e3] at A2
      have Q1 := hide A1
      have Q2 := hide A2
      have K1 := hide hv.blk
      have K2 := hide hu.blk
      have R1 := hide (hv.store k v hvv)
      have R2 := hide (hv.wait k v hvv)
      have R3 := hide (hu.store k u huu)
      have R4 := hide (hu.wait k u huu)
      clear A1 A2 hvv huu e1 e2 e3 e4
      have i1 : (0 : Int) ≤ (k : Int) := by omega
      have i2 : (k : Int) < (n : Int) := by omega
      have jh : ∀ w', Inv w (w.heap.size + 1 + 1) [(w.heap.size + 1, 25, #[.slice (some ⟨G', 0, none⟩) n c']), (w.heap.size, 25, #[.slice (some ⟨G, 0, none⟩) n c])] w' → (w'.cell? ⟨w.heap.size + 1, 0, none⟩ = some (.slice (some ⟨G', 0, none⟩) n c') ∧ w'.cell? ⟨w.heap.size, 0, none⟩ = some (.slice (some ⟨G, 0, none⟩) n c)) ∧ (w'.cell? ⟨G, k * 2, none⟩ = some (.slice v.sa v.ss.length v.sc) ∧ w'.cell? ⟨G, k * 2 + 1, none⟩ = some (.slice v.wa v.ws.length v.wc) ∧ w'.cell? ⟨G', k * 2, none⟩ = some (.slice u.sa v.ss.length u.sc) ∧ w'.cell? ⟨G', k * 2 + 1, none⟩ = some (.slice u.wa v.ws.length u.wc)) ∧ Inv w (w.heap.size + 1 + 1) [(w.heap.size + 1, 25, #[.slice (some ⟨G', 0, none⟩) n c']), (w.heap.size, 25, #[.slice (some ⟨G, 0, none⟩) n c])] w' := fun w' h =>
        ⟨⟨(h.nth 0 rfl).at 0, (h.nth 1 rfl).at 0⟩, ⟨((K1.out.on h.below).at _).trans Q1.out.1, ((K1.out.on h.below).at _).trans Q1.out.2, ((K2.out.on h.below).at _).trans Q2.out.1, ((K2.out.on h.below).at _).trans Q2.out.2⟩, h⟩
      go_wp2_with fail
      refine wp_region_noPanic ?_
      refine wp_region_held_drew (S := (fun w' => (w'.cell? ⟨w.heap.size + 1, 0, none⟩ = some (.slice (some ⟨G', 0, none⟩) n c') ∧ w'.cell? ⟨w.heap.size, 0, none⟩ = some (.slice (some ⟨G, 0, none⟩) n c)) ∧ (w'.cell? ⟨G, k * 2, none⟩ = some (.slice v.sa v.ss.length v.sc) ∧ w'.cell? ⟨G, k * 2 + 1, none⟩ = some (.slice v.wa v.ws.length v.wc) ∧ w'.cell? ⟨G', k * 2, none⟩ = some (.slice u.sa v.ss.length u.sc) ∧ w'.cell? ⟨G', k * 2 + 1, none⟩ = some (.slice u.wa v.ws.length u.wc)) ∧ Inv w (w.heap.size + 1 + 1) [(w.heap.size + 1, 25, #[.slice (some ⟨G', 0, none⟩) n c']), (w.heap.size, 25, #[.slice (some ⟨G, 0, none⟩) n c])] w')) (by kernel_rfl) (by exact jh _ hI.drew) (fun hHeld => ?_)
      refine take_run 0 (some 20) (v := ?_) rfl rfl (by kernel_rfl) (by kernel_rfl) (by kernel_rfl) (fun _ _ _ h => h) (by rfl) ?_ hHeld ?_
      rotate_left
      · ((intro w hSw); (try dsimp only at hSw); go_simp <;> with_reducible rfl)
      simp only [Act.put, List.setIfInBounds_toArray, List.set_cons_zero, List.set_cons_succ]
      refine take_run 1 (some 21) (v := ?_) rfl rfl (by kernel_rfl) (by kernel_rfl) (by kernel_rfl) (fun _ _ _ h => h) (by rfl) ?_ hHeld ?_
      rotate_left
      · ((intro w hSw); (try dsimp only at hSw); go_simp <;> with_reducible rfl)
      simp only [Act.put, List.setIfInBounds_toArray, List.set_cons_zero, List.set_cons_succ]
      refine take_run 2 (some 22) (v := ?_) rfl rfl (by kernel_rfl) (by kernel_rfl) (by kernel_rfl) (fun _ _ _ h => h) (by rfl) ?_ hHeld ?_
      rotate_left
      · ((intro w hSw); (try dsimp only at hSw); go_simp <;> with_reducible rfl)
      simp only [Act.put, List.setIfInBounds_toArray, List.set_cons_zero, List.set_cons_succ]
      refine take_run 3 (some 23) (v := ?_) rfl rfl (by kernel_rfl) (by kernel_rfl) (by kernel_rfl) (fun _ _ _ h => h) (by rfl) ?_ hHeld ?_
      rotate_left
      · ((intro w hSw); (try dsimp only at hSw); go_simp <;> with_reducible rfl)
      simp only [Act.put, List.setIfInBounds_toArray, List.set_cons_zero, List.set_cons_succ]
      refine take_run 4 (some 24) (v := ?_) rfl rfl (by kernel_rfl) (by kernel_rfl) (by kernel_rfl) (fun _ _ _ h => h) (by rfl) ?_ hHeld ?_
      rotate_left
      · ((intro w hSw); (try dsimp only at hSw); go_simp <;> with_reducible rfl)
      simp only [Act.put, List.setIfInBounds_toArray, List.set_cons_zero, List.set_cons_succ]
      refine take_run 5 (some 25) (v := ?_) rfl rfl (by kernel_rfl) (by kernel_rfl) (by kernel_rfl) (fun _ _ _ h => h) (by rfl) ?_ hHeld ?_
      rotate_left
      · ((intro w hSw); (try dsimp only at hSw); go_simp <;> with_reducible rfl)
      simp only [Act.put, List.setIfInBounds_toArray, List.set_cons_zero, List.set_cons_succ]
      refine take_run 6 (some 26) (v := ?_) rfl rfl (by kernel_rfl) (by kernel_rfl) (by kernel_rfl) (fun _ _ _ h => h) (by rfl) ?_ hHeld ?_
      rotate_left
      · ((intro w hSw); (try dsimp only at hSw); go_simp <;> with_reducible rfl)
      simp only [Act.put, List.setIfInBounds_toArray, List.set_cons_zero, List.set_cons_succ]
      refine take_run 7 (some 27) (v := ?_) rfl rfl (by kernel_rfl) (by kernel_rfl) (by kernel_rfl) (fun _ _ _ h => h) (by rfl) ?_ hHeld ?_
      rotate_left
      · ((intro w hSw); (try dsimp only at hSw); go_simp <;> with_reducible rfl)
      simp only [Act.put, List.setIfInBounds_toArray, List.set_cons_zero, List.set_cons_succ]
      refine take_run 8 (some 28) (v := ?_) rfl rfl (by kernel_rfl) (by kernel_rfl) (by kernel_rfl) (fun _ _ _ h => h) (by rfl) ?_ hHeld ?_
      rotate_left
      · ((intro w hSw); (try dsimp only at hSw); go_simp <;> with_reducible rfl)
      simp only [Act.put, List.setIfInBounds_toArray, List.set_cons_zero, List.set_cons_succ]
      refine take_run 9 (some 29) (v := ?_) rfl rfl (by kernel_rfl) (by kernel_rfl) (by kernel_rfl) (fun _ _ _ h => h) (by rfl) ?_ hHeld ?_
      rotate_left
      · ((intro w hSw); (try dsimp only at hSw); go_simp <;> with_reducible rfl)
      simp only [Act.put, List.setIfInBounds_toArray, List.set_cons_zero, List.set_cons_succ]
      refine take_run 10 (some 30) (v := ?_) rfl rfl (by kernel_rfl) (by kernel_rfl) (by kernel_rfl) (fun _ _ _ h => h) (by rfl) ?_ hHeld ?_
      rotate_left
      · ((intro w hSw); (try dsimp only at hSw); go_simp <;> with_reducible rfl)
      simp only [Act.put, List.setIfInBounds_toArray, List.set_cons_zero, List.set_cons_succ]
      refine take_run 11 (some 31) (v := ?_) rfl rfl (by kernel_rfl) (by kernel_rfl) (by kernel_rfl) (fun _ _ _ h => h) (by rfl) ?_ hHeld ?_
      rotate_left
      · ((intro w hSw); (try dsimp only at hSw); go_simp <;> with_reducible rfl)
      simp only [Act.put, List.setIfInBounds_toArray, List.set_cons_zero, List.set_cons_succ]
      refine take_one 12 (by kernel_rfl) rfl (fun K hK => ?_)
      go_simp
      (refine (cfStore_same v.sa u.sa v.sc u.sc v.ss.length v.ss u.ss _ HB.out.1 rfl E1.out.symm E2.out HB.out.2.2.1 ((R1.out.on hHeld.2.2.below).up hHeld.2.2.below.size) ((R3.out.on hHeld.2.2.below).up hHeld.2.2.below.size)).mono ?_; rintro e w1 ⟨rfl, hb1⟩)
      try go_wp2_with fail
      refine hK.out _ _ (by exact jh _ (hHeld.2.2.on hb1)) (fun hHeld => ?_)
      clear hK K
      refine take_run 13 (some 33) (v := ?_) rfl rfl (by kernel_rfl) (by kernel_rfl) (by kernel_rfl) (fun _ _ _ h => h) (by rfl) ?_ hHeld ?_
      rotate_left
      · ((intro w hSw); (try dsimp only at hSw); go_simp <;> with_reducible rfl)
      simp only [Act.put, List.setIfInBounds_toArray, List.set_cons_zero, List.set_cons_succ]
      refine take_run 14 (some 34) (v := ?_) rfl rfl (by kernel_rfl) (by kernel_rfl) (by kernel_rfl) (fun _ _ _ h => h) (by rfl) ?_ hHeld ?_
      rotate_left
      · ((intro w hSw); (try dsimp only at hSw); go_simp <;> with_reducible rfl)
      simp only [Act.put, List.setIfInBounds_toArray, List.set_cons_zero, List.set_cons_succ]
      refine take_run 15 (some 35) (v := ?_) rfl rfl (by kernel_rfl) (by kernel_rfl) (by kernel_rfl) (fun _ _ _ h => h) (by rfl) ?_ hHeld ?_
      rotate_left
      · ((intro w hSw); (try dsimp only at hSw); go_simp <;> with_reducible rfl)
      simp only [Act.put, List.setIfInBounds_toArray, List.set_cons_zero, List.set_cons_succ]
      refine take_run 16 (some 36) (v := ?_) rfl rfl (by kernel_rfl) (by kernel_rfl) (by kernel_rfl) (fun _ _ _ h => h) (by rfl) ?_ hHeld ?_
      rotate_left
      · ((intro w hSw); (try dsimp only at hSw); go_simp <;> with_reducible rfl)
      simp only [Act.put, List.setIfInBounds_toArray, List.set_cons_zero, List.set_cons_succ]
      refine take_run 17 (some 37) (v := ?_) rfl rfl (by kernel_rfl) (by kernel_rfl) (by kernel_rfl) (fun _ _ _ h => h) (by rfl) ?_ hHeld ?_
      rotate_left
      · ((intro w hSw); (try dsimp only at hSw); go_simp <;> with_reducible rfl)
      simp only [Act.put, List.setIfInBounds_toArray, List.set_cons_zero, List.set_cons_succ]
      refine take_run 18 (some 38) (v := ?_) rfl rfl (by kernel_rfl) (by kernel_rfl) (by kernel_rfl) (fun _ _ _ h => h) (by rfl) ?_ hHeld ?_
      rotate_left
      · ((intro w hSw); (try dsimp only at hSw); go_simp <;> with_reducible rfl)
      simp only [Act.put, List.setIfInBounds_toArray, List.set_cons_zero, List.set_cons_succ]
      refine take_run 19 (some 39) (v := ?_) rfl rfl (by kernel_rfl) (by kernel_rfl) (by kernel_rfl) (fun _ _ _ h => h) (by rfl) ?_ hHeld ?_
      rotate_left
      · ((intro w hSw); (try dsimp only at hSw); go_simp <;> with_reducible rfl)
      simp only [Act.put, List.setIfInBounds_toArray, List.set_cons_zero, List.set_cons_succ]
      refine take_run 20 (some 40) (v := ?_) rfl rfl (by kernel_rfl) (by kernel_rfl) (by kernel_rfl) (fun _ _ _ h => h) (by rfl) ?_ hHeld ?_
      rotate_left
      · ((intro w hSw); (try dsimp only at hSw); go_simp <;> with_reducible rfl)
      simp only [Act.put, List.setIfInBounds_toArray, List.set_cons_zero, List.set_cons_succ]
      refine take_run 21 (some 41) (v := ?_) rfl rfl (by kernel_rfl) (by kernel_rfl) (by kernel_rfl) (fun _ _ _ h => h) (by rfl) ?_ hHeld ?_
      rotate_left
      · ((intro w hSw); (try dsimp only at hSw); go_simp <;> with_reducible rfl)
      simp only [Act.put, List.setIfInBounds_toArray, List.set_cons_zero, List.set_cons_succ]
      refine take_run 22 (some 42) (v := ?_) rfl rfl (by kernel_rfl) (by kernel_rfl) (by kernel_rfl) (fun _ _ _ h => h) (by rfl) ?_ hHeld ?_
      rotate_left
      · ((intro w hSw); (try dsimp only at hSw); go_simp <;> with_reducible rfl)
      simp only [Act.put, List.setIfInBounds_toArray, List.set_cons_zero, List.set_cons_succ]
      refine take_run 23 (some 43) (v := ?_) rfl rfl (by kernel_rfl) (by kernel_rfl) (by kernel_rfl) (fun _ _ _ h => h) (by rfl) ?_ hHeld ?_
      rotate_left
      · ((intro w hSw); (try dsimp only at hSw); go_simp <;> with_reducible rfl)
      simp only [Act.put, List.setIfInBounds_toArray, List.set_cons_zero, List.set_cons_succ]
      refine take_run 24 (some 44) (v := ?_) rfl rfl (by kernel_rfl) (by kernel_rfl) (by kernel_rfl) (fun _ _ _ h => h) (by rfl) ?_ hHeld ?_
      rotate_left
      · ((intro w hSw); (try dsimp only at hSw); go_simp <;> with_reducible rfl)
      simp only [Act.put, List.setIfInBounds_toArray, List.set_cons_zero, List.set_cons_succ]
      refine take_run 25 (some 45) (v := ?_) rfl rfl (by kernel_rfl) (by kernel_rfl) (by kernel_rfl) (fun _ _ _ h => h) (by rfl) ?_ hHeld ?_
      rotate_left
      · ((intro w hSw); (try dsimp only at hSw); go_simp <;> with_reducible rfl)
      simp only [Act.put, List.setIfInBounds_toArray, List.set_cons_zero, List.set_cons_succ]
      refine take_run 26 (some 46) (v := ?_) rfl rfl (by kernel_rfl) (by kernel_rfl) (by kernel_rfl) (fun _ _ _ h => h) (by rfl) ?_ hHeld ?_
      rotate_left
      · ((intro w hSw); (try dsimp only at hSw); go_simp <;> with_reducible rfl)
      simp only [Act.put, List.setIfInBounds_toArray, List.set_cons_zero, List.set_cons_succ]
      refine take_one 27 (by kernel_rfl) rfl (fun K hK => ?_)
      go_simp
      (refine (cfVers_same v.wa u.wa v.wc u.wc v.ws.length v.ws u.ws _ HB.out.2.1 rfl E3.out.symm E4.out HB.out.2.2.2 ((R2.out.on hHeld.2.2.below).up hHeld.2.2.below.size) ((R4.out.on hHeld.2.2.below).up hHeld.2.2.below.size)).mono ?_; rintro e w2 ⟨rfl, hb1⟩)
      try go_wp2_with fail
      refine hK.out _ _ (by exact jh _ (hHeld.2.2.on hb1)) (fun hHeld => ?_)
      clear hK K
      refine take_run 28 (some 48) (v := ?_) rfl rfl (by kernel_rfl) (by kernel_rfl) (by kernel_rfl) (fun _ _ _ h => h) (by rfl) ?_ hHeld ?_
      rotate_left
      · ((intro w hSw); (try dsimp only at hSw); go_simp <;> with_reducible rfl)
      simp only [Act.put, List.setIfInBounds_toArray, List.set_cons_zero, List.set_cons_succ]
      refine take_run 29 (some 49) (v := ?_) rfl rfl (by kernel_rfl) (by kernel_rfl) (by kernel_rfl) (fun _ _ _ h => h) (by rfl) ?_ hHeld ?_
      rotate_left
      · ((intro w hSw); (try dsimp only at hSw); go_simp <;> with_reducible rfl)
      simp only [Act.put, List.setIfInBounds_toArray, List.set_cons_zero, List.set_cons_succ]
      refine wpAnyH_done (by kernel_rfl) ?_ _
      refine NoPanic.normal ?_
      have hI2 := hHeld.2.2
      clear hHeld hI q0 q1
      go_wp2
      exact ⟨⟨k + 1, by omega, by go_num, hI2⟩, by simp [intOf]; omega⟩
    · have hkn : k = n := by omega
      subst hkn
      clear hlt
      go_wp2
      go_ret
      exact ⟨rfl, hI.below⟩
/-- .. of chains that say the same as one of valid nodes. -/
theorem cfChain_nl {A A' : Option Addr} {c c' : Nat} {rs ns us : List Nd} {w : World} (hf : SmallN rs) (hl : rs.length ≤ 1048576) (h : NL ns rs) (h' : NL us rs) (hv : CgA w A ns) (hu : CgA w A' us) :
    Calls Tryz.prog 10 #[.agg #[.slice A rs.length c], .agg #[.slice A' rs.length c']] w fun e w' => e = .returned (.bool true) ∧ Below w.heap.size w w' :=
  cfChain_cg A A' c c' rs.length ns us w hl h.1 h'.1 (nl_trans h (nl_symm h')).2 (fun n hn => by
    obtain ⟨i, hi⟩ := List.getElem?_of_mem hn
    obtain ⟨m, hm, hlk⟩ := nl_at h hi
    obtain ⟨h1, h2, h3, h4⟩ := hf m (List.mem_of_getElem? hm)
    refine ⟨by rw [hlk.1]; exact h1, by rw [hlk.2.2.1]; exact h2, all_like (P := fun v => v.ts.length ≤ 1048576) hlk.1 hlk.2.1 (fun v u q k => by rw [q.2.2.2.1]; exact k) h3, all_like (P := fun v => v.ts.length ≤ 1048576) hlk.2.2.1 hlk.2.2.2 (fun v u q k => by rw [q.2.2.2.1]; exact k) h4⟩) hv hu
end Go.Proofs.YtjnloillcgeodaaGreat
/- Contracts of the functions that compare vectors of tags, in the program and in the model. Condition: at most 1048576 tags. -/
namespace Go.Proofs.YtjnloillcgeodaaGreat
open Go.RowKit Go.Joins
attribute [local go_sem ↓] Go.wp_at_zero Go.wp_at_succ

/-- Whether no tag of the first list is later than the other's at its place. -/
def withinB (ts us : List (Int × Int)) : Bool := (ts.zip us).all fun p => !lessB p.2.1 p.2.2 p.1.1 p.1.2
/-- Up to place k none is later. -/
def NoLater (ts us : List (Int × Int)) (k : Nat) : Prop := ∀ (j : Nat) (x y : Int × Int), j < k → ts[j]? = some x → us[j]? = some y → lessB y.1 y.2 x.1 x.2 = false
theorem noLater_zero (ts us : List (Int × Int)) : NoLater ts us 0 := fun j _ _ hj => absurd hj (by omega)
theorem noLater_step {ts us : List (Int × Int)} {k : Nat} {x y : Int × Int} (h : NoLater ts us k) (hx : ts[k]? = some x) (hy : us[k]? = some y) (hl : lessB y.1 y.2 x.1 x.2 = false) : NoLater ts us (k + 1) := by
  intro j x' y' hj hx' hy'
  by_cases e : j = k
  · subst e
    rw [hx] at hx'
    rw [hy] at hy'
    injection hx' with hx'
    injection hy' with hy'
    subst hx' hy'
    exact hl
  · exact h j x' y' (by omega) hx' hy'
theorem within_t {ts us : List (Int × Int)} (hl : ts.length = 4) (h : NoLater ts us 4) : withinB ts us = true := by
  unfold withinB
  rw [List.all_eq_true]
  intro p hp
  obtain ⟨j, hj⟩ := List.getElem?_of_mem hp
  rw [List.getElem?_zip_eq_some] at hj
  have hlt := (List.getElem?_eq_some_iff.1 hj.1).1
  have := h j p.1 p.2 (by omega) hj.1 hj.2
  simp [this]
theorem within_f {ts us : List (Int × Int)} {k : Nat} {x y : Int × Int} (hx : ts[k]? = some x) (hy : us[k]? = some y) (hl : lessB y.1 y.2 x.1 x.2 = true) : withinB ts us = false := by
  unfold withinB
  rw [List.all_eq_false]
  refine ⟨(x, y), List.mem_of_getElem? (i := k) ?_, by simp [hl]⟩
  rw [List.getElem?_zip_eq_some]
  exact ⟨hx, hy⟩

set_option maxRecDepth 100000 in
set_option maxHeartbeats 2000000 in
theorem within_any (x0 x1 x2 x3 y0 y1 y2 y3 : Int × Int) (w : World) :
    Calls Tryz.prog 44 #[.agg #[.int .i64 x0.1, .int .i64 x0.2, .int .i64 x1.1, .int .i64 x1.2, .int .i64 x2.1, .int .i64 x2.2, .int .i64 x3.1, .int .i64 x3.2], .agg #[.int .i64 y0.1, .int .i64 y0.2, .int .i64 y1.1, .int .i64 y1.2, .int .i64 y2.1, .int .i64 y2.2, .int .i64 y3.1, .int .i64 y3.2]] w fun e w' => e = .returned (.bool (withinB [x0, x1, x2, x3] [y0, y1, y2, y3])) ∧ Below w.heap.size w w' := by
  have S0 := ((Inv.start w).box 84 #[.int .i64 x0.1, .int .i64 x0.2, .int .i64 x1.1, .int .i64 x1.2, .int .i64 x2.1, .int .i64 x2.2, .int .i64 x3.1, .int .i64 x3.2]).box 84 #[.int .i64 y0.1, .int .i64 y0.2, .int .i64 y1.1, .int .i64 y1.2, .int .i64 y2.1, .int .i64 y2.2, .int .i64 y3.1, .int .i64 y3.2]
  simp only [World.size_alloc] at S0
  have S1 : Inv w ((w.alloc (.cells #[.int .i64 x0.1, .int .i64 x0.2, .int .i64 x1.1, .int .i64 x1.2, .int .i64 x2.1, .int .i64 x2.2, .int .i64 x3.1, .int .i64 x3.2] 84)).alloc (.cells #[.int .i64 y0.1, .int .i64 y0.2, .int .i64 y1.1, .int .i64 y1.2, .int .i64 y2.1, .int .i64 y2.2, .int .i64 y3.1, .int .i64 y3.2] 84)).heap.size [(w.heap.size + 1, 84, #[.int .i64 y0.1, .int .i64 y0.2, .int .i64 y1.1, .int .i64 y1.2, .int .i64 y2.1, .int .i64 y2.2, .int .i64 y3.1, .int .i64 y3.2])] ((w.alloc (.cells #[.int .i64 x0.1, .int .i64 x0.2, .int .i64 x1.1, .int .i64 x1.2, .int .i64 x2.1, .int .i64 x2.2, .int .i64 x3.1, .int .i64 x3.2] 84)).alloc (.cells #[.int .i64 y0.1, .int .i64 y0.2, .int .i64 y1.1, .int .i64 y1.2, .int .i64 y2.1, .int .i64 y2.2, .int .i64 y3.1, .int .i64 y3.2] 84)) := (S0.top).sub (by simp)
  clear S0
  have i0 : ∀ W : World, (Instr.index 82 (.agg #[.int .i64 x0.1, .int .i64 x0.2, .int .i64 x1.1, .int .i64 x1.2, .int .i64 x2.1, .int .i64 x2.2, .int .i64 x3.1, .int .i64 x3.2]) (.int .i64 0)).run Tryz.prog W = .ok (.agg #[.int .i64 x0.1, .int .i64 x0.2]) W := fun _ => by kernel_rfl
  have i1 : ∀ W : World, (Instr.index 82 (.agg #[.int .i64 x0.1, .int .i64 x0.2, .int .i64 x1.1, .int .i64 x1.2, .int .i64 x2.1, .int .i64 x2.2, .int .i64 x3.1, .int .i64 x3.2]) (.int .i64 1)).run Tryz.prog W = .ok (.agg #[.int .i64 x1.1, .int .i64 x1.2]) W := fun _ => by kernel_rfl
  have i2 : ∀ W : World, (Instr.index 82 (.agg #[.int .i64 x0.1, .int .i64 x0.2, .int .i64 x1.1, .int .i64 x1.2, .int .i64 x2.1, .int .i64 x2.2, .int .i64 x3.1, .int .i64 x3.2]) (.int .i64 2)).run Tryz.prog W = .ok (.agg #[.int .i64 x2.1, .int .i64 x2.2]) W := fun _ => by kernel_rfl
  have i3 : ∀ W : World, (Instr.index 82 (.agg #[.int .i64 x0.1, .int .i64 x0.2, .int .i64 x1.1, .int .i64 x1.2, .int .i64 x2.1, .int .i64 x2.2, .int .i64 x3.1, .int .i64 x3.2]) (.int .i64 3)).run Tryz.prog W = .ok (.agg #[.int .i64 x3.1, .int .i64 x3.2]) W := fun _ => by kernel_rfl
  go_enter Tryz.func44, Tryz.ntmps44
  go_wp2
  go_loopw [9] (fun i wr => ∃ k : Int, 0 ≤ k ∧ k ≤ 4 ∧ i = .int .i64 k ∧ Hid (NoLater [x0, x1, x2, x3] [y0, y1, y2, y3] k.toNat) ∧ Inv w wr.heap.size [(w.heap.size + 1, 84, #[.int .i64 y0.1, .int .i64 y0.2, .int .i64 y1.1, .int .i64 y1.2, .int .i64 y2.1, .int .i64 y2.2, .int .i64 y3.1, .int .i64 y3.2])] wr) (fun i _ => 4 - (intOf i).toNat)
  case atStart => exact ⟨0, by omega, by omega, rfl, noLater_zero _ _, S1⟩
  case round =>
    obtain ⟨k, hk0, hk, rfl, hno, hI⟩ := hrel
    clear S1
    have hcase : k = 0 ∨ k = 1 ∨ k = 2 ∨ k = 3 ∨ k = 4 := by omega
    rcases hcase with rfl | rfl | rfl | rfl | rfl
    · have V0 := (hI.top).box 49 #[.int .i64 x0.1, .int .i64 x0.2]
      simp only [World.size_alloc] at V0
      go_wp2_with fail
      generalize wr.alloc (.cells #[.int .i64 x0.1, .int .i64 x0.2] 49) = W at V0 ⊢
      refine wp_region_noPanic ?_
      refine wp_region_held_drew (S := (fun w' => w'.cell? ⟨wr.heap.size, 0, none⟩ = some (.int .i64 x0.1) ∧ w'.cell? ⟨wr.heap.size, 1, none⟩ = some (.int .i64 x0.2) ∧ w'.cell? ⟨w.heap.size + 1, 0, none⟩ = some (.int .i64 y0.1) ∧ w'.cell? ⟨w.heap.size + 1, 1, none⟩ = some (.int .i64 y0.2) ∧ Inv w (wr.heap.size + 1) [(wr.heap.size, 49, #[.int .i64 x0.1, .int .i64 x0.2]), (w.heap.size + 1, 84, #[.int .i64 y0.1, .int .i64 y0.2, .int .i64 y1.1, .int .i64 y1.2, .int .i64 y2.1, .int .i64 y2.2, .int .i64 y3.1, .int .i64 y3.2])] w')) (by kernel_rfl) (by exact ⟨(V0.nth 0 rfl).at 0, (V0.nth 0 rfl).at 1, (V0.nth 1 rfl).at 0, (V0.nth 1 rfl).at 1, V0.drew⟩) (fun hHeld => ?_)
      refine take_run 0 (some 13) (v := ?_) rfl rfl (by kernel_rfl) (by kernel_rfl) (by kernel_rfl) (fun _ _ _ h => h) (by rfl) ?_ hHeld ?_
      rotate_left
      · ((intro w hSw); (try dsimp only at hSw); go_simp <;> with_reducible rfl)
      simp only [Act.put, List.setIfInBounds_toArray, List.set_cons_zero, List.set_cons_succ]
      refine take_run 1 (some 14) (v := ?_) rfl rfl (by kernel_rfl) (by kernel_rfl) (by kernel_rfl) (fun _ _ _ h => h) (by rfl) ?_ hHeld ?_
      rotate_left
      · ((intro w hSw); (try dsimp only at hSw); go_simp <;> with_reducible rfl)
      simp only [Act.put, List.setIfInBounds_toArray, List.set_cons_zero, List.set_cons_succ]
      refine take_run 2 (some 15) (v := ?_) rfl rfl (by kernel_rfl) (by kernel_rfl) (by kernel_rfl) (fun _ _ _ h => h) (by rfl) ?_ hHeld ?_
      rotate_left
      · ((intro w hSw); (try dsimp only at hSw); go_simp <;> with_reducible rfl)
      simp only [Act.put, List.setIfInBounds_toArray, List.set_cons_zero, List.set_cons_succ]
      refine take_run 3 (some 16) (v := ?_) rfl rfl (by kernel_rfl) (by kernel_rfl) (by kernel_rfl) (fun _ _ _ h => h) (by rfl) ?_ hHeld ?_
      rotate_left
      · ((intro w hSw); (try dsimp only at hSw); go_simp <;> with_reducible rfl)
      simp only [Act.put, List.setIfInBounds_toArray, List.set_cons_zero, List.set_cons_succ]
      refine take_run 4 (some 17) (v := ?_) rfl rfl (by kernel_rfl) (by kernel_rfl) (by kernel_rfl) (fun _ _ _ h => h) (by rfl) ?_ hHeld ?_
      rotate_left
      · ((intro w hSw); (try dsimp only at hSw); go_simp <;> with_reducible rfl)
      simp only [Act.put, List.setIfInBounds_toArray, List.set_cons_zero, List.set_cons_succ]
      refine take_one 5 (by kernel_rfl) rfl (fun K hK => ?_)
      go_simp
      (refine (less_any _ _ _ _ _).mono ?_; rintro e w1 ⟨rfl, hb1⟩)
      try go_wp2_with fail
      refine hK.out _ _ (by exact ⟨((hHeld.2.2.2.2.on hb1).nth 0 rfl).at 0, ((hHeld.2.2.2.2.on hb1).nth 0 rfl).at 1, ((hHeld.2.2.2.2.on hb1).nth 1 rfl).at 0, ((hHeld.2.2.2.2.on hb1).nth 1 rfl).at 1, hHeld.2.2.2.2.on hb1⟩) (fun hHeld => ?_)
      clear hK K
      refine wpAnyH_done (by kernel_rfl) ?_ _
      refine NoPanic.normal ?_
      have hI2 : Inv w (wr.heap.size + 1) [(w.heap.size + 1, 84, #[.int .i64 y0.1, .int .i64 y0.2, .int .i64 y1.1, .int .i64 y1.2, .int .i64 y2.1, .int .i64 y2.2, .int .i64 y3.1, .int .i64 y3.2])] w1 := hHeld.2.2.2.2.sub (by simp)
      clear hHeld V0
      have hz := hI.base
      cases hl : lessB y0.1 y0.2 x0.1 x0.2
      · have HN : Hid (NoLater [x0, x1, x2, x3] [y0, y1, y2, y3] (1 : Int).toNat) := noLater_step (ts := [x0, x1, x2, x3]) (us := [y0, y1, y2, y3]) (k := 0) hno.out rfl rfl hl
        clear hno hl
        go_wp2
        exact ⟨⟨1, by omega, by omega, by go_num, HN, hI2.top⟩, by simp [intOf]⟩
      · have hf := hide (within_f (ts := [x0, x1, x2, x3]) (us := [y0, y1, y2, y3]) (k := 0) rfl rfl hl)
        clear hl hno
        go_wp2
        go_ret
        exact ⟨ret_bool hf.out.symm, hI2.below⟩
    · have V0 := (hI.top).box 49 #[.int .i64 x1.1, .int .i64 x1.2]
      simp only [World.size_alloc] at V0
      go_wp2_with fail
      generalize wr.alloc (.cells #[.int .i64 x1.1, .int .i64 x1.2] 49) = W at V0 ⊢
      refine wp_region_noPanic ?_
      refine wp_region_held_drew (S := (fun w' => w'.cell? ⟨wr.heap.size, 0, none⟩ = some (.int .i64 x1.1) ∧ w'.cell? ⟨wr.heap.size, 1, none⟩ = some (.int .i64 x1.2) ∧ w'.cell? ⟨w.heap.size + 1, 2, none⟩ = some (.int .i64 y1.1) ∧ w'.cell? ⟨w.heap.size + 1, 3, none⟩ = some (.int .i64 y1.2) ∧ Inv w (wr.heap.size + 1) [(wr.heap.size, 49, #[.int .i64 x1.1, .int .i64 x1.2]), (w.heap.size + 1, 84, #[.int .i64 y0.1, .int .i64 y0.2, .int .i64 y1.1, .int .i64 y1.2, .int .i64 y2.1, .int .i64 y2.2, .int .i64 y3.1, .int .i64 y3.2])] w')) (by kernel_rfl) (by exact ⟨(V0.nth 0 rfl).at 0, (V0.nth 0 rfl).at 1, (V0.nth 1 rfl).at 2, (V0.nth 1 rfl).at 3, V0.drew⟩) (fun hHeld => ?_)
      refine take_run 0 (some 13) (v := ?_) rfl rfl (by kernel_rfl) (by kernel_rfl) (by kernel_rfl) (fun _ _ _ h => h) (by rfl) ?_ hHeld ?_
      rotate_left
      · ((intro w hSw); (try dsimp only at hSw); go_simp <;> with_reducible rfl)
      simp only [Act.put, List.setIfInBounds_toArray, List.set_cons_zero, List.set_cons_succ]
      refine take_run 1 (some 14) (v := ?_) rfl rfl (by kernel_rfl) (by kernel_rfl) (by kernel_rfl) (fun _ _ _ h => h) (by rfl) ?_ hHeld ?_
      rotate_left
      · ((intro w hSw); (try dsimp only at hSw); go_simp <;> with_reducible rfl)
      simp only [Act.put, List.setIfInBounds_toArray, List.set_cons_zero, List.set_cons_succ]
      refine take_run 2 (some 15) (v := ?_) rfl rfl (by kernel_rfl) (by kernel_rfl) (by kernel_rfl) (fun _ _ _ h => h) (by rfl) ?_ hHeld ?_
      rotate_left
      · ((intro w hSw); (try dsimp only at hSw); go_simp <;> with_reducible rfl)
      simp only [Act.put, List.setIfInBounds_toArray, List.set_cons_zero, List.set_cons_succ]
      refine take_run 3 (some 16) (v := ?_) rfl rfl (by kernel_rfl) (by kernel_rfl) (by kernel_rfl) (fun _ _ _ h => h) (by rfl) ?_ hHeld ?_
      rotate_left
      · ((intro w hSw); (try dsimp only at hSw); go_simp <;> with_reducible rfl)
      simp only [Act.put, List.setIfInBounds_toArray, List.set_cons_zero, List.set_cons_succ]
      refine take_run 4 (some 17) (v := ?_) rfl rfl (by kernel_rfl) (by kernel_rfl) (by kernel_rfl) (fun _ _ _ h => h) (by rfl) ?_ hHeld ?_
      rotate_left
      · ((intro w hSw); (try dsimp only at hSw); go_simp <;> with_reducible rfl)
      simp only [Act.put, List.setIfInBounds_toArray, List.set_cons_zero, List.set_cons_succ]
      refine take_one 5 (by kernel_rfl) rfl (fun K hK => ?_)
      go_simp
      (refine (less_any _ _ _ _ _).mono ?_; rintro e w1 ⟨rfl, hb1⟩)
      try go_wp2_with fail
      refine hK.out _ _ (by exact ⟨((hHeld.2.2.2.2.on hb1).nth 0 rfl).at 0, ((hHeld.2.2.2.2.on hb1).nth 0 rfl).at 1, ((hHeld.2.2.2.2.on hb1).nth 1 rfl).at 2, ((hHeld.2.2.2.2.on hb1).nth 1 rfl).at 3, hHeld.2.2.2.2.on hb1⟩) (fun hHeld => ?_)
      clear hK K
      refine wpAnyH_done (by kernel_rfl) ?_ _
      refine NoPanic.normal ?_
      have hI2 : Inv w (wr.heap.size + 1) [(w.heap.size + 1, 84, #[.int .i64 y0.1, .int .i64 y0.2, .int .i64 y1.1, .int .i64 y1.2, .int .i64 y2.1, .int .i64 y2.2, .int .i64 y3.1, .int .i64 y3.2])] w1 := hHeld.2.2.2.2.sub (by simp)
      clear hHeld V0
      have hz := hI.base
      cases hl : lessB y1.1 y1.2 x1.1 x1.2
      · have HN : Hid (NoLater [x0, x1, x2, x3] [y0, y1, y2, y3] (2 : Int).toNat) := noLater_step (ts := [x0, x1, x2, x3]) (us := [y0, y1, y2, y3]) (k := 1) hno.out rfl rfl hl
        clear hno hl
        go_wp2
        exact ⟨⟨2, by omega, by omega, by go_num, HN, hI2.top⟩, by simp [intOf]⟩
      · have hf := hide (within_f (ts := [x0, x1, x2, x3]) (us := [y0, y1, y2, y3]) (k := 1) rfl rfl hl)
        clear hl hno
        go_wp2
        go_ret
        exact ⟨ret_bool hf.out.symm, hI2.below⟩
    · have V0 := (hI.top).box 49 #[.int .i64 x2.1, .int .i64 x2.2]
      simp only [World.size_alloc] at V0
      go_wp2_with fail
      generalize wr.alloc (.cells #[.int .i64 x2.1, .int .i64 x2.2] 49) = W at V0 ⊢
      refine wp_region_noPanic ?_
      refine wp_region_held_drew (S := (fun w' => w'.cell? ⟨wr.heap.size, 0, none⟩ = some (.int .i64 x2.1) ∧ w'.cell? ⟨wr.heap.size, 1, none⟩ = some (.int .i64 x2.2) ∧ w'.cell? ⟨w.heap.size + 1, 4, none⟩ = some (.int .i64 y2.1) ∧ w'.cell? ⟨w.heap.size + 1, 5, none⟩ = some (.int .i64 y2.2) ∧ Inv w (wr.heap.size + 1) [(wr.heap.size, 49, #[.int .i64 x2.1, .int .i64 x2.2]), (w.heap.size + 1, 84, #[.int .i64 y0.1, .int .i64 y0.2, .int .i64 y1.1, .int .i64 y1.2, .int .i64 y2.1, .int .i64 y2.2, .int .i64 y3.1, .int .i64 y3.2])] w')) (by kernel_rfl) (by exact ⟨(V0.nth 0 rfl).at 0, (V0.nth 0 rfl).at 1, (V0.nth 1 rfl).at 4, (V0.nth 1 rfl).at 5, V0.drew⟩) (fun hHeld => ?_)
      refine take_run 0 (some 13) (v := ?_) rfl rfl (by kernel_rfl) (by kernel_rfl) (by kernel_rfl) (fun _ _ _ h => h) (by rfl) ?_ hHeld ?_
      rotate_left
      · ((intro w hSw); (try dsimp only at hSw); go_simp <;> with_reducible rfl)
      simp only [Act.put, List.setIfInBounds_toArray, List.set_cons_zero, List.set_cons_succ]
      refine take_run 1 (some 14) (v := ?_) rfl rfl (by kernel_rfl) (by kernel_rfl) (by kernel_rfl) (fun _ _ _ h => h) (by rfl) ?_ hHeld ?_
      rotate_left
      · ((intro w hSw); (try dsimp only at hSw); go_simp <;> with_reducible rfl)
      simp only [Act.put, List.setIfInBounds_toArray, List.set_cons_zero, List.set_cons_succ]
      refine take_run 2 (some 15) (v := ?_) rfl rfl (by kernel_rfl) (by kernel_rfl) (by kernel_rfl) (fun _ _ _ h => h) (by rfl) ?_ hHeld ?_
      rotate_left
      · ((intro w hSw); (try dsimp only at hSw); go_simp <;> with_reducible rfl)
      simp only [Act.put, List.setIfInBounds_toArray, List.set_cons_zero, List.set_cons_succ]
      refine take_run 3 (some 16) (v := ?_) rfl rfl (by kernel_rfl) (by kernel_rfl) (by kernel_rfl) (fun _ _ _ h => h) (by rfl) ?_ hHeld ?_
      rotate_left
      · ((intro w hSw); (try dsimp only at hSw); go_simp <;> with_reducible rfl)
      simp only [Act.put, List.setIfInBounds_toArray, List.set_cons_zero, List.set_cons_succ]
      refine take_run 4 (some 17) (v := ?_) rfl rfl (by kernel_rfl) (by kernel_rfl) (by kernel_rfl) (fun _ _ _ h => h) (by rfl) ?_ hHeld ?_
      rotate_left
      · ((intro w hSw); (try dsimp only at hSw); go_simp <;> with_reducible rfl)
      simp only [Act.put, List.setIfInBounds_toArray, List.set_cons_zero, List.set_cons_succ]
      refine take_one 5 (by kernel_rfl) rfl (fun K hK => ?_)
      go_simp
      (refine (less_any _ _ _ _ _).mono ?_; rintro e w1 ⟨rfl, hb1⟩)
      try go_wp2_with fail
      refine hK.out _ _ (by exact ⟨((hHeld.2.2.2.2.on hb1).nth 0 rfl).at 0, ((hHeld.2.2.2.2.on hb1).nth 0 rfl).at 1, ((hHeld.2.2.2.2.on hb1).nth 1 rfl).at 4, ((hHeld.2.2.2.2.on hb1).nth 1 rfl).at 5, hHeld.2.2.2.2.on hb1⟩) (fun hHeld => ?_)
      clear hK K
      refine wpAnyH_done (by kernel_rfl) ?_ _
      refine NoPanic.normal ?_
      have hI2 : Inv w (wr.heap.size + 1) [(w.heap.size + 1, 84, #[.int .i64 y0.1, .int .i64 y0.2, .int .i64 y1.1, .int .i64 y1.2, .int .i64 y2.1, .int .i64 y2.2, .int .i64 y3.1, .int .i64 y3.2])] w1 := hHeld.2.2.2.2.sub (by simp)
      clear hHeld V0
      have hz := hI.base
      cases hl : lessB y2.1 y2.2 x2.1 x2.2
      · have HN : Hid (NoLater [x0, x1, x2, x3] [y0, y1, y2, y3] (3 : Int).toNat) := noLater_step (ts := [x0, x1, x2, x3]) (us := [y0, y1, y2, y3]) (k := 2) hno.out rfl rfl hl
        clear hno hl
        go_wp2
        exact ⟨⟨3, by omega, by omega, by go_num, HN, hI2.top⟩, by simp [intOf]⟩
      · have hf := hide (within_f (ts := [x0, x1, x2, x3]) (us := [y0, y1, y2, y3]) (k := 2) rfl rfl hl)
        clear hl hno
        go_wp2
        go_ret
        exact ⟨ret_bool hf.out.symm, hI2.below⟩
    · have V0 := (hI.top).box 49 #[.int .i64 x3.1, .int .i64 x3.2]
      simp only [World.size_alloc] at V0
      go_wp2_with fail
      generalize wr.alloc (.cells #[.int .i64 x3.1, .int .i64 x3.2] 49) = W at V0 ⊢
      refine wp_region_noPanic ?_
      refine wp_region_held_drew (S := (fun w' => w'.cell? ⟨wr.heap.size, 0, none⟩ = some (.int .i64 x3.1) ∧ w'.cell? ⟨wr.heap.size, 1, none⟩ = some (.int .i64 x3.2) ∧ w'.cell? ⟨w.heap.size + 1, 6, none⟩ = some (.int .i64 y3.1) ∧ w'.cell? ⟨w.heap.size + 1, 7, none⟩ = some (.int .i64 y3.2) ∧ Inv w (wr.heap.size + 1) [(wr.heap.size, 49, #[.int .i64 x3.1, .int .i64 x3.2]), (w.heap.size + 1, 84, #[.int .i64 y0.1, .int .i64 y0.2, .int .i64 y1.1, .int .i64 y1.2, .int .i64 y2.1, .int .i64 y2.2, .int .i64 y3.1, .int .i64 y3.2])] w')) (by kernel_rfl) (by exact ⟨(V0.nth 0 rfl).at 0, (V0.nth 0 rfl).at 1, (V0.nth 1 rfl).at 6, (V0.nth 1 rfl).at 7, V0.drew⟩) (fun hHeld => ?_)
      refine take_run 0 (some 13) (v := ?_) rfl rfl (by kernel_rfl) (by kernel_rfl) (by kernel_rfl) (fun _ _ _ h => h) (by rfl) ?_ hHeld ?_
      rotate_left
      · ((intro w hSw); (try dsimp only at hSw); go_simp <;> with_reducible rfl)
      simp only [Act.put, List.setIfInBounds_toArray, List.set_cons_zero, List.set_cons_succ]
      refine take_run 1 (some 14) (v := ?_) rfl rfl (by kernel_rfl) (by kernel_rfl) (by kernel_rfl) (fun _ _ _ h => h) (by rfl) ?_ hHeld ?_
      rotate_left
      · ((intro w hSw); (try dsimp only at hSw); go_simp <;> with_reducible rfl)
      simp only [Act.put, List.setIfInBounds_toArray, List.set_cons_zero, List.set_cons_succ]
      refine take_run 2 (some 15) (v := ?_) rfl rfl (by kernel_rfl) (by kernel_rfl) (by kernel_rfl) (fun _ _ _ h => h) (by rfl) ?_ hHeld ?_
      rotate_left
      · ((intro w hSw); (try dsimp only at hSw); go_simp <;> with_reducible rfl)
      simp only [Act.put, List.setIfInBounds_toArray, List.set_cons_zero, List.set_cons_succ]
      refine take_run 3 (some 16) (v := ?_) rfl rfl (by kernel_rfl) (by kernel_rfl) (by kernel_rfl) (fun _ _ _ h => h) (by rfl) ?_ hHeld ?_
      rotate_left
      · ((intro w hSw); (try dsimp only at hSw); go_simp <;> with_reducible rfl)
      simp only [Act.put, List.setIfInBounds_toArray, List.set_cons_zero, List.set_cons_succ]
      refine take_run 4 (some 17) (v := ?_) rfl rfl (by kernel_rfl) (by kernel_rfl) (by kernel_rfl) (fun _ _ _ h => h) (by rfl) ?_ hHeld ?_
      rotate_left
      · ((intro w hSw); (try dsimp only at hSw); go_simp <;> with_reducible rfl)
      simp only [Act.put, List.setIfInBounds_toArray, List.set_cons_zero, List.set_cons_succ]
      refine take_one 5 (by kernel_rfl) rfl (fun K hK => ?_)
      go_simp
      (refine (less_any _ _ _ _ _).mono ?_; rintro e w1 ⟨rfl, hb1⟩)
      try go_wp2_with fail
      refine hK.out _ _ (by exact ⟨((hHeld.2.2.2.2.on hb1).nth 0 rfl).at 0, ((hHeld.2.2.2.2.on hb1).nth 0 rfl).at 1, ((hHeld.2.2.2.2.on hb1).nth 1 rfl).at 6, ((hHeld.2.2.2.2.on hb1).nth 1 rfl).at 7, hHeld.2.2.2.2.on hb1⟩) (fun hHeld => ?_)
      clear hK K
      refine wpAnyH_done (by kernel_rfl) ?_ _
      refine NoPanic.normal ?_
      have hI2 : Inv w (wr.heap.size + 1) [(w.heap.size + 1, 84, #[.int .i64 y0.1, .int .i64 y0.2, .int .i64 y1.1, .int .i64 y1.2, .int .i64 y2.1, .int .i64 y2.2, .int .i64 y3.1, .int .i64 y3.2])] w1 := hHeld.2.2.2.2.sub (by simp)
      clear hHeld V0
      have hz := hI.base
      cases hl : lessB y3.1 y3.2 x3.1 x3.2
      · have HN : Hid (NoLater [x0, x1, x2, x3] [y0, y1, y2, y3] (4 : Int).toNat) := noLater_step (ts := [x0, x1, x2, x3]) (us := [y0, y1, y2, y3]) (k := 3) hno.out rfl rfl hl
        clear hno hl
        go_wp2
        exact ⟨⟨4, by omega, by omega, by go_num, HN, hI2.top⟩, by simp [intOf]⟩
      · have hf := hide (within_f (ts := [x0, x1, x2, x3]) (us := [y0, y1, y2, y3]) (k := 3) rfl rfl hl)
        clear hl hno
        go_wp2
        go_ret
        exact ⟨ret_bool hf.out.symm, hI2.below⟩
    · have hf := hide (within_t (ts := [x0, x1, x2, x3]) (us := [y0, y1, y2, y3]) rfl hno.out)
      clear hno
      go_wp2
      go_ret
      exact ⟨ret_bool hf.out.symm, hI.below⟩

/-- What PastWithin answers. -/
def pwB (ts us : List (Int × Int)) : Bool := pastB ts && pastB us && withinB ts us
theorem pwB_1 {ts us : List (Int × Int)} (h : pastB ts = false) : pwB ts us = false := by unfold pwB; simp [h]
theorem pwB_2 {ts us : List (Int × Int)} (h : pastB us = false) : pwB ts us = false := by unfold pwB; simp [h]
theorem pwB_3 {ts us : List (Int × Int)} (h : pastB ts = true) (h' : pastB us = true) : pwB ts us = withinB ts us := by unfold pwB; simp [h, h']

set_option maxHeartbeats 1000000 in
theorem implPastWithin_any (a a' : Option Addr) (c c' : Nat) (ts us : List (Int × Int)) (w : World) (hn : ts.length ≤ 1048576) (hn' : us.length ≤ 1048576) (ht : Tg w w.heap.size a ts) (hu : Tg w w.heap.size a' us) :
    Calls Tryz.prog 13 #[.agg #[.slice a ts.length c], .agg #[.slice a' us.length c']] w fun e w' => e = .returned (.bool (pwB ts us)) ∧ Below w.heap.size w w' := by
  have S0 := ((Inv.start w).box 41 #[.slice a ts.length c]).box 41 #[.slice a' us.length c']
  simp only [World.size_alloc] at S0
  go_enter Tryz.func13, Tryz.ntmps13
  go_wp2_with fail
  generalize (w.alloc (.cells #[.slice a ts.length c] 41)).alloc (.cells #[.slice a' us.length c'] 41) = W at S0 ⊢
  refine (vectorOf_any a c ts W hn ((ht.on S0.below).up S0.base)).mono ?_
  rintro e w1 ⟨h1, h2, hb1⟩
  cases hp : pastB ts
  · have he := h2 hp
    have hf := hide (pwB_1 (us := us) hp)
    subst he
    have S1 := ((S0.on hb1).top).box 84 zero8
    have k1 := (S1.nth 1 rfl).one.1
    clear h1 h2 hp S0
    go_wp2_with fail
    generalize w1.alloc (.cells zero8 84) = W1 at S1 k1 ⊢
    refine (vectorOf_any a' c' us W1 hn' ((hu.on S1.below).up S1.base)).mono ?_
    rintro e w2 ⟨h1, h2, hb2⟩
    have S2 := S1.on hb2
    clear k1 S1
    cases hq : pastB us
    · have he := h2 hq
      subst he
      clear h1 h2 hq
      go_wp2
      go_ret
      exact ⟨ret_bool hf.out.symm, (S2.alloc _).below⟩
    · have he := h1 hq
      obtain ⟨y0, y1, y2, y3, rfl⟩ := four_of hq
      rw [cells4_eq] at he
      subst he
      clear h1 h2 hq
      go_wp2
      go_ret
      exact ⟨ret_bool hf.out.symm, (S2.alloc _).below⟩
  · have he := h1 hp
    obtain ⟨x0, x1, x2, x3, rfl⟩ := four_of hp
    rw [cells4_eq] at he
    subst he
    have S1 := ((S0.on hb1).top).box 84 #[.int .i64 x0.1, .int .i64 x0.2, .int .i64 x1.1, .int .i64 x1.2, .int .i64 x2.1, .int .i64 x2.2, .int .i64 x3.1, .int .i64 x3.2]
    have k1 := (S1.nth 1 rfl).one.1
    clear h1 h2 S0
    go_wp2_with fail
    generalize w1.alloc (.cells #[.int .i64 x0.1, .int .i64 x0.2, .int .i64 x1.1, .int .i64 x1.2, .int .i64 x2.1, .int .i64 x2.2, .int .i64 x3.1, .int .i64 x3.2] 84) = W1 at S1 k1 ⊢
    refine (vectorOf_any a' c' us W1 hn' ((hu.on S1.below).up S1.base)).mono ?_
    rintro e w2 ⟨h1, h2, hb2⟩
    have S2 := S1.on hb2
    clear k1 S1
    cases hq : pastB us
    · have he := h2 hq
      have hf := hide (pwB_2 (ts := [x0, x1, x2, x3]) hq)
      subst he
      clear h1 h2 hq hp
      go_wp2
      go_ret
      exact ⟨ret_bool hf.out.symm, (S2.alloc _).below⟩
    · have he := h1 hq
      have hf := hide (pwB_3 hp hq)
      obtain ⟨y0, y1, y2, y3, rfl⟩ := four_of hq
      rw [cells4_eq] at he
      subst he
      have S3 := (S2.top).box 84 #[.int .i64 y0.1, .int .i64 y0.2, .int .i64 y1.1, .int .i64 y1.2, .int .i64 y2.1, .int .i64 y2.2, .int .i64 y3.1, .int .i64 y3.2]
      have E1 := (S3.nth 1 rfl).eight.1
      clear h1 h2 hq hp S2
      go_wp2_with fail
      generalize w2.alloc (.cells #[.int .i64 y0.1, .int .i64 y0.2, .int .i64 y1.1, .int .i64 y1.2, .int .i64 y2.1, .int .i64 y2.2, .int .i64 y3.1, .int .i64 y3.2] 84) = W2 at S3 E1 ⊢
      refine (within_any x0 x1 x2 x3 y0 y1 y2 y3 W2).mono ?_
      rintro e w3 ⟨rfl, hb3⟩
      have S4 := S3.on hb3
      clear S3 E1
      go_wp2
      go_ret
      exact ⟨ret_bool hf.out.symm, S4.below⟩
end Go.Proofs.YtjnloillcgeodaaGreat
/- Plain facts on vectors: within, joined, the same. -/
namespace Go.Proofs.YtjnloillcgeodaaGreat

theorem pw_iff {ts us : List (Int × Int)} (ht : pastB ts = true) (hu : pastB us = true) : pwB ts us = true ↔ ∀ (i : Nat) x y, ts[i]? = some x → us[i]? = some y → lessB y.1 y.2 x.1 x.2 = false := by
  unfold pwB withinB
  rw [ht, hu]
  simp only [Bool.and_self, Bool.true_and, List.all_eq_true, Bool.not_eq_true']
  constructor
  · intro h i x y hx hy
    exact h (x, y) (List.mem_of_getElem? (i := i) (by rw [List.getElem?_zip_eq_some]; exact ⟨hx, hy⟩))
  · intro h p hp
    obtain ⟨i, hi⟩ := List.getElem?_of_mem hp
    rw [List.getElem?_zip_eq_some] at hi
    exact h i p.1 p.2 hi.1 hi.2
end Go.Proofs.YtjnloillcgeodaaGreat
/- Plain facts on vectors that are joined. -/
namespace Go.Proofs.YtjnloillcgeodaaGreat

end Go.Proofs.YtjnloillcgeodaaGreat
/- Plain facts on stores that are added to and joined. -/
namespace Go.Proofs.YtjnloillcgeodaaGreat

/-- The later one of two versions. -/
def later (x y : V) : V := if lessB x.t x.u y.t y.u = true then y else x
theorem slot_tag {i : Nat} {v : V} (h : slotB i v = true) : okB v.t v.u = true := by
  cases hn : noneC v.k v.t v.u v.ts.length v.s v.g with
  | true =>
    unfold noneC at hn
    simp at hn
    rw [hn.1.1.1.2.1, hn.1.1.1.2.2]
    decide
  | false =>
    cases ho : okB v.t v.u with
    | true => rfl
    | false =>
      rw [slotB_bad hn (verB_f (.inr (.inr (.inl ho))))] at h
      cases h
theorem slot_own {i : Nat} {v : V} (h : slotB i v = true) (ht : 0 < v.t) : v.k = i := by
  have hn : noneC v.k v.t v.u v.ts.length v.s v.g = false := noneC_f (.inr (.inl (by omega)))
  apply Classical.byContradiction
  intro hk
  rw [slotB_key hn hk] at h
  cases h
theorem ver_key {v : V} (h : verV v = true) : 0 ≤ v.k ∧ v.k ≤ 3 := by
  apply Classical.byContradiction
  intro hn
  unfold verV at h
  rw [verB_f (.inl hn)] at h
  cases h
theorem past_tags {vs : List V} (hv : storeB vs = true) : pastB (tagsL vs) = true := by
  unfold pastB
  rw [decide_eq_true (by rw [tagsL_len]; exact storeB_four hv), Bool.true_and, List.all_eq_true]
  intro x hx
  unfold tagsL at hx
  rw [List.mem_map] at hx
  obtain ⟨v, hv', rfl⟩ := hx
  obtain ⟨i, hi⟩ := List.getElem?_of_mem hv'
  exact slot_tag (store_slot hv hi)
theorem no_bytes : (ByteArray.mk #[]).toList = [] := by
  rw [ByteArray.toList, ByteArray.toList.loop, if_neg (by decide)]
  rfl
end Go.Proofs.YtjnloillcgeodaaGreat
/- A version that comes to a valid chain, or is passed on in one, leaves it valid; what all nodes have is no less. No condition. -/
namespace Go.Proofs.YtjnloillcgeodaaGreat
open Go.RowKit Go.Joins

theorem walkL_cons (us r : List V) (v : V) : walkL us (v :: r) = (stepL us v).bind fun us => walkL us r := by
  unfold walkL
  rw [List.foldl_cons]
  cases h : stepL us v with
  | none =>
    show r.foldl _ (stepL us v) = none
    rw [h]
    exact walk_none r
  | some x =>
    show r.foldl _ (stepL us v) = _
    rw [h]
    rfl
theorem linkB_parts {n m : Nd} (h : linkB n m = true) : ∃ us, walkL m.ss n.ws = some us ∧ LL us n.ss := by
  unfold linkB at h
  split at h
  · rename_i us hu
    exact ⟨us, hu, (likesB_ll _ _).1 h⟩
  · cases h
theorem linkB_mk {n m : Nd} {us : List V} (h : walkL m.ss n.ws = some us) (hl : LL us n.ss) : linkB n m = true := by
  rw [linkB_some h]
  exact (likesB_ll _ _).2 hl
theorem link_tail {n m : Nd} (h : linkB n m = true) : ∀ m', m'.ss = m.ss → linkB n m' = true := fun m' e => by
  obtain ⟨us, hu, hl⟩ := linkB_parts h
  exact linkB_mk (us := us) (by rw [e]; exact hu) hl
/-- The two halves of what a step asks. -/
theorem stepB_link {ns : List Nd} {k : Nat} {n m : Nd} (hn : ns[k]? = some n) (hm : ns[k + 1]? = some m) : stepB ns k = linkB n m := by unfold stepB; rw [hn, hm]
theorem stepB_end {ns : List Nd} {k : Nat} {n : Nd} (hn : ns[k]? = some n) (hm : ns[k + 1]? = none) : stepB ns k = decide (n.ws.length = 0) := by unfold stepB; rw [hn, hm]
/-- A chain, link by link. -/
theorem chain_link {ns : List Nd} {k : Nat} {n m : Nd} (h : chainB ns = true) (hn : ns[k]? = some n) (hm : ns[k + 1]? = some m) : linkB n m = true := by
  rw [← stepB_link hn hm]
  exact (chainB_parts h).2.2 k (List.getElem?_eq_some_iff.1 hn).1
theorem chain_end {ns : List Nd} {n : Nd} {k : Nat} (h : chainB ns = true) (hk : k + 1 = ns.length) (hn : ns[k]? = some n) : n.ws = [] := by
  have := (chainB_parts h).2.2 k (by omega)
  rw [stepB_end hn (List.getElem?_eq_none (by omega)), decide_eq_true_eq] at this
  exact List.length_eq_zero_iff.1 this
theorem chain_mk {ns : List Nd} (h0 : 1 ≤ ns.length ∧ ns.length ≤ 4) (h1 : ∀ (i : Nat) n, ns[i]? = some n → nodeB n = true) (h2 : ∀ (i : Nat) n m, ns[i]? = some n → ns[i + 1]? = some m → linkB n m = true) (h3 : ∀ (i : Nat) n, i + 1 = ns.length → ns[i]? = some n → n.ws = []) : chainB ns = true := by
  refine chainB_ok h0 h1 (fun i hi => ?_)
  obtain ⟨n, hn⟩ : ∃ n, ns[i]? = some n := ⟨_, List.getElem?_eq_getElem hi⟩
  by_cases e : i + 1 < ns.length
  · obtain ⟨m, hm⟩ : ∃ m, ns[i + 1]? = some m := ⟨_, List.getElem?_eq_getElem e⟩
    rw [stepB_link hn hm]
    exact h2 i n m hn hm
  · rw [stepB_end hn (List.getElem?_eq_none (by omega)), decide_eq_true_eq]
    rw [h3 i n (by omega) hn]
    rfl
theorem set_at {α : Type} {l : List α} {i j : Nat} {x y : α} (h : (l.set i x)[j]? = some y) : (j = i ∧ y = x ∧ i < l.length) ∨ (j ≠ i ∧ l[j]? = some y) := by
  by_cases e : j = i
  · subst e
    have hl : j < l.length := by have := (List.getElem?_eq_some_iff.1 h).1; rw [List.length_set] at this; exact this
    rw [List.getElem?_set_self hl] at h
    injection h with h
    exact .inl ⟨rfl, h.symm, hl⟩
  · rw [List.getElem?_set_ne (fun q => e q.symm)] at h
    exact .inr ⟨e, h⟩
/-- A store that is nowhere earlier has no less tags. -/
theorem tags_within {us vs : List V} (hu : storeB us = true) (hv : storeB vs = true) (h : ∀ (i : Nat) x y, us[i]? = some x → vs[i]? = some y → lessB y.t y.u x.t x.u = false) : pwB (tagsR us) (tagsR vs) = true := by
  unfold tagsR
  rw [if_pos hu, if_pos hv, pw_iff (past_tags hu) (past_tags hv)]
  intro i x y hx hy
  unfold tagsL at hx hy
  rw [List.getElem?_map] at hx hy
  cases h1 : us[i]? with
  | none => rw [h1] at hx; cases hx
  | some a =>
    cases h2 : vs[i]? with
    | none => rw [h2] at hy; cases hy
    | some b =>
      rw [h1] at hx
      rw [h2] at hy
      injection hx with hx
      injection hy with hy
      subst hx hy
      exact h i a b h1 h2
theorem chain_last {ns : List Nd} (h : chainB ns = true) : ∃ p n, ns.length = p + 1 ∧ ns[p]? = some n ∧ storeB n.ss = true ∧ stableR ns = tagsR n.ss := by
  obtain ⟨h0, h1, _⟩ := chainB_parts h
  obtain ⟨p, hp⟩ : ∃ p, ns.length = p + 1 := ⟨ns.length - 1, by omega⟩
  obtain ⟨n, hn⟩ : ∃ n, ns[p]? = some n := ⟨_, List.getElem?_eq_getElem (by omega)⟩
  exact ⟨p, n, hp, hn, (nodeB_parts (h1 p n hn)).1, stableR_yes h hp hn⟩
end Go.Proofs.YtjnloillcgeodaaGreat
/- What the promises on chains share: drawn chains are small; the answers of the program and of the model are the same; cells of a chain's nodes. No condition. -/
namespace Go.Proofs.YtjnloillcgeodaaGreat
open Go.RowKit Go.Joins

theorem fewN_small {ns : List Nd} (h : FewN ns) : SmallN ns := fun n hn => by
  obtain ⟨⟨h1, h2⟩, h3, h4⟩ := h.2 n hn
  exact ⟨by omega, by omega, fun v hv => by have := (h2 v hv).1; omega, fun v hv => by have := (h4 v hv).1; omega⟩
theorem cgA_at {w : World} {A : Option Addr} {ns : List Nd} (h : CgA w A ns) (h0 : 1 ≤ ns.length) : ∃ G cur, A = some ⟨G, 0, none⟩ ∧ Cg w G ns cur := by
  rcases h with h | h
  · rw [h] at h0
    simp at h0
  · exact h
theorem len_ss {ns : List Nd} {i : Nat} {n : Nd} (h : SmN ns) (hi : ns[i]? = some n) : n.ss.length ≤ 1048576 := (h i n hi).1.1
theorem ts_ss {ns : List Nd} {i : Nat} {n : Nd} (h : SmN ns) (hi : ns[i]? = some n) : ∀ v ∈ n.ss, v.ts.length ≤ 1048576 := fun v hv => ((h i n hi).2.1 v hv).1
theorem nl_same (ns : List Nd) : NL ns ns := ⟨rfl, fun i x y hx hy => by rw [hx] at hy; injection hy with hy; rw [hy]; exact ⟨rfl, like_refl _, rfl, like_refl _⟩⟩
theorem none_v0 : noneC v0.k v0.t v0.u v0.ts.length v0.s v0.g = true := noneC_t (by show (ByteArray.mk #[]).toList.isEmpty = true; rw [no_bytes]; rfl)
theorem ver_size {v : V} (h : verV v = true) : v.s.size ≤ 9223372036854775807 := by
  have := textB_size (verB_parts h).2.1
  omega
theorem slot_size {i : Nat} {v : V} (h : slotB i v = true) : v.s.size ≤ 9223372036854775807 := by
  by_cases ht : v.t = 0
  · have e := (none_like (slot_none h ht) none_v0).2.2.2.2.1
    rw [e]
    exact (by decide : (ByteArray.mk #[]).size ≤ 9223372036854775807)
  · exact ver_size (slot_ver h ht)
theorem fine_sm {us : List Nd} (h : FineN us) : SmN us := fun i n hi => by
  obtain ⟨⟨q1, q2⟩, q3, q4⟩ := node_ts (h.2 i n hi)
  obtain ⟨r1, _, r3⟩ := nodeB_parts (h.2 i n hi)
  refine ⟨⟨by omega, by omega⟩, fun v hv => ⟨by have := q2 v hv; omega, ?_⟩, fun v hv => ⟨by have := q4 v hv; omega, ver_size (r3 v hv)⟩⟩
  obtain ⟨j, hj⟩ := List.getElem?_of_mem hv
  exact slot_size (store_slot r1 hj)
end Go.Proofs.YtjnloillcgeodaaGreat
