/- The law FnChainPut (promise 13) holds: of a drawn chain and a drawn version the program's ChainPut answers as the model's; of a chain that is ok, and a version that is, if there is room, what came to the head is at the head, and the others are as they were. No condition. -/
import Derived.Test.YtjnloillcgeodaaJVerOk0
import Derived.Test.YtjnloillcgeodaaJCfStores
import Derived.Test.YtjnloillcgeodaaJFnChainKit
import Derived.Test.YtjnloillcgeodaaJLackPure
import Derived.Test.YtjnloillcgeodaaJLift0
namespace Go.Proofs.Ytjnloillcgeodaa.FnChainPut
open Go.ChangeShapes Go.WideShapes Go.ChangeAt Go.RowKit Go.Joins
attribute [local go_sem ↓] Go.wp_at_zero Go.wp_at_succ

set_option maxRecDepth 100000 in
set_option maxHeartbeats 8000000 in
theorem walk (a : Option Addr) (len cap : Nat) (w : World) (hc : Code0 w a len cap) :
    Calls Try.prog 3 #[.slice a len cap] w fun e w' => e = .returned (.bool true) ∧ Below w.heap.size w w' := by
  by_cases h1 : 1048576 < len
  · have h1' : (1048576 : Int) < (len : Int) := by omega
    go_enter Try.func3, Try.ntmps3
    go_wp2
    go_ret
    exact ⟨rfl, Below.refl _ _⟩
  have h1' : (len : Int) ≤ 1048576 := by omega
  go_enter Try.func3, Try.ntmps3
  go_wp2_with fail
  refine (drawChainPut_any w a len cap hc (by omega)).mono ?_
  rintro e w1 ⟨A1, c1, ns, v, rfl, hf, hv4, hv16, hC1, ht1, ho1, hb1⟩
  have hn : ns.length ≤ 1048576 := by have := hf.1; omega
  have SM := hide (fewN_sm hf)
  have SL := hide (fewN_small hf)
  have hv4' : v.ts.length ≤ 1048576 := by omega
  have hs' : v.s.size ≤ 9223372036854775807 := by omega
  have LA := below_alloc2 w1 (.cells #[.slice A1 ns.length c1] 25) (.cells (verC v.k v.t v.u v.a v.ts.length v.c v.s v.g) 32)
  have B3 : Blk ((w1.alloc (.cells #[.slice A1 ns.length c1] 25)).alloc (.cells (verC v.k v.t v.u v.a v.ts.length v.c v.s v.g) 32)) w1.heap.size 25 #[.slice A1 ns.length c1] := (Blk.made _ _ _).more _
  have B4 := Blk.made (w1.alloc (.cells #[.slice A1 ns.length c1] 25)) 32 (verC v.k v.t v.u v.a v.ts.length v.c v.s v.g)
  simp only [World.size_alloc] at B4
  have CN := hC1.on LA
  have TV := (ht1.on LA).up LA.size
  have HO : Hid (∀ W, Below ((w1.alloc (.cells #[.slice A1 ns.length c1] 25)).alloc (.cells (verC v.k v.t v.u v.a v.ts.length v.c v.s v.g) 32)).heap.size ((w1.alloc (.cells #[.slice A1 ns.length c1] 25)).alloc (.cells (verC v.k v.t v.u v.a v.ts.length v.c v.s v.g) 32)) W → verV v = true → Own1 W 0 W.heap.size v) := fun W hW q => ((((ho1 (verV_four q)).on LA).wide LA.size).on hW).wide hW.size
  have L0 := hb1.trans (LA.mono hb1.size)
  have k4 := B4.six.1
  have k3 := B3.one.1
  clear hC1 ht1 ho1 LA hb1 hc hf
  go_wp2_with fail
  generalize (w1.alloc (.cells #[.slice A1 ns.length c1] 25)).alloc (.cells (verC v.k v.t v.u v.a v.ts.length v.c v.s v.g) 32) = W1 at B3 B4 CN TV HO L0 k4 k3 ⊢
  generalize w1.heap.size + 1 = p4 at *
  generalize w1.heap.size = p3 at *
  with_reducible refine (implChainPutT_any A1 c1 ns v W1 hn SM.out CN hv4' hs' TV (HO.out W1 (Below.refl _ _))).mono ?_
  rintro e w2 ⟨A5, cap5, us5, rfl, hn5, R5, hb2⟩
  have HN5 := hide hn5
  have LB := hb2.trans ((below_alloc1 w2 (.cells #[.slice A5 (putN ns v).length cap5] 25)).mono hb2.size)
  replace B3 := B3.on LB
  replace B4 := B4.on LB
  have B5 := Blk.made w2 25 #[.slice A5 (putN ns v).length cap5]
  replace CN := CN.on LB
  replace TV := (TV.on LB).up LB.size
  have C5 := R5.cg.on (below_alloc1 w2 (.cells #[.slice A5 (putN ns v).length cap5] 25))
  replace L0 := L0.trans (LB.mono L0.size)
  replace k4 := B4.six.1
  replace k3 := B3.one.1
  clear hn5 R5 hb2
  go_wp2_with fail
  generalize w2.alloc (.cells #[.slice A5 (putN ns v).length cap5] 25) = W2 at B3 B4 B5 CN TV C5 L0 k4 k3 LB ⊢
  generalize w2.heap.size = p5 at *
  with_reducible refine (specChainPutT_any A1 c1 ns v W2 hn SM.out CN hv4' hs' TV (HO.out W2 LB)).mono ?_
  rintro e w3 ⟨A7, cap7, us7, rfl, hn7, R7, hb3⟩
  have HN7 := hide hn7
  have LD := hb3.trans ((below_alloc1 w3 (.cells #[.slice A7 (putN ns v).length cap7] 25)).mono hb3.size)
  replace B3 := B3.on LD
  replace B4 := B4.on LD
  replace B5 := B5.on LD
  have B7 := Blk.made w3 25 #[.slice A7 (putN ns v).length cap7]
  replace CN := CN.on LD
  replace TV := (TV.on LD).up LD.size
  replace C5 := C5.on LD
  have C7 := R7.cg.on (below_alloc1 w3 (.cells #[.slice A7 (putN ns v).length cap7] 25))
  replace L0 := L0.trans (LD.mono L0.size)
  clear hn7 R7 hb3 LB HO k4 k3
  go_wp2_with fail
  generalize w3.alloc (.cells #[.slice A7 (putN ns v).length cap7] 25) = W at B3 B4 B5 B7 CN TV C5 C7 L0 ⊢
  generalize w3.heap.size = p7 at *
  clear LD
  have LR := Below.refl W.heap.size W
  have PF := hide (putN_fine ns v)
  have hpl : (putN ns v).length ≤ 1048576 := by have := PF.out.1; omega
  cases ho : chainB ns
  · have HE := putN_no (ns := ns) (v := v) (by rw [ho]; simp)
    rw [HE.1] at HN5 HN7 B5 B7 PF hpl
    simp only [HE.2]
    have HP := hide ho
    clear ho HE
    refine wp_region_noPanic ?_
    refine wp_region_held_drew (S := (fun w' => (w'.cell? ⟨p3, 0, none⟩ = some (.slice A1 ns.length c1) ∧ (w'.cell? ⟨p4, 0, none⟩ = some (.int .i64 v.k) ∧ w'.cell? ⟨p4, 1, none⟩ = some (.int .i64 v.t) ∧ w'.cell? ⟨p4, 2, none⟩ = some (.int .i64 v.u) ∧ w'.cell? ⟨p4, 3, none⟩ = some (.slice v.a v.ts.length v.c) ∧ w'.cell? ⟨p4, 4, none⟩ = some (.string v.s) ∧ w'.cell? ⟨p4, 5, none⟩ = some (.bool v.g)) ∧ w'.cell? ⟨p5, 0, none⟩ = some (.slice A5 ([] : List Nd).length cap5) ∧ w'.cell? ⟨p7, 0, none⟩ = some (.slice A7 ([] : List Nd).length cap7)) ∧ Below W.heap.size W w')) (by kernel_rfl) (by exact ⟨⟨(B3.on ((LR).drew)).at 0, (B4.on ((LR).drew)).six.1, (B5.on ((LR).drew)).at 0, (B7.on ((LR).drew)).at 0⟩, (LR).drew⟩) (fun hHeld => ?_)
    refine take_run 0 (some 30) (v := ?_) rfl rfl (by kernel_rfl) (by kernel_rfl) (by kernel_rfl) (fun _ _ _ h => h) (by rfl) ?_ hHeld ?_
    rotate_left
    · ((intro w hSw); (try dsimp only at hSw); go_simp <;> with_reducible rfl)
    simp only [Act.put, List.setIfInBounds_toArray, List.set_cons_zero, List.set_cons_succ]
    refine take_run 1 (some 31) (v := ?_) rfl rfl (by kernel_rfl) (by kernel_rfl) (by kernel_rfl) (fun _ _ _ h => h) (by rfl) ?_ hHeld ?_
    rotate_left
    · ((intro w hSw); (try dsimp only at hSw); go_simp <;> with_reducible rfl)
    simp only [Act.put, List.setIfInBounds_toArray, List.set_cons_zero, List.set_cons_succ]
    refine take_run 2 (some 32) (v := ?_) rfl rfl (by kernel_rfl) (by kernel_rfl) (by kernel_rfl) (fun _ _ _ h => h) (by rfl) ?_ hHeld ?_
    rotate_left
    · ((intro w hSw); (try dsimp only at hSw); go_simp <;> with_reducible rfl)
    simp only [Act.put, List.setIfInBounds_toArray, List.set_cons_zero, List.set_cons_succ]
    refine take_run 3 (some 33) (v := ?_) rfl rfl (by kernel_rfl) (by kernel_rfl) (by kernel_rfl) (fun _ _ _ h => h) (by rfl) ?_ hHeld ?_
    rotate_left
    · ((intro w hSw); (try dsimp only at hSw); go_simp <;> with_reducible rfl)
    simp only [Act.put, List.setIfInBounds_toArray, List.set_cons_zero, List.set_cons_succ]
    refine take_run 4 (some 34) (v := ?_) rfl rfl (by kernel_rfl) (by kernel_rfl) (by kernel_rfl) (fun _ _ _ h => h) (by rfl) ?_ hHeld ?_
    rotate_left
    · ((intro w hSw); (try dsimp only at hSw); go_simp <;> with_reducible rfl)
    simp only [Act.put, List.setIfInBounds_toArray, List.set_cons_zero, List.set_cons_succ]
    refine take_run 5 (some 35) (v := ?_) rfl rfl (by kernel_rfl) (by kernel_rfl) (by kernel_rfl) (fun _ _ _ h => h) (by rfl) ?_ hHeld ?_
    rotate_left
    · ((intro w hSw); (try dsimp only at hSw); go_simp <;> with_reducible rfl)
    simp only [Act.put, List.setIfInBounds_toArray, List.set_cons_zero, List.set_cons_succ]
    refine take_one 6 (by kernel_rfl) rfl (fun K hK => ?_)
    go_simp
    ((refine (cfChain_nl (rs := []) PF.out.small hpl HN5.out HN7.out (C5.on hHeld.2) (C7.on hHeld.2)).mono ?_; rintro e wa6 ⟨rfl, hb⟩))
    try go_wp2_with fail
    refine hK.out _ _ (by exact ⟨⟨(B3.on (hHeld.2.trans (hb.mono hHeld.2.size))).at 0, (B4.on (hHeld.2.trans (hb.mono hHeld.2.size))).six.1, (B5.on (hHeld.2.trans (hb.mono hHeld.2.size))).at 0, (B7.on (hHeld.2.trans (hb.mono hHeld.2.size))).at 0⟩, hHeld.2.trans (hb.mono hHeld.2.size)⟩) (fun hHeld => ?_)
    clear hK K
    refine take_run 7 (some 37) (v := ?_) rfl rfl (by kernel_rfl) (by kernel_rfl) (by kernel_rfl) (fun _ _ _ h => h) (by rfl) ?_ hHeld ?_
    rotate_left
    · ((intro w hSw); (try dsimp only at hSw); go_simp <;> with_reducible rfl)
    simp only [Act.put, List.setIfInBounds_toArray, List.set_cons_zero, List.set_cons_succ]
    refine take_run 8 (some 38) (v := ?_) rfl rfl (by kernel_rfl) (by kernel_rfl) (by kernel_rfl) (fun _ _ _ h => h) (by rfl) ?_ hHeld ?_
    rotate_left
    · ((intro w hSw); (try dsimp only at hSw); go_simp <;> with_reducible rfl)
    simp only [Act.put, List.setIfInBounds_toArray, List.set_cons_zero, List.set_cons_succ]
    refine take_run 9 (some 39) (v := ?_) rfl rfl (by kernel_rfl) (by kernel_rfl) (by kernel_rfl) (fun _ _ _ h => h) (by rfl) ?_ hHeld ?_
    rotate_left
    · ((intro w hSw); (try dsimp only at hSw); go_simp <;> with_reducible rfl)
    simp only [Act.put, List.setIfInBounds_toArray, List.set_cons_zero, List.set_cons_succ]
    refine take_run 10 (some 40) (v := ?_) rfl rfl (by kernel_rfl) (by kernel_rfl) (by kernel_rfl) (fun _ _ _ h => h) (by rfl) ?_ hHeld ?_
    rotate_left
    · ((intro w hSw); (try dsimp only at hSw); go_simp <;> with_reducible rfl)
    simp only [Act.put, List.setIfInBounds_toArray, List.set_cons_zero, List.set_cons_succ]
    refine take_run 12 (some 42) (v := ?_) rfl rfl (by kernel_rfl) (by kernel_rfl) (by kernel_rfl) (fun _ _ _ h => h) (by rfl) ?_ hHeld ?_
    rotate_left
    · ((intro w hSw); (try dsimp only at hSw); go_simp <;> with_reducible rfl)
    simp only [Act.put, List.setIfInBounds_toArray, List.set_cons_zero, List.set_cons_succ]
    refine take_one 11 (by kernel_rfl) rfl (fun K hK => ?_)
    go_simp
    ((refine (implChainOk_any A1 c1 ns _ hn SM.out (CN.on hHeld.2)).mono ?_; rintro e wb11 ⟨rfl, hb⟩; rw [HP.out]))
    try go_wp2_with fail
    refine hK.out _ _ (by exact ⟨⟨(B3.on (hHeld.2.trans (hb.mono hHeld.2.size))).at 0, (B4.on (hHeld.2.trans (hb.mono hHeld.2.size))).six.1, (B5.on (hHeld.2.trans (hb.mono hHeld.2.size))).at 0, (B7.on (hHeld.2.trans (hb.mono hHeld.2.size))).at 0⟩, hHeld.2.trans (hb.mono hHeld.2.size)⟩) (fun hHeld => ?_)
    clear hK K
    refine take_one 13 (by kernel_rfl) rfl (fun K hK => ?_)
    go_simp
    ((refine (specChainOk_any A1 c1 ns _ hn SM.out (CN.on hHeld.2)).mono ?_; rintro e wc13 ⟨rfl, hb⟩; rw [HP.out]))
    try go_wp2_with fail
    refine hK.out _ _ (by exact ⟨⟨(B3.on (hHeld.2.trans (hb.mono hHeld.2.size))).at 0, (B4.on (hHeld.2.trans (hb.mono hHeld.2.size))).six.1, (B5.on (hHeld.2.trans (hb.mono hHeld.2.size))).at 0, (B7.on (hHeld.2.trans (hb.mono hHeld.2.size))).at 0⟩, hHeld.2.trans (hb.mono hHeld.2.size)⟩) (fun hHeld => ?_)
    clear hK K
    refine take_run 14 (some 44) (v := ?_) rfl rfl (by kernel_rfl) (by kernel_rfl) (by kernel_rfl) (fun _ _ _ h => h) (by rfl) ?_ hHeld ?_
    rotate_left
    · ((intro w hSw); (try dsimp only at hSw); go_simp <;> with_reducible rfl)
    simp only [Act.put, List.setIfInBounds_toArray, List.set_cons_zero, List.set_cons_succ]
    refine take_run 15 (some 45) (v := ?_) rfl rfl (by kernel_rfl) (by kernel_rfl) (by kernel_rfl) (fun _ _ _ h => h) (by rfl) ?_ hHeld ?_
    rotate_left
    · ((intro w hSw); (try dsimp only at hSw); go_simp <;> with_reducible rfl)
    simp only [Act.put, List.setIfInBounds_toArray, List.set_cons_zero, List.set_cons_succ]
    refine take_run 16 (some 46) (v := ?_) rfl rfl (by kernel_rfl) (by kernel_rfl) (by kernel_rfl) (fun _ _ _ h => h) (by rfl) ?_ hHeld ?_
    rotate_left
    · ((intro w hSw); (try dsimp only at hSw); go_simp <;> with_reducible rfl)
    simp only [Act.put, List.setIfInBounds_toArray, List.set_cons_zero, List.set_cons_succ]
    refine take_run 17 (some 47) (v := ?_) rfl rfl (by kernel_rfl) (by kernel_rfl) (by kernel_rfl) (fun _ _ _ h => h) (by rfl) ?_ hHeld ?_
    rotate_left
    · ((intro w hSw); (try dsimp only at hSw); go_simp <;> with_reducible rfl)
    simp only [Act.put, List.setIfInBounds_toArray, List.set_cons_zero, List.set_cons_succ]
    refine take_one 18 (by kernel_rfl) rfl (fun K hK => ?_)
    go_simp
    ((refine (implChainOk_any A1 c1 ns _ hn SM.out (CN.on hHeld.2)).mono ?_; rintro e wb18 ⟨rfl, hb⟩; rw [HP.out]))
    try go_wp2_with fail
    refine hK.out _ _ (by exact ⟨⟨(B3.on (hHeld.2.trans (hb.mono hHeld.2.size))).at 0, (B4.on (hHeld.2.trans (hb.mono hHeld.2.size))).six.1, (B5.on (hHeld.2.trans (hb.mono hHeld.2.size))).at 0, (B7.on (hHeld.2.trans (hb.mono hHeld.2.size))).at 0⟩, hHeld.2.trans (hb.mono hHeld.2.size)⟩) (fun hHeld => ?_)
    clear hK K
    refine take_run 19 (some 49) (v := ?_) rfl rfl (by kernel_rfl) (by kernel_rfl) (by kernel_rfl) (fun _ _ _ h => h) (by rfl) ?_ hHeld ?_
    rotate_left
    · ((intro w hSw); (try dsimp only at hSw); go_simp <;> with_reducible rfl)
    simp only [Act.put, List.setIfInBounds_toArray, List.set_cons_zero, List.set_cons_succ]
    refine take_run 20 (some 50) (v := ?_) rfl rfl (by kernel_rfl) (by kernel_rfl) (by kernel_rfl) (fun _ _ _ h => h) (by rfl) ?_ hHeld ?_
    rotate_left
    · ((intro w hSw); (try dsimp only at hSw); go_simp <;> with_reducible rfl)
    simp only [Act.put, List.setIfInBounds_toArray, List.set_cons_zero, List.set_cons_succ]
    refine take_run 21 (some 51) (v := ?_) rfl rfl (by kernel_rfl) (by kernel_rfl) (by kernel_rfl) (fun _ _ _ h => h) (by rfl) ?_ hHeld ?_
    rotate_left
    · ((intro w hSw); (try dsimp only at hSw); go_simp <;> with_reducible rfl)
    simp only [Act.put, List.setIfInBounds_toArray, List.set_cons_zero, List.set_cons_succ]
    refine take_skip 22 (some 52) rfl rfl (by kernel_rfl) (by kernel_rfl) (by kernel_rfl) (fun _ _ _ h => h) (by rfl) hHeld ?_
    simp only [Act.put, List.setIfInBounds_toArray, List.set_cons_zero, List.set_cons_succ]
    refine take_skip 23 (some 53) rfl rfl (by kernel_rfl) (by kernel_rfl) (by kernel_rfl) (fun _ _ _ h => h) (by rfl) hHeld ?_
    simp only [Act.put, List.setIfInBounds_toArray, List.set_cons_zero, List.set_cons_succ]
    refine take_skip 24 (some 54) rfl rfl (by kernel_rfl) (by kernel_rfl) (by kernel_rfl) (fun _ _ _ h => h) (by rfl) hHeld ?_
    simp only [Act.put, List.setIfInBounds_toArray, List.set_cons_zero, List.set_cons_succ]
    refine take_run 25 (some 55) (v := ?_) rfl rfl (by kernel_rfl) (by kernel_rfl) (by kernel_rfl) (fun _ _ _ h => h) (by rfl) ?_ hHeld ?_
    rotate_left
    · ((intro w hSw); (try dsimp only at hSw); go_simp <;> with_reducible rfl)
    simp only [Act.put, List.setIfInBounds_toArray, List.set_cons_zero, List.set_cons_succ]
    refine wpAnyH_done (by kernel_rfl) ?_ _
    refine NoPanic.normal ?_
    have LX := hHeld.2
    clear hHeld
    go_wp2_with fail
    refine wp_region_noPanic ?_
    refine wp_region_held_drew (S := (fun w' => (w'.cell? ⟨p3, 0, none⟩ = some (.slice A1 ns.length c1) ∧ (w'.cell? ⟨p4, 0, none⟩ = some (.int .i64 v.k) ∧ w'.cell? ⟨p4, 1, none⟩ = some (.int .i64 v.t) ∧ w'.cell? ⟨p4, 2, none⟩ = some (.int .i64 v.u) ∧ w'.cell? ⟨p4, 3, none⟩ = some (.slice v.a v.ts.length v.c) ∧ w'.cell? ⟨p4, 4, none⟩ = some (.string v.s) ∧ w'.cell? ⟨p4, 5, none⟩ = some (.bool v.g)) ∧ w'.cell? ⟨p5, 0, none⟩ = some (.slice A5 ([] : List Nd).length cap5) ∧ w'.cell? ⟨p7, 0, none⟩ = some (.slice A7 ([] : List Nd).length cap7)) ∧ Below W.heap.size W w')) (by kernel_rfl) (by exact ⟨⟨(B3.on ((LX).drew)).at 0, (B4.on ((LX).drew)).six.1, (B5.on ((LX).drew)).at 0, (B7.on ((LX).drew)).at 0⟩, (LX).drew⟩) (fun hHeld => ?_)
    refine take_run 0 (some 56) (v := ?_) rfl rfl (by kernel_rfl) (by kernel_rfl) (by kernel_rfl) (fun _ _ _ h => h) (by rfl) ?_ hHeld ?_
    rotate_left
    · ((intro w hSw); (try dsimp only at hSw); go_simp <;> with_reducible rfl)
    simp only [Act.put, List.setIfInBounds_toArray, List.set_cons_zero, List.set_cons_succ]
    refine take_run 1 (some 57) (v := ?_) rfl rfl (by kernel_rfl) (by kernel_rfl) (by kernel_rfl) (fun _ _ _ h => h) (by rfl) ?_ hHeld ?_
    rotate_left
    · ((intro w hSw); (try dsimp only at hSw); go_simp <;> with_reducible rfl)
    simp only [Act.put, List.setIfInBounds_toArray, List.set_cons_zero, List.set_cons_succ]
    refine take_run 2 (some 58) (v := ?_) rfl rfl (by kernel_rfl) (by kernel_rfl) (by kernel_rfl) (fun _ _ _ h => h) (by rfl) ?_ hHeld ?_
    rotate_left
    · ((intro w hSw); (try dsimp only at hSw); go_simp <;> with_reducible rfl)
    simp only [Act.put, List.setIfInBounds_toArray, List.set_cons_zero, List.set_cons_succ]
    refine take_run 3 (some 59) (v := ?_) rfl rfl (by kernel_rfl) (by kernel_rfl) (by kernel_rfl) (fun _ _ _ h => h) (by rfl) ?_ hHeld ?_
    rotate_left
    · ((intro w hSw); (try dsimp only at hSw); go_simp <;> with_reducible rfl)
    simp only [Act.put, List.setIfInBounds_toArray, List.set_cons_zero, List.set_cons_succ]
    refine take_run 4 (some 60) (v := ?_) rfl rfl (by kernel_rfl) (by kernel_rfl) (by kernel_rfl) (fun _ _ _ h => h) (by rfl) ?_ hHeld ?_
    rotate_left
    · ((intro w hSw); (try dsimp only at hSw); go_simp <;> with_reducible rfl)
    simp only [Act.put, List.setIfInBounds_toArray, List.set_cons_zero, List.set_cons_succ]
    refine take_run 5 (some 61) (v := ?_) rfl rfl (by kernel_rfl) (by kernel_rfl) (by kernel_rfl) (fun _ _ _ h => h) (by rfl) ?_ hHeld ?_
    rotate_left
    · ((intro w hSw); (try dsimp only at hSw); go_simp <;> with_reducible rfl)
    simp only [Act.put, List.setIfInBounds_toArray, List.set_cons_zero, List.set_cons_succ]
    refine take_one 6 (by kernel_rfl) rfl (fun K hK => ?_)
    go_simp
    ((refine (cfChain_nl (rs := []) PF.out.small hpl HN5.out HN7.out (C5.on hHeld.2) (C7.on hHeld.2)).mono ?_; rintro e wa6 ⟨rfl, hb⟩))
    try go_wp2_with fail
    refine hK.out _ _ (by exact ⟨⟨(B3.on (hHeld.2.trans (hb.mono hHeld.2.size))).at 0, (B4.on (hHeld.2.trans (hb.mono hHeld.2.size))).six.1, (B5.on (hHeld.2.trans (hb.mono hHeld.2.size))).at 0, (B7.on (hHeld.2.trans (hb.mono hHeld.2.size))).at 0⟩, hHeld.2.trans (hb.mono hHeld.2.size)⟩) (fun hHeld => ?_)
    clear hK K
    refine take_run 7 (some 63) (v := ?_) rfl rfl (by kernel_rfl) (by kernel_rfl) (by kernel_rfl) (fun _ _ _ h => h) (by rfl) ?_ hHeld ?_
    rotate_left
    · ((intro w hSw); (try dsimp only at hSw); go_simp <;> with_reducible rfl)
    simp only [Act.put, List.setIfInBounds_toArray, List.set_cons_zero, List.set_cons_succ]
    refine take_run 8 (some 64) (v := ?_) rfl rfl (by kernel_rfl) (by kernel_rfl) (by kernel_rfl) (fun _ _ _ h => h) (by rfl) ?_ hHeld ?_
    rotate_left
    · ((intro w hSw); (try dsimp only at hSw); go_simp <;> with_reducible rfl)
    simp only [Act.put, List.setIfInBounds_toArray, List.set_cons_zero, List.set_cons_succ]
    refine take_run 9 (some 65) (v := ?_) rfl rfl (by kernel_rfl) (by kernel_rfl) (by kernel_rfl) (fun _ _ _ h => h) (by rfl) ?_ hHeld ?_
    rotate_left
    · ((intro w hSw); (try dsimp only at hSw); go_simp <;> with_reducible rfl)
    simp only [Act.put, List.setIfInBounds_toArray, List.set_cons_zero, List.set_cons_succ]
    refine take_run 11 (some 67) (v := ?_) rfl rfl (by kernel_rfl) (by kernel_rfl) (by kernel_rfl) (fun _ _ _ h => h) (by rfl) ?_ hHeld ?_
    rotate_left
    · ((intro w hSw); (try dsimp only at hSw); go_simp <;> with_reducible rfl)
    simp only [Act.put, List.setIfInBounds_toArray, List.set_cons_zero, List.set_cons_succ]
    refine take_one 10 (by kernel_rfl) rfl (fun K hK => ?_)
    go_simp
    ((refine (implChainOk_any A1 c1 ns _ hn SM.out (CN.on hHeld.2)).mono ?_; rintro e wb10 ⟨rfl, hb⟩; rw [HP.out]))
    try go_wp2_with fail
    refine hK.out _ _ (by exact ⟨⟨(B3.on (hHeld.2.trans (hb.mono hHeld.2.size))).at 0, (B4.on (hHeld.2.trans (hb.mono hHeld.2.size))).six.1, (B5.on (hHeld.2.trans (hb.mono hHeld.2.size))).at 0, (B7.on (hHeld.2.trans (hb.mono hHeld.2.size))).at 0⟩, hHeld.2.trans (hb.mono hHeld.2.size)⟩) (fun hHeld => ?_)
    clear hK K
    refine take_one 12 (by kernel_rfl) rfl (fun K hK => ?_)
    go_simp
    ((refine (specChainOk_any A1 c1 ns _ hn SM.out (CN.on hHeld.2)).mono ?_; rintro e wc12 ⟨rfl, hb⟩; rw [HP.out]))
    try go_wp2_with fail
    refine hK.out _ _ (by exact ⟨⟨(B3.on (hHeld.2.trans (hb.mono hHeld.2.size))).at 0, (B4.on (hHeld.2.trans (hb.mono hHeld.2.size))).six.1, (B5.on (hHeld.2.trans (hb.mono hHeld.2.size))).at 0, (B7.on (hHeld.2.trans (hb.mono hHeld.2.size))).at 0⟩, hHeld.2.trans (hb.mono hHeld.2.size)⟩) (fun hHeld => ?_)
    clear hK K
    refine take_run 13 (some 69) (v := ?_) rfl rfl (by kernel_rfl) (by kernel_rfl) (by kernel_rfl) (fun _ _ _ h => h) (by rfl) ?_ hHeld ?_
    rotate_left
    · ((intro w hSw); (try dsimp only at hSw); go_simp <;> with_reducible rfl)
    simp only [Act.put, List.setIfInBounds_toArray, List.set_cons_zero, List.set_cons_succ]
    refine take_run 14 (some 70) (v := ?_) rfl rfl (by kernel_rfl) (by kernel_rfl) (by kernel_rfl) (fun _ _ _ h => h) (by rfl) ?_ hHeld ?_
    rotate_left
    · ((intro w hSw); (try dsimp only at hSw); go_simp <;> with_reducible rfl)
    simp only [Act.put, List.setIfInBounds_toArray, List.set_cons_zero, List.set_cons_succ]
    refine take_run 15 (some 2) (v := ?_) rfl rfl (by kernel_rfl) (by kernel_rfl) (by kernel_rfl) (fun _ _ _ h => h) (by rfl) ?_ hHeld ?_
    rotate_left
    · ((intro w hSw); (try dsimp only at hSw); go_simp <;> with_reducible rfl)
    simp only [Act.put, List.setIfInBounds_toArray, List.set_cons_zero, List.set_cons_succ]
    refine wpAnyH_done (by kernel_rfl) ?_ _
    refine NoPanic.normal ?_
    have L9 := L0.trans (hHeld.2.mono L0.size)
    clear hHeld
    go_wp2
    go_ret
    exact ⟨rfl, L9⟩
  have HP := hide ho
  cases hvb : verV v
  · have HE := putN_no (ns := ns) (v := v) (by rw [hvb]; simp)
    rw [HE.1] at HN5 HN7 B5 B7 PF hpl
    simp only [HE.2]
    have HV := hide hvb
    clear ho hvb HE
    refine wp_region_noPanic ?_
    refine wp_region_held_drew (S := (fun w' => (w'.cell? ⟨p3, 0, none⟩ = some (.slice A1 ns.length c1) ∧ (w'.cell? ⟨p4, 0, none⟩ = some (.int .i64 v.k) ∧ w'.cell? ⟨p4, 1, none⟩ = some (.int .i64 v.t) ∧ w'.cell? ⟨p4, 2, none⟩ = some (.int .i64 v.u) ∧ w'.cell? ⟨p4, 3, none⟩ = some (.slice v.a v.ts.length v.c) ∧ w'.cell? ⟨p4, 4, none⟩ = some (.string v.s) ∧ w'.cell? ⟨p4, 5, none⟩ = some (.bool v.g)) ∧ w'.cell? ⟨p5, 0, none⟩ = some (.slice A5 ([] : List Nd).length cap5) ∧ w'.cell? ⟨p7, 0, none⟩ = some (.slice A7 ([] : List Nd).length cap7)) ∧ Below W.heap.size W w')) (by kernel_rfl) (by exact ⟨⟨(B3.on ((LR).drew)).at 0, (B4.on ((LR).drew)).six.1, (B5.on ((LR).drew)).at 0, (B7.on ((LR).drew)).at 0⟩, (LR).drew⟩) (fun hHeld => ?_)
    refine take_run 0 (some 30) (v := ?_) rfl rfl (by kernel_rfl) (by kernel_rfl) (by kernel_rfl) (fun _ _ _ h => h) (by rfl) ?_ hHeld ?_
    rotate_left
    · ((intro w hSw); (try dsimp only at hSw); go_simp <;> with_reducible rfl)
    simp only [Act.put, List.setIfInBounds_toArray, List.set_cons_zero, List.set_cons_succ]
    refine take_run 1 (some 31) (v := ?_) rfl rfl (by kernel_rfl) (by kernel_rfl) (by kernel_rfl) (fun _ _ _ h => h) (by rfl) ?_ hHeld ?_
    rotate_left
    · ((intro w hSw); (try dsimp only at hSw); go_simp <;> with_reducible rfl)
    simp only [Act.put, List.setIfInBounds_toArray, List.set_cons_zero, List.set_cons_succ]
    refine take_run 2 (some 32) (v := ?_) rfl rfl (by kernel_rfl) (by kernel_rfl) (by kernel_rfl) (fun _ _ _ h => h) (by rfl) ?_ hHeld ?_
    rotate_left
    · ((intro w hSw); (try dsimp only at hSw); go_simp <;> with_reducible rfl)
    simp only [Act.put, List.setIfInBounds_toArray, List.set_cons_zero, List.set_cons_succ]
    refine take_run 3 (some 33) (v := ?_) rfl rfl (by kernel_rfl) (by kernel_rfl) (by kernel_rfl) (fun _ _ _ h => h) (by rfl) ?_ hHeld ?_
    rotate_left
    · ((intro w hSw); (try dsimp only at hSw); go_simp <;> with_reducible rfl)
    simp only [Act.put, List.setIfInBounds_toArray, List.set_cons_zero, List.set_cons_succ]
    refine take_run 4 (some 34) (v := ?_) rfl rfl (by kernel_rfl) (by kernel_rfl) (by kernel_rfl) (fun _ _ _ h => h) (by rfl) ?_ hHeld ?_
    rotate_left
    · ((intro w hSw); (try dsimp only at hSw); go_simp <;> with_reducible rfl)
    simp only [Act.put, List.setIfInBounds_toArray, List.set_cons_zero, List.set_cons_succ]
    refine take_run 5 (some 35) (v := ?_) rfl rfl (by kernel_rfl) (by kernel_rfl) (by kernel_rfl) (fun _ _ _ h => h) (by rfl) ?_ hHeld ?_
    rotate_left
    · ((intro w hSw); (try dsimp only at hSw); go_simp <;> with_reducible rfl)
    simp only [Act.put, List.setIfInBounds_toArray, List.set_cons_zero, List.set_cons_succ]
    refine take_one 6 (by kernel_rfl) rfl (fun K hK => ?_)
    go_simp
    ((refine (cfChain_nl (rs := []) PF.out.small hpl HN5.out HN7.out (C5.on hHeld.2) (C7.on hHeld.2)).mono ?_; rintro e wa6 ⟨rfl, hb⟩))
    try go_wp2_with fail
    refine hK.out _ _ (by exact ⟨⟨(B3.on (hHeld.2.trans (hb.mono hHeld.2.size))).at 0, (B4.on (hHeld.2.trans (hb.mono hHeld.2.size))).six.1, (B5.on (hHeld.2.trans (hb.mono hHeld.2.size))).at 0, (B7.on (hHeld.2.trans (hb.mono hHeld.2.size))).at 0⟩, hHeld.2.trans (hb.mono hHeld.2.size)⟩) (fun hHeld => ?_)
    clear hK K
    refine take_run 7 (some 37) (v := ?_) rfl rfl (by kernel_rfl) (by kernel_rfl) (by kernel_rfl) (fun _ _ _ h => h) (by rfl) ?_ hHeld ?_
    rotate_left
    · ((intro w hSw); (try dsimp only at hSw); go_simp <;> with_reducible rfl)
    simp only [Act.put, List.setIfInBounds_toArray, List.set_cons_zero, List.set_cons_succ]
    refine take_run 8 (some 38) (v := ?_) rfl rfl (by kernel_rfl) (by kernel_rfl) (by kernel_rfl) (fun _ _ _ h => h) (by rfl) ?_ hHeld ?_
    rotate_left
    · ((intro w hSw); (try dsimp only at hSw); go_simp <;> with_reducible rfl)
    simp only [Act.put, List.setIfInBounds_toArray, List.set_cons_zero, List.set_cons_succ]
    refine take_run 9 (some 39) (v := ?_) rfl rfl (by kernel_rfl) (by kernel_rfl) (by kernel_rfl) (fun _ _ _ h => h) (by rfl) ?_ hHeld ?_
    rotate_left
    · ((intro w hSw); (try dsimp only at hSw); go_simp <;> with_reducible rfl)
    simp only [Act.put, List.setIfInBounds_toArray, List.set_cons_zero, List.set_cons_succ]
    refine take_run 10 (some 40) (v := ?_) rfl rfl (by kernel_rfl) (by kernel_rfl) (by kernel_rfl) (fun _ _ _ h => h) (by rfl) ?_ hHeld ?_
    rotate_left
    · ((intro w hSw); (try dsimp only at hSw); go_simp <;> with_reducible rfl)
    simp only [Act.put, List.setIfInBounds_toArray, List.set_cons_zero, List.set_cons_succ]
    refine take_run 12 (some 42) (v := ?_) rfl rfl (by kernel_rfl) (by kernel_rfl) (by kernel_rfl) (fun _ _ _ h => h) (by rfl) ?_ hHeld ?_
    rotate_left
    · ((intro w hSw); (try dsimp only at hSw); go_simp <;> with_reducible rfl)
    simp only [Act.put, List.setIfInBounds_toArray, List.set_cons_zero, List.set_cons_succ]
    refine take_one 11 (by kernel_rfl) rfl (fun K hK => ?_)
    go_simp
    ((refine (implChainOk_any A1 c1 ns _ hn SM.out (CN.on hHeld.2)).mono ?_; rintro e wb11 ⟨rfl, hb⟩; rw [HP.out]))
    try go_wp2_with fail
    refine hK.out _ _ (by exact ⟨⟨(B3.on (hHeld.2.trans (hb.mono hHeld.2.size))).at 0, (B4.on (hHeld.2.trans (hb.mono hHeld.2.size))).six.1, (B5.on (hHeld.2.trans (hb.mono hHeld.2.size))).at 0, (B7.on (hHeld.2.trans (hb.mono hHeld.2.size))).at 0⟩, hHeld.2.trans (hb.mono hHeld.2.size)⟩) (fun hHeld => ?_)
    clear hK K
    refine take_one 13 (by kernel_rfl) rfl (fun K hK => ?_)
    go_simp
    ((refine (specChainOk_any A1 c1 ns _ hn SM.out (CN.on hHeld.2)).mono ?_; rintro e wc13 ⟨rfl, hb⟩; rw [HP.out]))
    try go_wp2_with fail
    refine hK.out _ _ (by exact ⟨⟨(B3.on (hHeld.2.trans (hb.mono hHeld.2.size))).at 0, (B4.on (hHeld.2.trans (hb.mono hHeld.2.size))).six.1, (B5.on (hHeld.2.trans (hb.mono hHeld.2.size))).at 0, (B7.on (hHeld.2.trans (hb.mono hHeld.2.size))).at 0⟩, hHeld.2.trans (hb.mono hHeld.2.size)⟩) (fun hHeld => ?_)
    clear hK K
    refine take_run 14 (some 44) (v := ?_) rfl rfl (by kernel_rfl) (by kernel_rfl) (by kernel_rfl) (fun _ _ _ h => h) (by rfl) ?_ hHeld ?_
    rotate_left
    · ((intro w hSw); (try dsimp only at hSw); go_simp <;> with_reducible rfl)
    simp only [Act.put, List.setIfInBounds_toArray, List.set_cons_zero, List.set_cons_succ]
    refine take_run 15 (some 45) (v := ?_) rfl rfl (by kernel_rfl) (by kernel_rfl) (by kernel_rfl) (fun _ _ _ h => h) (by rfl) ?_ hHeld ?_
    rotate_left
    · ((intro w hSw); (try dsimp only at hSw); go_simp <;> with_reducible rfl)
    simp only [Act.put, List.setIfInBounds_toArray, List.set_cons_zero, List.set_cons_succ]
    refine take_run 16 (some 46) (v := ?_) rfl rfl (by kernel_rfl) (by kernel_rfl) (by kernel_rfl) (fun _ _ _ h => h) (by rfl) ?_ hHeld ?_
    rotate_left
    · ((intro w hSw); (try dsimp only at hSw); go_simp <;> with_reducible rfl)
    simp only [Act.put, List.setIfInBounds_toArray, List.set_cons_zero, List.set_cons_succ]
    refine take_run 17 (some 47) (v := ?_) rfl rfl (by kernel_rfl) (by kernel_rfl) (by kernel_rfl) (fun _ _ _ h => h) (by rfl) ?_ hHeld ?_
    rotate_left
    · ((intro w hSw); (try dsimp only at hSw); go_simp <;> with_reducible rfl)
    simp only [Act.put, List.setIfInBounds_toArray, List.set_cons_zero, List.set_cons_succ]
    refine take_one 18 (by kernel_rfl) rfl (fun K hK => ?_)
    go_simp
    ((refine (implChainOk_any A1 c1 ns _ hn SM.out (CN.on hHeld.2)).mono ?_; rintro e wb18 ⟨rfl, hb⟩; rw [HP.out]))
    try go_wp2_with fail
    refine hK.out _ _ (by exact ⟨⟨(B3.on (hHeld.2.trans (hb.mono hHeld.2.size))).at 0, (B4.on (hHeld.2.trans (hb.mono hHeld.2.size))).six.1, (B5.on (hHeld.2.trans (hb.mono hHeld.2.size))).at 0, (B7.on (hHeld.2.trans (hb.mono hHeld.2.size))).at 0⟩, hHeld.2.trans (hb.mono hHeld.2.size)⟩) (fun hHeld => ?_)
    clear hK K
    refine take_run 19 (some 49) (v := ?_) rfl rfl (by kernel_rfl) (by kernel_rfl) (by kernel_rfl) (fun _ _ _ h => h) (by rfl) ?_ hHeld ?_
    rotate_left
    · ((intro w hSw); (try dsimp only at hSw); go_simp <;> with_reducible rfl)
    simp only [Act.put, List.setIfInBounds_toArray, List.set_cons_zero, List.set_cons_succ]
    refine take_run 20 (some 50) (v := ?_) rfl rfl (by kernel_rfl) (by kernel_rfl) (by kernel_rfl) (fun _ _ _ h => h) (by rfl) ?_ hHeld ?_
    rotate_left
    · ((intro w hSw); (try dsimp only at hSw); go_simp <;> with_reducible rfl)
    simp only [Act.put, List.setIfInBounds_toArray, List.set_cons_zero, List.set_cons_succ]
    refine take_run 21 (some 51) (v := ?_) rfl rfl (by kernel_rfl) (by kernel_rfl) (by kernel_rfl) (fun _ _ _ h => h) (by rfl) ?_ hHeld ?_
    rotate_left
    · ((intro w hSw); (try dsimp only at hSw); go_simp <;> with_reducible rfl)
    simp only [Act.put, List.setIfInBounds_toArray, List.set_cons_zero, List.set_cons_succ]
    refine take_run 22 (some 52) (v := ?_) rfl rfl (by kernel_rfl) (by kernel_rfl) (by kernel_rfl) (fun _ _ _ h => h) (by rfl) ?_ hHeld ?_
    rotate_left
    · ((intro w hSw); (try dsimp only at hSw); go_simp <;> with_reducible rfl)
    simp only [Act.put, List.setIfInBounds_toArray, List.set_cons_zero, List.set_cons_succ]
    refine take_one 23 (by kernel_rfl) rfl (fun K hK => ?_)
    go_simp
    ((refine (implVerOk_any v.k v.t v.u v.a v.c v.ts v.s v.g _ hv4' hs' ((TV.on hHeld.2).up hHeld.2.size)).mono ?_; rintro e wd23 ⟨rfl, hb⟩; rw [show verB v.k v.t v.u v.ts v.s v.g = verV v from rfl, HV.out]))
    try go_wp2_with fail
    refine hK.out _ _ (by exact ⟨⟨(B3.on (hHeld.2.trans (hb.mono hHeld.2.size))).at 0, (B4.on (hHeld.2.trans (hb.mono hHeld.2.size))).six.1, (B5.on (hHeld.2.trans (hb.mono hHeld.2.size))).at 0, (B7.on (hHeld.2.trans (hb.mono hHeld.2.size))).at 0⟩, hHeld.2.trans (hb.mono hHeld.2.size)⟩) (fun hHeld => ?_)
    clear hK K
    refine take_run 24 (some 54) (v := ?_) rfl rfl (by kernel_rfl) (by kernel_rfl) (by kernel_rfl) (fun _ _ _ h => h) (by rfl) ?_ hHeld ?_
    rotate_left
    · ((intro w hSw); (try dsimp only at hSw); go_simp <;> with_reducible rfl)
    simp only [Act.put, List.setIfInBounds_toArray, List.set_cons_zero, List.set_cons_succ]
    refine take_run 25 (some 55) (v := ?_) rfl rfl (by kernel_rfl) (by kernel_rfl) (by kernel_rfl) (fun _ _ _ h => h) (by rfl) ?_ hHeld ?_
    rotate_left
    · ((intro w hSw); (try dsimp only at hSw); go_simp <;> with_reducible rfl)
    simp only [Act.put, List.setIfInBounds_toArray, List.set_cons_zero, List.set_cons_succ]
    refine wpAnyH_done (by kernel_rfl) ?_ _
    refine NoPanic.normal ?_
    have LX := hHeld.2
    clear hHeld
    go_wp2_with fail
    refine wp_region_noPanic ?_
    refine wp_region_held_drew (S := (fun w' => (w'.cell? ⟨p3, 0, none⟩ = some (.slice A1 ns.length c1) ∧ (w'.cell? ⟨p4, 0, none⟩ = some (.int .i64 v.k) ∧ w'.cell? ⟨p4, 1, none⟩ = some (.int .i64 v.t) ∧ w'.cell? ⟨p4, 2, none⟩ = some (.int .i64 v.u) ∧ w'.cell? ⟨p4, 3, none⟩ = some (.slice v.a v.ts.length v.c) ∧ w'.cell? ⟨p4, 4, none⟩ = some (.string v.s) ∧ w'.cell? ⟨p4, 5, none⟩ = some (.bool v.g)) ∧ w'.cell? ⟨p5, 0, none⟩ = some (.slice A5 ([] : List Nd).length cap5) ∧ w'.cell? ⟨p7, 0, none⟩ = some (.slice A7 ([] : List Nd).length cap7)) ∧ Below W.heap.size W w')) (by kernel_rfl) (by exact ⟨⟨(B3.on ((LX).drew)).at 0, (B4.on ((LX).drew)).six.1, (B5.on ((LX).drew)).at 0, (B7.on ((LX).drew)).at 0⟩, (LX).drew⟩) (fun hHeld => ?_)
    refine take_run 0 (some 56) (v := ?_) rfl rfl (by kernel_rfl) (by kernel_rfl) (by kernel_rfl) (fun _ _ _ h => h) (by rfl) ?_ hHeld ?_
    rotate_left
    · ((intro w hSw); (try dsimp only at hSw); go_simp <;> with_reducible rfl)
    simp only [Act.put, List.setIfInBounds_toArray, List.set_cons_zero, List.set_cons_succ]
    refine take_run 1 (some 57) (v := ?_) rfl rfl (by kernel_rfl) (by kernel_rfl) (by kernel_rfl) (fun _ _ _ h => h) (by rfl) ?_ hHeld ?_
    rotate_left
    · ((intro w hSw); (try dsimp only at hSw); go_simp <;> with_reducible rfl)
    simp only [Act.put, List.setIfInBounds_toArray, List.set_cons_zero, List.set_cons_succ]
    refine take_run 2 (some 58) (v := ?_) rfl rfl (by kernel_rfl) (by kernel_rfl) (by kernel_rfl) (fun _ _ _ h => h) (by rfl) ?_ hHeld ?_
    rotate_left
    · ((intro w hSw); (try dsimp only at hSw); go_simp <;> with_reducible rfl)
    simp only [Act.put, List.setIfInBounds_toArray, List.set_cons_zero, List.set_cons_succ]
    refine take_run 3 (some 59) (v := ?_) rfl rfl (by kernel_rfl) (by kernel_rfl) (by kernel_rfl) (fun _ _ _ h => h) (by rfl) ?_ hHeld ?_
    rotate_left
    · ((intro w hSw); (try dsimp only at hSw); go_simp <;> with_reducible rfl)
    simp only [Act.put, List.setIfInBounds_toArray, List.set_cons_zero, List.set_cons_succ]
    refine take_run 4 (some 60) (v := ?_) rfl rfl (by kernel_rfl) (by kernel_rfl) (by kernel_rfl) (fun _ _ _ h => h) (by rfl) ?_ hHeld ?_
    rotate_left
    · ((intro w hSw); (try dsimp only at hSw); go_simp <;> with_reducible rfl)
    simp only [Act.put, List.setIfInBounds_toArray, List.set_cons_zero, List.set_cons_succ]
    refine take_run 5 (some 61) (v := ?_) rfl rfl (by kernel_rfl) (by kernel_rfl) (by kernel_rfl) (fun _ _ _ h => h) (by rfl) ?_ hHeld ?_
    rotate_left
    · ((intro w hSw); (try dsimp only at hSw); go_simp <;> with_reducible rfl)
    simp only [Act.put, List.setIfInBounds_toArray, List.set_cons_zero, List.set_cons_succ]
    refine take_one 6 (by kernel_rfl) rfl (fun K hK => ?_)
    go_simp
    ((refine (cfChain_nl (rs := []) PF.out.small hpl HN5.out HN7.out (C5.on hHeld.2) (C7.on hHeld.2)).mono ?_; rintro e wa6 ⟨rfl, hb⟩))
    try go_wp2_with fail
    refine hK.out _ _ (by exact ⟨⟨(B3.on (hHeld.2.trans (hb.mono hHeld.2.size))).at 0, (B4.on (hHeld.2.trans (hb.mono hHeld.2.size))).six.1, (B5.on (hHeld.2.trans (hb.mono hHeld.2.size))).at 0, (B7.on (hHeld.2.trans (hb.mono hHeld.2.size))).at 0⟩, hHeld.2.trans (hb.mono hHeld.2.size)⟩) (fun hHeld => ?_)
    clear hK K
    refine take_run 7 (some 63) (v := ?_) rfl rfl (by kernel_rfl) (by kernel_rfl) (by kernel_rfl) (fun _ _ _ h => h) (by rfl) ?_ hHeld ?_
    rotate_left
    · ((intro w hSw); (try dsimp only at hSw); go_simp <;> with_reducible rfl)
    simp only [Act.put, List.setIfInBounds_toArray, List.set_cons_zero, List.set_cons_succ]
    refine take_run 8 (some 64) (v := ?_) rfl rfl (by kernel_rfl) (by kernel_rfl) (by kernel_rfl) (fun _ _ _ h => h) (by rfl) ?_ hHeld ?_
    rotate_left
    · ((intro w hSw); (try dsimp only at hSw); go_simp <;> with_reducible rfl)
    simp only [Act.put, List.setIfInBounds_toArray, List.set_cons_zero, List.set_cons_succ]
    refine take_run 9 (some 65) (v := ?_) rfl rfl (by kernel_rfl) (by kernel_rfl) (by kernel_rfl) (fun _ _ _ h => h) (by rfl) ?_ hHeld ?_
    rotate_left
    · ((intro w hSw); (try dsimp only at hSw); go_simp <;> with_reducible rfl)
    simp only [Act.put, List.setIfInBounds_toArray, List.set_cons_zero, List.set_cons_succ]
    refine take_run 11 (some 67) (v := ?_) rfl rfl (by kernel_rfl) (by kernel_rfl) (by kernel_rfl) (fun _ _ _ h => h) (by rfl) ?_ hHeld ?_
    rotate_left
    · ((intro w hSw); (try dsimp only at hSw); go_simp <;> with_reducible rfl)
    simp only [Act.put, List.setIfInBounds_toArray, List.set_cons_zero, List.set_cons_succ]
    refine take_one 10 (by kernel_rfl) rfl (fun K hK => ?_)
    go_simp
    ((refine (implChainOk_any A1 c1 ns _ hn SM.out (CN.on hHeld.2)).mono ?_; rintro e wb10 ⟨rfl, hb⟩; rw [HP.out]))
    try go_wp2_with fail
    refine hK.out _ _ (by exact ⟨⟨(B3.on (hHeld.2.trans (hb.mono hHeld.2.size))).at 0, (B4.on (hHeld.2.trans (hb.mono hHeld.2.size))).six.1, (B5.on (hHeld.2.trans (hb.mono hHeld.2.size))).at 0, (B7.on (hHeld.2.trans (hb.mono hHeld.2.size))).at 0⟩, hHeld.2.trans (hb.mono hHeld.2.size)⟩) (fun hHeld => ?_)
    clear hK K
    refine take_one 12 (by kernel_rfl) rfl (fun K hK => ?_)
    go_simp
    ((refine (specChainOk_any A1 c1 ns _ hn SM.out (CN.on hHeld.2)).mono ?_; rintro e wc12 ⟨rfl, hb⟩; rw [HP.out]))
    try go_wp2_with fail
    refine hK.out _ _ (by exact ⟨⟨(B3.on (hHeld.2.trans (hb.mono hHeld.2.size))).at 0, (B4.on (hHeld.2.trans (hb.mono hHeld.2.size))).six.1, (B5.on (hHeld.2.trans (hb.mono hHeld.2.size))).at 0, (B7.on (hHeld.2.trans (hb.mono hHeld.2.size))).at 0⟩, hHeld.2.trans (hb.mono hHeld.2.size)⟩) (fun hHeld => ?_)
    clear hK K
    refine take_run 13 (some 69) (v := ?_) rfl rfl (by kernel_rfl) (by kernel_rfl) (by kernel_rfl) (fun _ _ _ h => h) (by rfl) ?_ hHeld ?_
    rotate_left
    · ((intro w hSw); (try dsimp only at hSw); go_simp <;> with_reducible rfl)
    simp only [Act.put, List.setIfInBounds_toArray, List.set_cons_zero, List.set_cons_succ]
    refine take_run 14 (some 70) (v := ?_) rfl rfl (by kernel_rfl) (by kernel_rfl) (by kernel_rfl) (fun _ _ _ h => h) (by rfl) ?_ hHeld ?_
    rotate_left
    · ((intro w hSw); (try dsimp only at hSw); go_simp <;> with_reducible rfl)
    simp only [Act.put, List.setIfInBounds_toArray, List.set_cons_zero, List.set_cons_succ]
    refine take_run 15 (some 2) (v := ?_) rfl rfl (by kernel_rfl) (by kernel_rfl) (by kernel_rfl) (fun _ _ _ h => h) (by rfl) ?_ hHeld ?_
    rotate_left
    · ((intro w hSw); (try dsimp only at hSw); go_simp <;> with_reducible rfl)
    simp only [Act.put, List.setIfInBounds_toArray, List.set_cons_zero, List.set_cons_succ]
    refine wpAnyH_done (by kernel_rfl) ?_ _
    refine NoPanic.normal ?_
    have L9 := L0.trans (hHeld.2.mono L0.size)
    clear hHeld
    go_wp2
    go_ret
    exact ⟨rfl, L9⟩
  have HV := hide hvb
  cases hr : roomB ns
  · have HE := putN_full ho hvb hr
    rw [HE.1] at HN5 HN7 B5 B7 PF hpl
    simp only [HE.2]
    clear ho hvb hr HE
    refine wp_region_noPanic ?_
    refine wp_region_held_drew (S := (fun w' => (w'.cell? ⟨p3, 0, none⟩ = some (.slice A1 ns.length c1) ∧ (w'.cell? ⟨p4, 0, none⟩ = some (.int .i64 v.k) ∧ w'.cell? ⟨p4, 1, none⟩ = some (.int .i64 v.t) ∧ w'.cell? ⟨p4, 2, none⟩ = some (.int .i64 v.u) ∧ w'.cell? ⟨p4, 3, none⟩ = some (.slice v.a v.ts.length v.c) ∧ w'.cell? ⟨p4, 4, none⟩ = some (.string v.s) ∧ w'.cell? ⟨p4, 5, none⟩ = some (.bool v.g)) ∧ w'.cell? ⟨p5, 0, none⟩ = some (.slice A5 ns.length cap5) ∧ w'.cell? ⟨p7, 0, none⟩ = some (.slice A7 ns.length cap7)) ∧ Below W.heap.size W w')) (by kernel_rfl) (by exact ⟨⟨(B3.on ((LR).drew)).at 0, (B4.on ((LR).drew)).six.1, (B5.on ((LR).drew)).at 0, (B7.on ((LR).drew)).at 0⟩, (LR).drew⟩) (fun hHeld => ?_)
    refine take_run 0 (some 30) (v := ?_) rfl rfl (by kernel_rfl) (by kernel_rfl) (by kernel_rfl) (fun _ _ _ h => h) (by rfl) ?_ hHeld ?_
    rotate_left
    · ((intro w hSw); (try dsimp only at hSw); go_simp <;> with_reducible rfl)
    simp only [Act.put, List.setIfInBounds_toArray, List.set_cons_zero, List.set_cons_succ]
    refine take_run 1 (some 31) (v := ?_) rfl rfl (by kernel_rfl) (by kernel_rfl) (by kernel_rfl) (fun _ _ _ h => h) (by rfl) ?_ hHeld ?_
    rotate_left
    · ((intro w hSw); (try dsimp only at hSw); go_simp <;> with_reducible rfl)
    simp only [Act.put, List.setIfInBounds_toArray, List.set_cons_zero, List.set_cons_succ]
    refine take_run 2 (some 32) (v := ?_) rfl rfl (by kernel_rfl) (by kernel_rfl) (by kernel_rfl) (fun _ _ _ h => h) (by rfl) ?_ hHeld ?_
    rotate_left
    · ((intro w hSw); (try dsimp only at hSw); go_simp <;> with_reducible rfl)
    simp only [Act.put, List.setIfInBounds_toArray, List.set_cons_zero, List.set_cons_succ]
    refine take_run 3 (some 33) (v := ?_) rfl rfl (by kernel_rfl) (by kernel_rfl) (by kernel_rfl) (fun _ _ _ h => h) (by rfl) ?_ hHeld ?_
    rotate_left
    · ((intro w hSw); (try dsimp only at hSw); go_simp <;> with_reducible rfl)
    simp only [Act.put, List.setIfInBounds_toArray, List.set_cons_zero, List.set_cons_succ]
    refine take_run 4 (some 34) (v := ?_) rfl rfl (by kernel_rfl) (by kernel_rfl) (by kernel_rfl) (fun _ _ _ h => h) (by rfl) ?_ hHeld ?_
    rotate_left
    · ((intro w hSw); (try dsimp only at hSw); go_simp <;> with_reducible rfl)
    simp only [Act.put, List.setIfInBounds_toArray, List.set_cons_zero, List.set_cons_succ]
    refine take_run 5 (some 35) (v := ?_) rfl rfl (by kernel_rfl) (by kernel_rfl) (by kernel_rfl) (fun _ _ _ h => h) (by rfl) ?_ hHeld ?_
    rotate_left
    · ((intro w hSw); (try dsimp only at hSw); go_simp <;> with_reducible rfl)
    simp only [Act.put, List.setIfInBounds_toArray, List.set_cons_zero, List.set_cons_succ]
    refine take_one 6 (by kernel_rfl) rfl (fun K hK => ?_)
    go_simp
    ((refine (cfChain_nl (rs := ns) PF.out.small hpl HN5.out HN7.out (C5.on hHeld.2) (C7.on hHeld.2)).mono ?_; rintro e wa6 ⟨rfl, hb⟩))
    try go_wp2_with fail
    refine hK.out _ _ (by exact ⟨⟨(B3.on (hHeld.2.trans (hb.mono hHeld.2.size))).at 0, (B4.on (hHeld.2.trans (hb.mono hHeld.2.size))).six.1, (B5.on (hHeld.2.trans (hb.mono hHeld.2.size))).at 0, (B7.on (hHeld.2.trans (hb.mono hHeld.2.size))).at 0⟩, hHeld.2.trans (hb.mono hHeld.2.size)⟩) (fun hHeld => ?_)
    clear hK K
    refine take_run 7 (some 37) (v := ?_) rfl rfl (by kernel_rfl) (by kernel_rfl) (by kernel_rfl) (fun _ _ _ h => h) (by rfl) ?_ hHeld ?_
    rotate_left
    · ((intro w hSw); (try dsimp only at hSw); go_simp <;> with_reducible rfl)
    simp only [Act.put, List.setIfInBounds_toArray, List.set_cons_zero, List.set_cons_succ]
    refine take_run 8 (some 38) (v := ?_) rfl rfl (by kernel_rfl) (by kernel_rfl) (by kernel_rfl) (fun _ _ _ h => h) (by rfl) ?_ hHeld ?_
    rotate_left
    · ((intro w hSw); (try dsimp only at hSw); go_simp <;> with_reducible rfl)
    simp only [Act.put, List.setIfInBounds_toArray, List.set_cons_zero, List.set_cons_succ]
    refine take_run 9 (some 39) (v := ?_) rfl rfl (by kernel_rfl) (by kernel_rfl) (by kernel_rfl) (fun _ _ _ h => h) (by rfl) ?_ hHeld ?_
    rotate_left
    · ((intro w hSw); (try dsimp only at hSw); go_simp <;> with_reducible rfl)
    simp only [Act.put, List.setIfInBounds_toArray, List.set_cons_zero, List.set_cons_succ]
    refine take_run 10 (some 40) (v := ?_) rfl rfl (by kernel_rfl) (by kernel_rfl) (by kernel_rfl) (fun _ _ _ h => h) (by rfl) ?_ hHeld ?_
    rotate_left
    · ((intro w hSw); (try dsimp only at hSw); go_simp <;> with_reducible rfl)
    simp only [Act.put, List.setIfInBounds_toArray, List.set_cons_zero, List.set_cons_succ]
    refine take_run 12 (some 42) (v := ?_) rfl rfl (by kernel_rfl) (by kernel_rfl) (by kernel_rfl) (fun _ _ _ h => h) (by rfl) ?_ hHeld ?_
    rotate_left
    · ((intro w hSw); (try dsimp only at hSw); go_simp <;> with_reducible rfl)
    simp only [Act.put, List.setIfInBounds_toArray, List.set_cons_zero, List.set_cons_succ]
    refine take_one 11 (by kernel_rfl) rfl (fun K hK => ?_)
    go_simp
    ((refine (implChainOk_any A1 c1 ns _ hn SM.out (CN.on hHeld.2)).mono ?_; rintro e wb11 ⟨rfl, hb⟩; rw [HP.out]))
    try go_wp2_with fail
    refine hK.out _ _ (by exact ⟨⟨(B3.on (hHeld.2.trans (hb.mono hHeld.2.size))).at 0, (B4.on (hHeld.2.trans (hb.mono hHeld.2.size))).six.1, (B5.on (hHeld.2.trans (hb.mono hHeld.2.size))).at 0, (B7.on (hHeld.2.trans (hb.mono hHeld.2.size))).at 0⟩, hHeld.2.trans (hb.mono hHeld.2.size)⟩) (fun hHeld => ?_)
    clear hK K
    refine take_one 13 (by kernel_rfl) rfl (fun K hK => ?_)
    go_simp
    ((refine (specChainOk_any A1 c1 ns _ hn SM.out (CN.on hHeld.2)).mono ?_; rintro e wc13 ⟨rfl, hb⟩; rw [HP.out]))
    try go_wp2_with fail
    refine hK.out _ _ (by exact ⟨⟨(B3.on (hHeld.2.trans (hb.mono hHeld.2.size))).at 0, (B4.on (hHeld.2.trans (hb.mono hHeld.2.size))).six.1, (B5.on (hHeld.2.trans (hb.mono hHeld.2.size))).at 0, (B7.on (hHeld.2.trans (hb.mono hHeld.2.size))).at 0⟩, hHeld.2.trans (hb.mono hHeld.2.size)⟩) (fun hHeld => ?_)
    clear hK K
    refine take_run 14 (some 44) (v := ?_) rfl rfl (by kernel_rfl) (by kernel_rfl) (by kernel_rfl) (fun _ _ _ h => h) (by rfl) ?_ hHeld ?_
    rotate_left
    · ((intro w hSw); (try dsimp only at hSw); go_simp <;> with_reducible rfl)
    simp only [Act.put, List.setIfInBounds_toArray, List.set_cons_zero, List.set_cons_succ]
    refine take_run 15 (some 45) (v := ?_) rfl rfl (by kernel_rfl) (by kernel_rfl) (by kernel_rfl) (fun _ _ _ h => h) (by rfl) ?_ hHeld ?_
    rotate_left
    · ((intro w hSw); (try dsimp only at hSw); go_simp <;> with_reducible rfl)
    simp only [Act.put, List.setIfInBounds_toArray, List.set_cons_zero, List.set_cons_succ]
    refine take_run 16 (some 46) (v := ?_) rfl rfl (by kernel_rfl) (by kernel_rfl) (by kernel_rfl) (fun _ _ _ h => h) (by rfl) ?_ hHeld ?_
    rotate_left
    · ((intro w hSw); (try dsimp only at hSw); go_simp <;> with_reducible rfl)
    simp only [Act.put, List.setIfInBounds_toArray, List.set_cons_zero, List.set_cons_succ]
    refine take_run 17 (some 47) (v := ?_) rfl rfl (by kernel_rfl) (by kernel_rfl) (by kernel_rfl) (fun _ _ _ h => h) (by rfl) ?_ hHeld ?_
    rotate_left
    · ((intro w hSw); (try dsimp only at hSw); go_simp <;> with_reducible rfl)
    simp only [Act.put, List.setIfInBounds_toArray, List.set_cons_zero, List.set_cons_succ]
    refine take_one 18 (by kernel_rfl) rfl (fun K hK => ?_)
    go_simp
    ((refine (implChainOk_any A1 c1 ns _ hn SM.out (CN.on hHeld.2)).mono ?_; rintro e wb18 ⟨rfl, hb⟩; rw [HP.out]))
    try go_wp2_with fail
    refine hK.out _ _ (by exact ⟨⟨(B3.on (hHeld.2.trans (hb.mono hHeld.2.size))).at 0, (B4.on (hHeld.2.trans (hb.mono hHeld.2.size))).six.1, (B5.on (hHeld.2.trans (hb.mono hHeld.2.size))).at 0, (B7.on (hHeld.2.trans (hb.mono hHeld.2.size))).at 0⟩, hHeld.2.trans (hb.mono hHeld.2.size)⟩) (fun hHeld => ?_)
    clear hK K
    refine take_run 19 (some 49) (v := ?_) rfl rfl (by kernel_rfl) (by kernel_rfl) (by kernel_rfl) (fun _ _ _ h => h) (by rfl) ?_ hHeld ?_
    rotate_left
    · ((intro w hSw); (try dsimp only at hSw); go_simp <;> with_reducible rfl)
    simp only [Act.put, List.setIfInBounds_toArray, List.set_cons_zero, List.set_cons_succ]
    refine take_run 20 (some 50) (v := ?_) rfl rfl (by kernel_rfl) (by kernel_rfl) (by kernel_rfl) (fun _ _ _ h => h) (by rfl) ?_ hHeld ?_
    rotate_left
    · ((intro w hSw); (try dsimp only at hSw); go_simp <;> with_reducible rfl)
    simp only [Act.put, List.setIfInBounds_toArray, List.set_cons_zero, List.set_cons_succ]
    refine take_run 21 (some 51) (v := ?_) rfl rfl (by kernel_rfl) (by kernel_rfl) (by kernel_rfl) (fun _ _ _ h => h) (by rfl) ?_ hHeld ?_
    rotate_left
    · ((intro w hSw); (try dsimp only at hSw); go_simp <;> with_reducible rfl)
    simp only [Act.put, List.setIfInBounds_toArray, List.set_cons_zero, List.set_cons_succ]
    refine take_run 22 (some 52) (v := ?_) rfl rfl (by kernel_rfl) (by kernel_rfl) (by kernel_rfl) (fun _ _ _ h => h) (by rfl) ?_ hHeld ?_
    rotate_left
    · ((intro w hSw); (try dsimp only at hSw); go_simp <;> with_reducible rfl)
    simp only [Act.put, List.setIfInBounds_toArray, List.set_cons_zero, List.set_cons_succ]
    refine take_one 23 (by kernel_rfl) rfl (fun K hK => ?_)
    go_simp
    ((refine (implVerOk_any v.k v.t v.u v.a v.c v.ts v.s v.g _ hv4' hs' ((TV.on hHeld.2).up hHeld.2.size)).mono ?_; rintro e wd23 ⟨rfl, hb⟩; rw [show verB v.k v.t v.u v.ts v.s v.g = verV v from rfl, HV.out]))
    try go_wp2_with fail
    refine hK.out _ _ (by exact ⟨⟨(B3.on (hHeld.2.trans (hb.mono hHeld.2.size))).at 0, (B4.on (hHeld.2.trans (hb.mono hHeld.2.size))).six.1, (B5.on (hHeld.2.trans (hb.mono hHeld.2.size))).at 0, (B7.on (hHeld.2.trans (hb.mono hHeld.2.size))).at 0⟩, hHeld.2.trans (hb.mono hHeld.2.size)⟩) (fun hHeld => ?_)
    clear hK K
    refine take_run 24 (some 54) (v := ?_) rfl rfl (by kernel_rfl) (by kernel_rfl) (by kernel_rfl) (fun _ _ _ h => h) (by rfl) ?_ hHeld ?_
    rotate_left
    · ((intro w hSw); (try dsimp only at hSw); go_simp <;> with_reducible rfl)
    simp only [Act.put, List.setIfInBounds_toArray, List.set_cons_zero, List.set_cons_succ]
    refine take_run 25 (some 55) (v := ?_) rfl rfl (by kernel_rfl) (by kernel_rfl) (by kernel_rfl) (fun _ _ _ h => h) (by rfl) ?_ hHeld ?_
    rotate_left
    · ((intro w hSw); (try dsimp only at hSw); go_simp <;> with_reducible rfl)
    simp only [Act.put, List.setIfInBounds_toArray, List.set_cons_zero, List.set_cons_succ]
    refine wpAnyH_done (by kernel_rfl) ?_ _
    refine NoPanic.normal ?_
    have LX := hHeld.2
    have k3 := (B3.on LX).one.1
    have k5 := (B5.on LX).one.1
    have LY := L0.trans (LX.mono L0.size)
    clear hHeld
    go_wp2_with fail
    refine (cfChain_nl (rs := ns) SL.out hn HN5.out ⟨rfl, fun i x y hx hy => (by rw [hx] at hy; injection hy with hy; rw [hy]; exact ⟨rfl, like_refl _, rfl, like_refl _⟩)⟩ (C5.on LX) (CN.on LX)).mono ?_
    rintro e w9 ⟨rfl, hb9⟩
    have L9 := LY.trans (hb9.mono LY.size)
    clear hb9 k3 k5
    go_wp2
    go_ret
    exact ⟨rfl, L9⟩
  have HE := putN_yes ho hvb hr
  have hlen : (addN ns 0 v).length = ns.length := addN_size ns 0 v
  have HCA := hide (chain_add ho hvb hr)
  rw [HE.1] at HN5 HN7 B5 B7 PF hpl
  rw [hlen] at B5 B7
  simp only [HE.2]
  obtain ⟨⟨hl1, hl4⟩, hnode, -⟩ := chainB_parts ho
  obtain ⟨nh, hnh⟩ : ∃ nh, ns[0]? = some nh := ⟨_, List.getElem?_eq_getElem (by omega)⟩
  have HNH := hide hnh
  have HSH := hide (nodeB_parts (hnode 0 nh hnh)).1
  obtain ⟨G1, cur1, rfl, hg1⟩ := cgA_at CN hl1
  have hul : us5.length = ns.length := by rw [HN5.out.1, hlen]
  obtain ⟨G5, cur5, rfl, hg5⟩ := cgA_at C5 (by omega)
  have CG1 := hide hg1
  have CG5 := hide hg5
  have HLN := hide hlen
  have HUL := hide hul
  clear ho hvb hr HE hnode hnh hg1 hg5 hlen
  refine wp_region_noPanic ?_
  refine wp_region_held_drew (S := (fun w' => (w'.cell? ⟨p3, 0, none⟩ = some (.slice (some ⟨G1, 0, none⟩) ns.length c1) ∧ (w'.cell? ⟨p4, 0, none⟩ = some (.int .i64 v.k) ∧ w'.cell? ⟨p4, 1, none⟩ = some (.int .i64 v.t) ∧ w'.cell? ⟨p4, 2, none⟩ = some (.int .i64 v.u) ∧ w'.cell? ⟨p4, 3, none⟩ = some (.slice v.a v.ts.length v.c) ∧ w'.cell? ⟨p4, 4, none⟩ = some (.string v.s) ∧ w'.cell? ⟨p4, 5, none⟩ = some (.bool v.g)) ∧ w'.cell? ⟨p5, 0, none⟩ = some (.slice (some ⟨G5, 0, none⟩) ns.length cap5) ∧ w'.cell? ⟨p7, 0, none⟩ = some (.slice A7 ns.length cap7)) ∧ Below W.heap.size W w')) (by kernel_rfl) (by exact ⟨⟨(B3.on ((LR).drew)).at 0, (B4.on ((LR).drew)).six.1, (B5.on ((LR).drew)).at 0, (B7.on ((LR).drew)).at 0⟩, (LR).drew⟩) (fun hHeld => ?_)
  refine take_run 0 (some 30) (v := ?_) rfl rfl (by kernel_rfl) (by kernel_rfl) (by kernel_rfl) (fun _ _ _ h => h) (by rfl) ?_ hHeld ?_
  rotate_left
  · ((intro w hSw); (try dsimp only at hSw); go_simp <;> with_reducible rfl)
  simp only [Act.put, List.setIfInBounds_toArray, List.set_cons_zero, List.set_cons_succ]
  refine take_run 1 (some 31) (v := ?_) rfl rfl (by kernel_rfl) (by kernel_rfl) (by kernel_rfl) (fun _ _ _ h => h) (by rfl) ?_ hHeld ?_
  rotate_left
  · ((intro w hSw); (try dsimp only at hSw); go_simp <;> with_reducible rfl)
  simp only [Act.put, List.setIfInBounds_toArray, List.set_cons_zero, List.set_cons_succ]
  refine take_run 2 (some 32) (v := ?_) rfl rfl (by kernel_rfl) (by kernel_rfl) (by kernel_rfl) (fun _ _ _ h => h) (by rfl) ?_ hHeld ?_
  rotate_left
  · ((intro w hSw); (try dsimp only at hSw); go_simp <;> with_reducible rfl)
  simp only [Act.put, List.setIfInBounds_toArray, List.set_cons_zero, List.set_cons_succ]
  refine take_run 3 (some 33) (v := ?_) rfl rfl (by kernel_rfl) (by kernel_rfl) (by kernel_rfl) (fun _ _ _ h => h) (by rfl) ?_ hHeld ?_
  rotate_left
  · ((intro w hSw); (try dsimp only at hSw); go_simp <;> with_reducible rfl)
  simp only [Act.put, List.setIfInBounds_toArray, List.set_cons_zero, List.set_cons_succ]
  refine take_run 4 (some 34) (v := ?_) rfl rfl (by kernel_rfl) (by kernel_rfl) (by kernel_rfl) (fun _ _ _ h => h) (by rfl) ?_ hHeld ?_
  rotate_left
  · ((intro w hSw); (try dsimp only at hSw); go_simp <;> with_reducible rfl)
  simp only [Act.put, List.setIfInBounds_toArray, List.set_cons_zero, List.set_cons_succ]
  refine take_run 5 (some 35) (v := ?_) rfl rfl (by kernel_rfl) (by kernel_rfl) (by kernel_rfl) (fun _ _ _ h => h) (by rfl) ?_ hHeld ?_
  rotate_left
  · ((intro w hSw); (try dsimp only at hSw); go_simp <;> with_reducible rfl)
  simp only [Act.put, List.setIfInBounds_toArray, List.set_cons_zero, List.set_cons_succ]
  refine take_one 6 (by kernel_rfl) rfl (fun K hK => ?_)
  go_simp
  ((have CT := cfChain_nl (A := some ⟨G5, 0, none⟩) (A' := A7) (c := cap5) (c' := cap7) PF.out.small hpl HN5.out HN7.out (C5.on hHeld.2) (C7.on hHeld.2); rw [HLN.out] at CT; refine CT.mono ?_; clear CT; rintro e wa6 ⟨rfl, hb⟩))
  try go_wp2_with fail
  refine hK.out _ _ (by exact ⟨⟨(B3.on (hHeld.2.trans (hb.mono hHeld.2.size))).at 0, (B4.on (hHeld.2.trans (hb.mono hHeld.2.size))).six.1, (B5.on (hHeld.2.trans (hb.mono hHeld.2.size))).at 0, (B7.on (hHeld.2.trans (hb.mono hHeld.2.size))).at 0⟩, hHeld.2.trans (hb.mono hHeld.2.size)⟩) (fun hHeld => ?_)
  clear hK K
  refine take_run 7 (some 37) (v := ?_) rfl rfl (by kernel_rfl) (by kernel_rfl) (by kernel_rfl) (fun _ _ _ h => h) (by rfl) ?_ hHeld ?_
  rotate_left
  · ((intro w hSw); (try dsimp only at hSw); go_simp <;> with_reducible rfl)
  simp only [Act.put, List.setIfInBounds_toArray, List.set_cons_zero, List.set_cons_succ]
  refine take_run 8 (some 38) (v := ?_) rfl rfl (by kernel_rfl) (by kernel_rfl) (by kernel_rfl) (fun _ _ _ h => h) (by rfl) ?_ hHeld ?_
  rotate_left
  · ((intro w hSw); (try dsimp only at hSw); go_simp <;> with_reducible rfl)
  simp only [Act.put, List.setIfInBounds_toArray, List.set_cons_zero, List.set_cons_succ]
  refine take_run 9 (some 39) (v := ?_) rfl rfl (by kernel_rfl) (by kernel_rfl) (by kernel_rfl) (fun _ _ _ h => h) (by rfl) ?_ hHeld ?_
  rotate_left
  · ((intro w hSw); (try dsimp only at hSw); go_simp <;> with_reducible rfl)
  simp only [Act.put, List.setIfInBounds_toArray, List.set_cons_zero, List.set_cons_succ]
  refine take_run 10 (some 40) (v := ?_) rfl rfl (by kernel_rfl) (by kernel_rfl) (by kernel_rfl) (fun _ _ _ h => h) (by rfl) ?_ hHeld ?_
  rotate_left
  · ((intro w hSw); (try dsimp only at hSw); go_simp <;> with_reducible rfl)
  simp only [Act.put, List.setIfInBounds_toArray, List.set_cons_zero, List.set_cons_succ]
  refine take_run 12 (some 42) (v := ?_) rfl rfl (by kernel_rfl) (by kernel_rfl) (by kernel_rfl) (fun _ _ _ h => h) (by rfl) ?_ hHeld ?_
  rotate_left
  · ((intro w hSw); (try dsimp only at hSw); go_simp <;> with_reducible rfl)
  simp only [Act.put, List.setIfInBounds_toArray, List.set_cons_zero, List.set_cons_succ]
  refine take_one 11 (by kernel_rfl) rfl (fun K hK => ?_)
  go_simp
  ((refine (implChainOk_any (some ⟨G1, 0, none⟩) c1 ns _ hn SM.out (CN.on hHeld.2)).mono ?_; rintro e wb11 ⟨rfl, hb⟩; rw [HP.out]))
  try go_wp2_with fail
  refine hK.out _ _ (by exact ⟨⟨(B3.on (hHeld.2.trans (hb.mono hHeld.2.size))).at 0, (B4.on (hHeld.2.trans (hb.mono hHeld.2.size))).six.1, (B5.on (hHeld.2.trans (hb.mono hHeld.2.size))).at 0, (B7.on (hHeld.2.trans (hb.mono hHeld.2.size))).at 0⟩, hHeld.2.trans (hb.mono hHeld.2.size)⟩) (fun hHeld => ?_)
  clear hK K
  refine take_one 13 (by kernel_rfl) rfl (fun K hK => ?_)
  go_simp
  ((refine (specChainOk_any (some ⟨G1, 0, none⟩) c1 ns _ hn SM.out (CN.on hHeld.2)).mono ?_; rintro e wc13 ⟨rfl, hb⟩; rw [HP.out]))
  try go_wp2_with fail
  refine hK.out _ _ (by exact ⟨⟨(B3.on (hHeld.2.trans (hb.mono hHeld.2.size))).at 0, (B4.on (hHeld.2.trans (hb.mono hHeld.2.size))).six.1, (B5.on (hHeld.2.trans (hb.mono hHeld.2.size))).at 0, (B7.on (hHeld.2.trans (hb.mono hHeld.2.size))).at 0⟩, hHeld.2.trans (hb.mono hHeld.2.size)⟩) (fun hHeld => ?_)
  clear hK K
  refine take_run 14 (some 44) (v := ?_) rfl rfl (by kernel_rfl) (by kernel_rfl) (by kernel_rfl) (fun _ _ _ h => h) (by rfl) ?_ hHeld ?_
  rotate_left
  · ((intro w hSw); (try dsimp only at hSw); go_simp <;> with_reducible rfl)
  simp only [Act.put, List.setIfInBounds_toArray, List.set_cons_zero, List.set_cons_succ]
  refine take_run 15 (some 45) (v := ?_) rfl rfl (by kernel_rfl) (by kernel_rfl) (by kernel_rfl) (fun _ _ _ h => h) (by rfl) ?_ hHeld ?_
  rotate_left
  · ((intro w hSw); (try dsimp only at hSw); go_simp <;> with_reducible rfl)
  simp only [Act.put, List.setIfInBounds_toArray, List.set_cons_zero, List.set_cons_succ]
  refine take_run 16 (some 46) (v := ?_) rfl rfl (by kernel_rfl) (by kernel_rfl) (by kernel_rfl) (fun _ _ _ h => h) (by rfl) ?_ hHeld ?_
  rotate_left
  · ((intro w hSw); (try dsimp only at hSw); go_simp <;> with_reducible rfl)
  simp only [Act.put, List.setIfInBounds_toArray, List.set_cons_zero, List.set_cons_succ]
  refine take_run 17 (some 47) (v := ?_) rfl rfl (by kernel_rfl) (by kernel_rfl) (by kernel_rfl) (fun _ _ _ h => h) (by rfl) ?_ hHeld ?_
  rotate_left
  · ((intro w hSw); (try dsimp only at hSw); go_simp <;> with_reducible rfl)
  simp only [Act.put, List.setIfInBounds_toArray, List.set_cons_zero, List.set_cons_succ]
  refine take_one 18 (by kernel_rfl) rfl (fun K hK => ?_)
  go_simp
  ((refine (implChainOk_any (some ⟨G1, 0, none⟩) c1 ns _ hn SM.out (CN.on hHeld.2)).mono ?_; rintro e wb18 ⟨rfl, hb⟩; rw [HP.out]))
  try go_wp2_with fail
  refine hK.out _ _ (by exact ⟨⟨(B3.on (hHeld.2.trans (hb.mono hHeld.2.size))).at 0, (B4.on (hHeld.2.trans (hb.mono hHeld.2.size))).six.1, (B5.on (hHeld.2.trans (hb.mono hHeld.2.size))).at 0, (B7.on (hHeld.2.trans (hb.mono hHeld.2.size))).at 0⟩, hHeld.2.trans (hb.mono hHeld.2.size)⟩) (fun hHeld => ?_)
  clear hK K
  refine take_run 19 (some 49) (v := ?_) rfl rfl (by kernel_rfl) (by kernel_rfl) (by kernel_rfl) (fun _ _ _ h => h) (by rfl) ?_ hHeld ?_
  rotate_left
  · ((intro w hSw); (try dsimp only at hSw); go_simp <;> with_reducible rfl)
  simp only [Act.put, List.setIfInBounds_toArray, List.set_cons_zero, List.set_cons_succ]
  refine take_run 20 (some 50) (v := ?_) rfl rfl (by kernel_rfl) (by kernel_rfl) (by kernel_rfl) (fun _ _ _ h => h) (by rfl) ?_ hHeld ?_
  rotate_left
  · ((intro w hSw); (try dsimp only at hSw); go_simp <;> with_reducible rfl)
  simp only [Act.put, List.setIfInBounds_toArray, List.set_cons_zero, List.set_cons_succ]
  refine take_run 21 (some 51) (v := ?_) rfl rfl (by kernel_rfl) (by kernel_rfl) (by kernel_rfl) (fun _ _ _ h => h) (by rfl) ?_ hHeld ?_
  rotate_left
  · ((intro w hSw); (try dsimp only at hSw); go_simp <;> with_reducible rfl)
  simp only [Act.put, List.setIfInBounds_toArray, List.set_cons_zero, List.set_cons_succ]
  refine take_run 22 (some 52) (v := ?_) rfl rfl (by kernel_rfl) (by kernel_rfl) (by kernel_rfl) (fun _ _ _ h => h) (by rfl) ?_ hHeld ?_
  rotate_left
  · ((intro w hSw); (try dsimp only at hSw); go_simp <;> with_reducible rfl)
  simp only [Act.put, List.setIfInBounds_toArray, List.set_cons_zero, List.set_cons_succ]
  refine take_one 23 (by kernel_rfl) rfl (fun K hK => ?_)
  go_simp
  ((refine (implVerOk_any v.k v.t v.u v.a v.c v.ts v.s v.g _ hv4' hs' ((TV.on hHeld.2).up hHeld.2.size)).mono ?_; rintro e wd23 ⟨rfl, hb⟩; rw [show verB v.k v.t v.u v.ts v.s v.g = verV v from rfl, HV.out]))
  try go_wp2_with fail
  refine hK.out _ _ (by exact ⟨⟨(B3.on (hHeld.2.trans (hb.mono hHeld.2.size))).at 0, (B4.on (hHeld.2.trans (hb.mono hHeld.2.size))).six.1, (B5.on (hHeld.2.trans (hb.mono hHeld.2.size))).at 0, (B7.on (hHeld.2.trans (hb.mono hHeld.2.size))).at 0⟩, hHeld.2.trans (hb.mono hHeld.2.size)⟩) (fun hHeld => ?_)
  clear hK K
  refine take_run 24 (some 54) (v := ?_) rfl rfl (by kernel_rfl) (by kernel_rfl) (by kernel_rfl) (fun _ _ _ h => h) (by rfl) ?_ hHeld ?_
  rotate_left
  · ((intro w hSw); (try dsimp only at hSw); go_simp <;> with_reducible rfl)
  simp only [Act.put, List.setIfInBounds_toArray, List.set_cons_zero, List.set_cons_succ]
  refine take_run 25 (some 55) (v := ?_) rfl rfl (by kernel_rfl) (by kernel_rfl) (by kernel_rfl) (fun _ _ _ h => h) (by rfl) ?_ hHeld ?_
  rotate_left
  · ((intro w hSw); (try dsimp only at hSw); go_simp <;> with_reducible rfl)
  simp only [Act.put, List.setIfInBounds_toArray, List.set_cons_zero, List.set_cons_succ]
  refine wpAnyH_done (by kernel_rfl) ?_ _
  refine NoPanic.normal ?_
  have LX := hHeld.2
  clear hHeld
  go_wp2_with fail
  go_loopw [9] (fun i wr => ∃ k : Nat, 1 ≤ k ∧ k ≤ ns.length ∧ i = .int .i64 (k : Int) ∧ Below W.heap.size W wr) (fun i _ => ns.length - (intOf i).toNat)
  case atStart => exact ⟨1, Nat.le_refl _, hl1, rfl, LX⟩
  case round =>
    clear LX
    obtain ⟨k, h1k, hk, rfl, hL⟩ := hrel
    have k3 := (B3.on hL).one.1
    by_cases hlt : k < ns.length
    · obtain ⟨n0, hn0⟩ : ∃ n0, ns[k]? = some n0 := ⟨_, List.getElem?_eq_getElem hlt⟩
      have hn1 : (addN ns 0 v)[k]? = some n0 := by rw [addN_is HNH.out, List.getElem?_set_ne (by omega)]; exact hn0
      obtain ⟨n5, hn5⟩ : ∃ n5, us5[k]? = some n5 := ⟨_, List.getElem?_eq_getElem (by omega)⟩
      have hlk := HN5.out.2 k n5 n0 hn5 hn1
      have A1 := CG1.out.at' k n0 hn0
      have A5 := CG5.out.at' k n5 hn5
      rw [NdAt, hlk.1] at A5
      have HLK := hide hlk
      have Q1 := hide A1
      have Q5 := hide A5
      have HT0 := hide (ts_ss SM.out hn0)
      have HT5 : Hid (∀ v ∈ n5.ss, v.ts.length ≤ 1048576) := all_like (P := fun v => v.ts.length ≤ 1048576) hlk.1 hlk.2.1 (fun v u q h => by rw [q.2.2.2.1]; exact h) HT0.out
      have hnl : n0.ss.length ≤ 1048576 := len_ss SM.out hn0
      have V1 := hide (CG1.out.store k n0 hn0)
      have V5 := hide (CG5.out.store k n5 hn5)
      clear A1 A5 hlk hn0 hn1 hn5
      have i1 : (0 : Int) ≤ (k : Int) := by omega
      have i2 : (k : Int) < (ns.length : Int) := by omega
      go_wp2_with fail
      refine wp_region_noPanic ?_
      refine wp_region_held_drew (S := (fun w' => (w'.cell? ⟨p3, 0, none⟩ = some (.slice (some ⟨G1, 0, none⟩) ns.length c1) ∧ w'.cell? ⟨p5, 0, none⟩ = some (.slice (some ⟨G5, 0, none⟩) ns.length cap5) ∧ w'.cell? ⟨G5, k * 2, none⟩ = some (.slice n5.sa n0.ss.length n5.sc) ∧ w'.cell? ⟨G1, k * 2, none⟩ = some (.slice n0.sa n0.ss.length n0.sc)) ∧ Below W.heap.size W w')) (by kernel_rfl) (by exact ⟨⟨(B3.on ((hL).drew)).at 0, (B5.on ((hL).drew)).at 0, ((CG5.out.blk.on ((hL).drew)).at _).trans Q5.out.1, ((CG1.out.blk.on ((hL).drew)).at _).trans Q1.out.1⟩, (hL).drew⟩) (fun hHeld => ?_)
      refine take_run 0 (some 83) (v := ?_) rfl rfl (by kernel_rfl) (by kernel_rfl) (by kernel_rfl) (fun _ _ _ h => h) (by rfl) ?_ hHeld ?_
      rotate_left
      · ((intro w hSw); (try dsimp only at hSw); go_simp <;> with_reducible rfl)
      simp only [Act.put, List.setIfInBounds_toArray, List.set_cons_zero, List.set_cons_succ]
      refine take_run 1 (some 84) (v := ?_) rfl rfl (by kernel_rfl) (by kernel_rfl) (by kernel_rfl) (fun _ _ _ h => h) (by rfl) ?_ hHeld ?_
      rotate_left
      · ((intro w hSw); (try dsimp only at hSw); go_simp <;> with_reducible rfl)
      simp only [Act.put, List.setIfInBounds_toArray, List.set_cons_zero, List.set_cons_succ]
      refine take_run 2 (some 85) (v := ?_) rfl rfl (by kernel_rfl) (by kernel_rfl) (by kernel_rfl) (fun _ _ _ h => h) (by rfl) ?_ hHeld ?_
      rotate_left
      · ((intro w hSw); (try dsimp only at hSw); go_simp <;> with_reducible rfl)
      simp only [Act.put, List.setIfInBounds_toArray, List.set_cons_zero, List.set_cons_succ]
      refine take_run 3 (some 86) (v := ?_) rfl rfl (by kernel_rfl) (by kernel_rfl) (by kernel_rfl) (fun _ _ _ h => h) (by rfl) ?_ hHeld ?_
      rotate_left
      · ((intro w hSw); (try dsimp only at hSw); go_simp <;> with_reducible rfl)
      simp only [Act.put, List.setIfInBounds_toArray, List.set_cons_zero, List.set_cons_succ]
      refine take_run 4 (some 87) (v := ?_) rfl rfl (by kernel_rfl) (by kernel_rfl) (by kernel_rfl) (fun _ _ _ h => h) (by rfl) ?_ hHeld ?_
      rotate_left
      · ((intro w hSw); (try dsimp only at hSw); go_simp <;> with_reducible rfl)
      simp only [Act.put, List.setIfInBounds_toArray, List.set_cons_zero, List.set_cons_succ]
      refine take_run 5 (some 88) (v := ?_) rfl rfl (by kernel_rfl) (by kernel_rfl) (by kernel_rfl) (fun _ _ _ h => h) (by rfl) ?_ hHeld ?_
      rotate_left
      · ((intro w hSw); (try dsimp only at hSw); go_simp <;> with_reducible rfl)
      simp only [Act.put, List.setIfInBounds_toArray, List.set_cons_zero, List.set_cons_succ]
      refine take_run 6 (some 89) (v := ?_) rfl rfl (by kernel_rfl) (by kernel_rfl) (by kernel_rfl) (fun _ _ _ h => h) (by rfl) ?_ hHeld ?_
      rotate_left
      · ((intro w hSw); (try dsimp only at hSw); go_simp <;> with_reducible rfl)
      simp only [Act.put, List.setIfInBounds_toArray, List.set_cons_zero, List.set_cons_succ]
      refine take_run 7 (some 90) (v := ?_) rfl rfl (by kernel_rfl) (by kernel_rfl) (by kernel_rfl) (fun _ _ _ h => h) (by rfl) ?_ hHeld ?_
      rotate_left
      · ((intro w hSw); (try dsimp only at hSw); go_simp <;> with_reducible rfl)
      simp only [Act.put, List.setIfInBounds_toArray, List.set_cons_zero, List.set_cons_succ]
      refine take_run 8 (some 91) (v := ?_) rfl rfl (by kernel_rfl) (by kernel_rfl) (by kernel_rfl) (fun _ _ _ h => h) (by rfl) ?_ hHeld ?_
      rotate_left
      · ((intro w hSw); (try dsimp only at hSw); go_simp <;> with_reducible rfl)
      simp only [Act.put, List.setIfInBounds_toArray, List.set_cons_zero, List.set_cons_succ]
      refine take_run 9 (some 92) (v := ?_) rfl rfl (by kernel_rfl) (by kernel_rfl) (by kernel_rfl) (fun _ _ _ h => h) (by rfl) ?_ hHeld ?_
      rotate_left
      · ((intro w hSw); (try dsimp only at hSw); go_simp <;> with_reducible rfl)
      simp only [Act.put, List.setIfInBounds_toArray, List.set_cons_zero, List.set_cons_succ]
      refine take_run 10 (some 93) (v := ?_) rfl rfl (by kernel_rfl) (by kernel_rfl) (by kernel_rfl) (fun _ _ _ h => h) (by rfl) ?_ hHeld ?_
      rotate_left
      · ((intro w hSw); (try dsimp only at hSw); go_simp <;> with_reducible rfl)
      simp only [Act.put, List.setIfInBounds_toArray, List.set_cons_zero, List.set_cons_succ]
      refine take_run 11 (some 94) (v := ?_) rfl rfl (by kernel_rfl) (by kernel_rfl) (by kernel_rfl) (fun _ _ _ h => h) (by rfl) ?_ hHeld ?_
      rotate_left
      · ((intro w hSw); (try dsimp only at hSw); go_simp <;> with_reducible rfl)
      simp only [Act.put, List.setIfInBounds_toArray, List.set_cons_zero, List.set_cons_succ]
      refine take_one 12 (by kernel_rfl) rfl (fun K hK => ?_)
      go_simp
      (refine (cfStore_same n5.sa n0.sa n5.sc n0.sc n0.ss.length n5.ss n0.ss _ hnl HLK.out.1 rfl HLK.out.2.1 HT5.out ((V5.out.on hHeld.2).up hHeld.2.size) ((V1.out.on hHeld.2).up hHeld.2.size)).mono ?_; rintro e w8 ⟨rfl, hb⟩)
      try go_wp2_with fail
      refine hK.out _ _ (by exact ⟨⟨(B3.on (hHeld.2.trans (hb.mono hHeld.2.size))).at 0, (B5.on (hHeld.2.trans (hb.mono hHeld.2.size))).at 0, ((CG5.out.blk.on (hHeld.2.trans (hb.mono hHeld.2.size))).at _).trans Q5.out.1, ((CG1.out.blk.on (hHeld.2.trans (hb.mono hHeld.2.size))).at _).trans Q1.out.1⟩, hHeld.2.trans (hb.mono hHeld.2.size)⟩) (fun hHeld => ?_)
      clear hK K
      refine take_run 13 (some 96) (v := ?_) rfl rfl (by kernel_rfl) (by kernel_rfl) (by kernel_rfl) (fun _ _ _ h => h) (by rfl) ?_ hHeld ?_
      rotate_left
      · ((intro w hSw); (try dsimp only at hSw); go_simp <;> with_reducible rfl)
      simp only [Act.put, List.setIfInBounds_toArray, List.set_cons_zero, List.set_cons_succ]
      refine wpAnyH_done (by kernel_rfl) ?_ _
      refine NoPanic.normal ?_
      have hL2 := hHeld.2
      clear hHeld hL k3
      go_wp2
      exact ⟨⟨k + 1, by omega, by omega, by go_num, hL2⟩, by simp [intOf]; omega⟩
    · have hkn : k = ns.length := by omega
      subst hkn
      clear hlt
      obtain ⟨n5, hn5⟩ : ∃ n5, us5[0]? = some n5 := ⟨_, List.getElem?_eq_getElem (by omega)⟩
      have hn1 : (addN ns 0 v)[0]? = some (addNd nh (decide (0 + 1 = ns.length)) v) := by rw [addN_is HNH.out, List.getElem?_set_self (by omega)]
      have hlk := HN5.out.2 0 n5 _ hn5 hn1
      have hss : LL n5.ss (addR nh.ss v) := by
        rw [addR_is HSH.out HV.out, ← addNd_ss (b := decide (0 + 1 = ns.length))]
        exact ⟨hlk.1, hlk.2.1⟩
      have Q1 := hide (CG1.out.at' 0 nh HNH.out)
      have A5 := CG5.out.at' 0 n5 hn5
      rw [NdAt, hss.1] at A5
      have Q5 := hide A5
      have HSS := hide hss
      have SMH := hide (small_ss SM.out HNH.out)
      have hnl : nh.ss.length ≤ 1048576 := len_ss SM.out HNH.out
      have har : (addR nh.ss v).length = nh.ss.length := by rw [addR_is HSH.out HV.out, keepL_len]
      have V1 := hide (CG1.out.store 0 nh HNH.out)
      have V5 := hide (CG5.out.store 0 n5 hn5)
      have HT5 : Hid (∀ v ∈ n5.ss, v.ts.length ≤ 1048576) := fun x hx => by
        obtain ⟨i, hi⟩ := List.getElem?_of_mem hx
        obtain ⟨y, hy, hl⟩ := ll_at HSS.out hi
        rw [hl.2.2.2.1]
        rw [addR_is HSH.out HV.out] at hy
        obtain ⟨z, hz⟩ : ∃ z, nh.ss[i]? = some z := ⟨_, List.getElem?_eq_getElem (by have := (List.getElem?_eq_some_iff.1 hy).1; rw [keepL_len] at this; exact this)⟩
        rw [keepL_at hz] at hy
        injection hy with hy
        have hz' := (SMH.out z (List.mem_of_getElem? hz)).1
        split at hy
        · rcases later_or z v with q | q <;> rw [q] at hy <;> rw [← hy]
          · exact hz'
          · exact hv4'
        · rw [← hy]
          exact hz'
      have HAR := hide har
      rw [har] at Q5
      have HU5 := hide (HSS.out.1.trans har)
      clear A5 hlk hn5 hn1 hss har hul
      have i2 : 0 < ns.length := by omega
      have hok : chainB us5 = true := by rw [chainB_like HN5.out]; exact HCA.out
      have HOK := hide hok
      clear hok
      have SM5 := hide (fine_sm (PF.out.like HN5.out))
      go_wp2_with fail
      refine wp_region_noPanic ?_
      refine wp_region_held_drew (S := (fun w' => (w'.cell? ⟨p3, 0, none⟩ = some (.slice (some ⟨G1, 0, none⟩) ns.length c1) ∧ (w'.cell? ⟨p4, 0, none⟩ = some (.int .i64 v.k) ∧ w'.cell? ⟨p4, 1, none⟩ = some (.int .i64 v.t) ∧ w'.cell? ⟨p4, 2, none⟩ = some (.int .i64 v.u) ∧ w'.cell? ⟨p4, 3, none⟩ = some (.slice v.a v.ts.length v.c) ∧ w'.cell? ⟨p4, 4, none⟩ = some (.string v.s) ∧ w'.cell? ⟨p4, 5, none⟩ = some (.bool v.g)) ∧ w'.cell? ⟨p5, 0, none⟩ = some (.slice (some ⟨G5, 0, none⟩) ns.length cap5) ∧ w'.cell? ⟨G5, 0, none⟩ = some (.slice n5.sa nh.ss.length n5.sc) ∧ w'.cell? ⟨G1, 0, none⟩ = some (.slice nh.sa nh.ss.length nh.sc)) ∧ Below W.heap.size W w')) (by kernel_rfl) (by exact ⟨⟨(B3.on ((hL).drew)).at 0, (B4.on ((hL).drew)).six.1, (B5.on ((hL).drew)).at 0, ((CG5.out.blk.on ((hL).drew)).at _).trans Q5.out.1, ((CG1.out.blk.on ((hL).drew)).at _).trans Q1.out.1⟩, (hL).drew⟩) (fun hHeld => ?_)
      refine take_run 0 (some 97) (v := ?_) rfl rfl (by kernel_rfl) (by kernel_rfl) (by kernel_rfl) (fun _ _ _ h => h) (by rfl) ?_ hHeld ?_
      rotate_left
      · ((intro w hSw); (try dsimp only at hSw); go_simp <;> with_reducible rfl)
      simp only [Act.put, List.setIfInBounds_toArray, List.set_cons_zero, List.set_cons_succ]
      refine take_one 1 (by kernel_rfl) rfl (fun K hK => ?_)
      go_simp
      ((have CT := implChainOk_any (some ⟨G5, 0, none⟩) cap5 us5 _ (by have := HUL.out; omega) SM5.out (C5.on hHeld.2); rw [HUL.out, HOK.out] at CT; refine CT.mono ?_; clear CT; rintro e wb1 ⟨rfl, hb⟩))
      try go_wp2_with fail
      refine hK.out _ _ (by exact ⟨⟨(B3.on (hHeld.2.trans (hb.mono hHeld.2.size))).at 0, (B4.on (hHeld.2.trans (hb.mono hHeld.2.size))).six.1, (B5.on (hHeld.2.trans (hb.mono hHeld.2.size))).at 0, ((CG5.out.blk.on (hHeld.2.trans (hb.mono hHeld.2.size))).at _).trans Q5.out.1, ((CG1.out.blk.on (hHeld.2.trans (hb.mono hHeld.2.size))).at _).trans Q1.out.1⟩, hHeld.2.trans (hb.mono hHeld.2.size)⟩) (fun hHeld => ?_)
      clear hK K
      refine take_run 2 (some 99) (v := ?_) rfl rfl (by kernel_rfl) (by kernel_rfl) (by kernel_rfl) (fun _ _ _ h => h) (by rfl) ?_ hHeld ?_
      rotate_left
      · ((intro w hSw); (try dsimp only at hSw); go_simp <;> with_reducible rfl)
      simp only [Act.put, List.setIfInBounds_toArray, List.set_cons_zero, List.set_cons_succ]
      refine take_run 3 (some 100) (v := ?_) rfl rfl (by kernel_rfl) (by kernel_rfl) (by kernel_rfl) (fun _ _ _ h => h) (by rfl) ?_ hHeld ?_
      rotate_left
      · ((intro w hSw); (try dsimp only at hSw); go_simp <;> with_reducible rfl)
      simp only [Act.put, List.setIfInBounds_toArray, List.set_cons_zero, List.set_cons_succ]
      refine take_run 4 (some 101) (v := ?_) rfl rfl (by kernel_rfl) (by kernel_rfl) (by kernel_rfl) (fun _ _ _ h => h) (by rfl) ?_ hHeld ?_
      rotate_left
      · ((intro w hSw); (try dsimp only at hSw); go_simp <;> with_reducible rfl)
      simp only [Act.put, List.setIfInBounds_toArray, List.set_cons_zero, List.set_cons_succ]
      refine take_run 5 (some 102) (v := ?_) rfl rfl (by kernel_rfl) (by kernel_rfl) (by kernel_rfl) (fun _ _ _ h => h) (by rfl) ?_ hHeld ?_
      rotate_left
      · ((intro w hSw); (try dsimp only at hSw); go_simp <;> with_reducible rfl)
      simp only [Act.put, List.setIfInBounds_toArray, List.set_cons_zero, List.set_cons_succ]
      refine take_run 6 (some 103) (v := ?_) rfl rfl (by kernel_rfl) (by kernel_rfl) (by kernel_rfl) (fun _ _ _ h => h) (by rfl) ?_ hHeld ?_
      rotate_left
      · ((intro w hSw); (try dsimp only at hSw); go_simp <;> with_reducible rfl)
      simp only [Act.put, List.setIfInBounds_toArray, List.set_cons_zero, List.set_cons_succ]
      refine take_run 7 (some 104) (v := ?_) rfl rfl (by kernel_rfl) (by kernel_rfl) (by kernel_rfl) (fun _ _ _ h => h) (by rfl) ?_ hHeld ?_
      rotate_left
      · ((intro w hSw); (try dsimp only at hSw); go_simp <;> with_reducible rfl)
      simp only [Act.put, List.setIfInBounds_toArray, List.set_cons_zero, List.set_cons_succ]
      refine take_run 8 (some 105) (v := ?_) rfl rfl (by kernel_rfl) (by kernel_rfl) (by kernel_rfl) (fun _ _ _ h => h) (by rfl) ?_ hHeld ?_
      rotate_left
      · ((intro w hSw); (try dsimp only at hSw); go_simp <;> with_reducible rfl)
      simp only [Act.put, List.setIfInBounds_toArray, List.set_cons_zero, List.set_cons_succ]
      refine take_run 9 (some 106) (v := ?_) rfl rfl (by kernel_rfl) (by kernel_rfl) (by kernel_rfl) (fun _ _ _ h => h) (by rfl) ?_ hHeld ?_
      rotate_left
      · ((intro w hSw); (try dsimp only at hSw); go_simp <;> with_reducible rfl)
      simp only [Act.put, List.setIfInBounds_toArray, List.set_cons_zero, List.set_cons_succ]
      refine take_run 10 (some 107) (v := ?_) rfl rfl (by kernel_rfl) (by kernel_rfl) (by kernel_rfl) (fun _ _ _ h => h) (by rfl) ?_ hHeld ?_
      rotate_left
      · ((intro w hSw); (try dsimp only at hSw); go_simp <;> with_reducible rfl)
      simp only [Act.put, List.setIfInBounds_toArray, List.set_cons_zero, List.set_cons_succ]
      refine take_run 11 (some 108) (v := ?_) rfl rfl (by kernel_rfl) (by kernel_rfl) (by kernel_rfl) (fun _ _ _ h => h) (by rfl) ?_ hHeld ?_
      rotate_left
      · ((intro w hSw); (try dsimp only at hSw); go_simp <;> with_reducible rfl)
      simp only [Act.put, List.setIfInBounds_toArray, List.set_cons_zero, List.set_cons_succ]
      refine take_run 12 (some 109) (v := ?_) rfl rfl (by kernel_rfl) (by kernel_rfl) (by kernel_rfl) (fun _ _ _ h => h) (by rfl) ?_ hHeld ?_
      rotate_left
      · ((intro w hSw); (try dsimp only at hSw); go_simp <;> with_reducible rfl)
      simp only [Act.put, List.setIfInBounds_toArray, List.set_cons_zero, List.set_cons_succ]
      refine take_run 13 (some 110) (v := ?_) rfl rfl (by kernel_rfl) (by kernel_rfl) (by kernel_rfl) (fun _ _ _ h => h) (by rfl) ?_ hHeld ?_
      rotate_left
      · ((intro w hSw); (try dsimp only at hSw); go_simp <;> with_reducible rfl)
      simp only [Act.put, List.setIfInBounds_toArray, List.set_cons_zero, List.set_cons_succ]
      refine take_one 14 (by kernel_rfl) rfl (fun K hK => ?_)
      go_simp
      ((refine (implStoreAdd_any nh.sa nh.sc nh.ss v _ hnl SMH.out ((V1.out.on hHeld.2).up hHeld.2.size) hv4' hs' ((TV.on hHeld.2).up hHeld.2.size)).mono ?_; intro e wa14 ha; obtain ⟨A14, cap14, vs14, he14, hl14, hi14, hR14, hb⟩ := answerS_form ha; clear ha; rw [HAR.out] at he14; subst he14))
      try go_wp2_with fail
      refine hK.out _ _ (by exact ⟨⟨(B3.on (hHeld.2.trans (hb.mono hHeld.2.size))).at 0, (B4.on (hHeld.2.trans (hb.mono hHeld.2.size))).six.1, (B5.on (hHeld.2.trans (hb.mono hHeld.2.size))).at 0, ((CG5.out.blk.on (hHeld.2.trans (hb.mono hHeld.2.size))).at _).trans Q5.out.1, ((CG1.out.blk.on (hHeld.2.trans (hb.mono hHeld.2.size))).at _).trans Q1.out.1⟩, hHeld.2.trans (hb.mono hHeld.2.size)⟩) (fun hHeld => ?_)
      clear hK K
      refine take_one 15 (by kernel_rfl) rfl (fun K hK => ?_)
      go_simp
      ((refine (cfStore_same n5.sa A14 n5.sc cap14 nh.ss.length n5.ss vs14 _ hnl HU5.out (hl14.trans HAR.out) (ll_trans HSS.out (ll_symm ⟨hl14, hi14⟩)).2 HT5.out ((V5.out.on hHeld.2).up hHeld.2.size) hR14.vg).mono ?_; rintro e wb15 ⟨rfl, hb⟩))
      try go_wp2_with fail
      refine hK.out _ _ (by exact ⟨⟨(B3.on (hHeld.2.trans (hb.mono hHeld.2.size))).at 0, (B4.on (hHeld.2.trans (hb.mono hHeld.2.size))).six.1, (B5.on (hHeld.2.trans (hb.mono hHeld.2.size))).at 0, ((CG5.out.blk.on (hHeld.2.trans (hb.mono hHeld.2.size))).at _).trans Q5.out.1, ((CG1.out.blk.on (hHeld.2.trans (hb.mono hHeld.2.size))).at _).trans Q1.out.1⟩, hHeld.2.trans (hb.mono hHeld.2.size)⟩) (fun hHeld => ?_)
      clear hK K
      refine take_run 16 (some 113) (v := ?_) rfl rfl (by kernel_rfl) (by kernel_rfl) (by kernel_rfl) (fun _ _ _ h => h) (by rfl) ?_ hHeld ?_
      rotate_left
      · ((intro w hSw); (try dsimp only at hSw); go_simp <;> with_reducible rfl)
      simp only [Act.put, List.setIfInBounds_toArray, List.set_cons_zero, List.set_cons_succ]
      refine take_run 17 (some 2) (v := ?_) rfl rfl (by kernel_rfl) (by kernel_rfl) (by kernel_rfl) (fun _ _ _ h => h) (by rfl) ?_ hHeld ?_
      rotate_left
      · ((intro w hSw); (try dsimp only at hSw); go_simp <;> with_reducible rfl)
      simp only [Act.put, List.setIfInBounds_toArray, List.set_cons_zero, List.set_cons_succ]
      refine wpAnyH_done (by kernel_rfl) ?_ _
      refine NoPanic.normal ?_
      have L9 := L0.trans (hHeld.2.mono L0.size)
      clear hHeld
      go_wp2
      go_ret
      exact ⟨rfl, L9⟩

set_option maxRecDepth 100000 in
theorem lifted (os : Os) (started : os.Started) (H : Type) (enc : TypeId × Value → H) :
    ReturnsInHanded {} Try.checked os 3 .any (Rows.fnChainPutSpec.pre6 enc Try.prog Try.f3 Rows.fnChainPutRow.domain false) (Rows.fnChainPutSpec.post enc Try.prog Try.f3 false true false false) := by
  refine returnsInHanded_of_change (C := Try.checked) own started (by kernel_rfl) Try.func3
    (ChangeSpec.witness6 (enc := enc) (C := Try.checked) false ⟨#[], #[.slice none 0 0], []⟩ 8 (by kernel_rfl) (by kernel_rfl) (by kernel_rfl) (by kernel_rfl)) ?_
  intro W base args ds gs before hval0 hW hcnd _
  have hval : ∀ (j : Nat) t v, Try.f3.params[j]? = some t → args[j]? = some v → Value.okWide Try.prog W .any base t v := hval0
  have hW' := hW
  obtain ⟨p, q, hA0, hV, rfl, hfz, hnd⟩ := hW
  have hA : DataW.TrodAll enc Try.prog W 0 (fun _ => true) true Try.f3.params.toList args.toList ds p := hA0
  rw [Try.params3] at hA hval
  have hK := hA
  obtain ⟨v0, vs0, d0, ds0, p0, q0, hargs, rfl, rfl, h0, r0⟩ := trodAll_cons hA
  obtain ⟨rfl, rfl, rfl⟩ := trodAll_nil r0
  obtain rfl : args = #[v0] := by cases args; simp_all
  obtain ⟨rfl, rfl⟩ := trodVars_none hV
  obtain ⟨a0, len0, cap0, rfl, b0⟩ := read_bytes (hval 0 22 v0 rfl rfl) h0
  clear hA0 hval0
  refine (walk a0 len0 cap0 W b0).mono fun e W' ⟨he, hb⟩ => ?_
  subst he
  have hK' := stay_all hb (by intro t ht; simp only [List.mem_cons, List.not_mem_nil, or_false] at ht; rcases ht with rfl <;> exact ⟨by kernel_rfl, of_decide_eq_true (by kernel_rfl)⟩) hK
  exact ⟨_, rfl, _, _, _, [], _, [], hW', trodAll_mk1 (shut_bool Try.underlying4 _), hK', rfl, hb.frame _, fun h => by cases h⟩

theorem over : Rows.fnChainPutRow.holds Try.pinned (OpenSpec.ofChange Rows.fnChainPutSpec) :=
  OpenClaim.holds_of_wide 3 Try.f3 rfl rfl rfl rfl rfl rfl rfl ⟨rfl, rfl, rfl, rfl, rfl⟩ rfl rfl rfl rfl rfl (by kernel_rfl) Try.func3
    (by refine joined_of ?_; kernel_rfl) (of_decide_eq_true (by kernel_rfl)) (by unfold Func.isWrapper; first | (rw [if_pos (by decide +kernel)]; kernel_rfl) | (rw [if_neg (by decide +kernel)]; exact ⟨rfl, rfl⟩))
    (fun os started H enc _ => lifted os started H enc)
end Go.Proofs.Ytjnloillcgeodaa.FnChainPut
namespace Go.Proofs.Ytjnloillcgeodaa
/-- The statement itself. -/
theorem fnChainPut_holds : Rows.FnChainPutSaid := FnChainPut.over
#print axioms fnChainPut_holds
end Go.Proofs.Ytjnloillcgeodaa
namespace Go.Proofs.Ytjnloillcgeodaa.FnChainPut
end Go.Proofs.Ytjnloillcgeodaa.FnChainPut
