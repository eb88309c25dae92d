/- Contract of the program's VerPut. Condition: at most 1048576 tags and letters; the table of powers reads as it is laid. -/
import Derived.Test.YtoechhbjfejmjaaDoorPutBody
import Derived.WideShapes
namespace Go.Proofs.YtoechhbjfejmjaaDoor
open Go.RowKit Go.Joins
attribute [local go_sem ↓] Go.wp_at_zero Go.wp_at_succ

theorem put_same (d q : ByteArray) (ts : List (Int × Int)) (r : ByteArray) (h : ∀ x ∈ ts, okB x.1 x.2 = true) : d ++ ⟨#[32]⟩ ++ q ++ ⟨#[32]⟩ ++ bodyS ts r = d ++ ⟨#[32]⟩ ++ q ++ pastS ts ++ ⟨#[32]⟩ ++ r := by
  apply Go.WideShapes.bytes_inj
  have e := bodyS_list ts r h
  simp only [ByteArray.data_append, Array.toList_append, List.append_assoc] at e ⊢
  rw [e]
theorem body_size {ts : List (Int × Int)} {r : ByteArray} (h4 : ts.length ≤ 4) (hr : r.size ≤ 1048577) : (bodyS ts r).size ≤ 140737488355328 := by
  have := words_len h4 hr
  unfold bodyS
  show (Lib.join ((wordsP ts ++ [r]).map (·.data.toList)) [32]).toArray.size ≤ _
  simpa using this
set_option maxRecDepth 100000 in
set_option maxHeartbeats 4000000 in
theorem implVerPut_any (k t u : Int) (a : Option Addr) (c : Nat) (ts : List (Int × Int)) (s : ByteArray) (g : Bool) (w : World) (hn : ts.length ≤ 1048576) (hs : s.size ≤ 1048576) (hT : PowTab w) (hg : Tg w w.heap.size a ts) :
    Calls Tryd.prog 8 #[.agg (verC k t u a ts.length c s g)] w fun e w' => e = .returned (.string (verPutS k t u ts s g)) ∧ Below w.heap.size w w' := by
  have S0 := (Inv.start w).box 36 (verC k t u a ts.length c s g)
  simp only [World.size_alloc] at S0
  cases hv : verB k t u ts s g
  · have HS : Hid (verPutS k t u ts s g = ⟨#[]⟩) := by unfold Hid verPutS; rw [hv]; rfl
    have HV := hide hv
    clear hv
    go_enter Tryd.func8, Tryd.ntmps8
    go_wp2_with fail
    refine (implVerOk_any k t u a c ts s g _ hn (by omega) ((hg.on S0.below).up S0.base)).mono ?_
    rw [HV.out]
    rintro e w1 ⟨rfl, hb1⟩
    have S1 := S0.on hb1
    clear S0
    go_wp2
    go_ret
    exact ⟨by rw [HS.out]; rfl, S1.below⟩
  · obtain ⟨h1, _, h3, h4⟩ := verB_parts hv
    obtain ⟨kn, rfl⟩ := Int.eq_ofNat_of_zero_le h1.1
    have hall : ∀ x ∈ ts, okB x.1 x.2 = true := by
      unfold pastB at h4
      rw [Bool.and_eq_true, List.all_eq_true] at h4
      exact h4.2
    have hn4 : ts.length ≤ 4 := (lowT_past h4).1
    have HV := hide hv
    have HTT := hide hT
    have HG := hide hg
    have zk := decS_size kn
    have zt := tagP_few t u
    have hr0 : (restS s g).size ≤ 1048577 := by
      cases g
      · show (ByteArray.mk #[61] ++ s).size ≤ _
        rw [ByteArray.size_append]
        have : (ByteArray.mk #[61]).size = 1 := rfl
        omega
      · show (1 : Nat) ≤ 1048577
        omega
    have zb := body_size (ts := ts) hn4 hr0
    have HS : Hid (verPutS (kn : Int) t u ts s g = decS kn ++ ⟨#[32]⟩ ++ tagP t u ++ ⟨#[32]⟩ ++ bodyS ts (restS s g)) := by
      unfold Hid verPutS
      rw [hv, if_pos rfl, put_same _ _ _ _ hall, tagP_yes h3]
      cases g <;> rfl
    have k6 : kn ≤ 1000 := by omega
    have hz1 : ¬ (9223372036854775807 < (decS kn).size + 1) := by omega
    have hz2 : ¬ (9223372036854775807 < (decS kn).size + 1 + (tagP t u).size) := by omega
    have hz3 : ¬ (9223372036854775807 < (decS kn).size + 1 + (tagP t u).size + 1) := by omega
    have hz4 : ¬ (9223372036854775807 < (decS kn).size + 1 + (tagP t u).size + 1 + (bodyS ts (restS s g)).size) := by omega
    clear hv h1 h3 h4 hall zk zt hr0 zb hT hg
    go_enter Tryd.func8, Tryd.ntmps8
    go_wp2_with fail
    refine (implVerOk_any (kn : Int) t u a c ts s g _ hn (by omega) ((HG.out.on S0.below).up S0.base)).mono ?_
    rw [HV.out]
    rintro e w1 ⟨rfl, hb1⟩
    have S1 := S0.on hb1
    clear S0 hb1
    have C15 : Hid (∀ W : World, Calls Tryd.prog 23 #[.string s, .bool g] W fun e w' => e = .returned (if g = true then .iface 81 (.agg #[.string s]) else .iface 82 (.agg #[.string s])) ∧ W = w') := by
      intro W
      cases g
      · exact contentOf_false s W
      · exact contentOf_true s W
    have C16 : Hid (∀ W : World, Below w.heap.size w W → Calls Tryd.prog 22 #[.agg #[.slice a ts.length c], if g = true then .iface 81 (.agg #[.string s]) else .iface 82 (.agg #[.string s])] W fun e w' => e = .returned (.string (bodyS ts (restS s g))) ∧ Below W.heap.size W w') := by
      intro W hW
      cases g
      · exact putWords_any a c ts s W hn4 hs (HTT.out.on hW) ((HG.out.on hW).up hW.size)
      · exact putGone_any a c ts s W hn4 (HTT.out.on hW) ((HG.out.on hW).up hW.size)
    generalize (if g = true then Value.iface 81 (.agg #[.string s]) else Value.iface 82 (.agg #[.string s])) = cv at C15 C16
    generalize bodyS ts (restS s g) = bs at HS hz4 C16
    go_wp2_with fail
    refine wp_region_noPanic ?_
    refine wp_region_held_drew (S := (fun w' => (w'.cell? ⟨w.heap.size, 0, none⟩ = some (.int .i64 (kn : Int)) ∧ w'.cell? ⟨w.heap.size, 1, none⟩ = some (.int .i64 t) ∧ w'.cell? ⟨w.heap.size, 2, none⟩ = some (.int .i64 u) ∧ w'.cell? ⟨w.heap.size, 3, none⟩ = some (.slice a ts.length c) ∧ w'.cell? ⟨w.heap.size, 4, none⟩ = some (.string s) ∧ w'.cell? ⟨w.heap.size, 5, none⟩ = some (.bool g)) ∧ Inv w (w.heap.size + 1) [(w.heap.size, 36, verC (kn : Int) t u a ts.length c s g)] w')) (by kernel_rfl) (by exact ⟨(S1.nth 0 rfl).six.1, S1.drew⟩) (fun hHeld => ?_)
    refine take_run 0 (some 6) (v := ?_) rfl rfl (by kernel_rfl) (by kernel_rfl) (by kernel_rfl) (fun _ _ _ h => h) (by rfl) ?_ hHeld ?_
    rotate_left
    · ((intro w hSw); (try dsimp only at hSw); go_simp <;> with_reducible rfl)
    simp only [Act.put, List.setIfInBounds_toArray, List.set_cons_zero, List.set_cons_succ]
    refine take_run 1 (some 7) (v := ?_) rfl rfl (by kernel_rfl) (by kernel_rfl) (by kernel_rfl) (fun _ _ _ h => h) (by rfl) ?_ hHeld ?_
    rotate_left
    · ((intro w hSw); (try dsimp only at hSw); go_simp <;> with_reducible rfl)
    simp only [Act.put, List.setIfInBounds_toArray, List.set_cons_zero, List.set_cons_succ]
    refine take_run 4 (some 10) (v := ?_) rfl rfl (by kernel_rfl) (by kernel_rfl) (by kernel_rfl) (fun _ _ _ h => h) (by rfl) ?_ hHeld ?_
    rotate_left
    · ((intro w hSw); (try dsimp only at hSw); go_simp <;> with_reducible rfl)
    simp only [Act.put, List.setIfInBounds_toArray, List.set_cons_zero, List.set_cons_succ]
    refine take_run 5 (some 11) (v := ?_) rfl rfl (by kernel_rfl) (by kernel_rfl) (by kernel_rfl) (fun _ _ _ h => h) (by rfl) ?_ hHeld ?_
    rotate_left
    · ((intro w hSw); (try dsimp only at hSw); go_simp <;> with_reducible rfl)
    simp only [Act.put, List.setIfInBounds_toArray, List.set_cons_zero, List.set_cons_succ]
    refine take_run 9 (some 15) (v := ?_) rfl rfl (by kernel_rfl) (by kernel_rfl) (by kernel_rfl) (fun _ _ _ h => h) (by rfl) ?_ hHeld ?_
    rotate_left
    · ((intro w hSw); (try dsimp only at hSw); go_simp <;> with_reducible rfl)
    simp only [Act.put, List.setIfInBounds_toArray, List.set_cons_zero, List.set_cons_succ]
    refine take_run 10 (some 16) (v := ?_) rfl rfl (by kernel_rfl) (by kernel_rfl) (by kernel_rfl) (fun _ _ _ h => h) (by rfl) ?_ hHeld ?_
    rotate_left
    · ((intro w hSw); (try dsimp only at hSw); go_simp <;> with_reducible rfl)
    simp only [Act.put, List.setIfInBounds_toArray, List.set_cons_zero, List.set_cons_succ]
    refine take_run 11 (some 17) (v := ?_) rfl rfl (by kernel_rfl) (by kernel_rfl) (by kernel_rfl) (fun _ _ _ h => h) (by rfl) ?_ hHeld ?_
    rotate_left
    · ((intro w hSw); (try dsimp only at hSw); go_simp <;> with_reducible rfl)
    simp only [Act.put, List.setIfInBounds_toArray, List.set_cons_zero, List.set_cons_succ]
    refine take_run 12 (some 18) (v := ?_) rfl rfl (by kernel_rfl) (by kernel_rfl) (by kernel_rfl) (fun _ _ _ h => h) (by rfl) ?_ hHeld ?_
    rotate_left
    · ((intro w hSw); (try dsimp only at hSw); go_simp <;> with_reducible rfl)
    simp only [Act.put, List.setIfInBounds_toArray, List.set_cons_zero, List.set_cons_succ]
    refine take_run 13 (some 19) (v := ?_) rfl rfl (by kernel_rfl) (by kernel_rfl) (by kernel_rfl) (fun _ _ _ h => h) (by rfl) ?_ hHeld ?_
    rotate_left
    · ((intro w hSw); (try dsimp only at hSw); go_simp <;> with_reducible rfl)
    simp only [Act.put, List.setIfInBounds_toArray, List.set_cons_zero, List.set_cons_succ]
    refine take_run 14 (some 20) (v := ?_) rfl rfl (by kernel_rfl) (by kernel_rfl) (by kernel_rfl) (fun _ _ _ h => h) (by rfl) ?_ hHeld ?_
    rotate_left
    · ((intro w hSw); (try dsimp only at hSw); go_simp <;> with_reducible rfl)
    simp only [Act.put, List.setIfInBounds_toArray, List.set_cons_zero, List.set_cons_succ]
    refine take_one 2 (by kernel_rfl) rfl (fun K hK => ?_)
    go_simp
    ((with_reducible refine (itoa_any kn (by omega) _ (HTT.out.on hHeld.2.below)).mono ?_); rintro e w2 ⟨rfl, hb⟩)
    try go_wp2_with fail
    refine hK.out _ _ (by exact ⟨((hHeld.2.on hb).nth 0 rfl).six.1, hHeld.2.on hb⟩) (fun hHeld => ?_)
    clear hK K
    refine take_run 3 (some 9) (v := ?_) rfl rfl (by kernel_rfl) (by kernel_rfl) (by kernel_rfl) (fun _ _ _ h => h) (by rfl) ?_ hHeld ?_
    rotate_left
    · ((intro w hSw); (try dsimp only at hSw); go_simp <;> with_reducible rfl)
    simp only [Act.put, List.setIfInBounds_toArray, List.set_cons_zero, List.set_cons_succ]
    refine take_one 6 (by kernel_rfl) rfl (fun K hK => ?_)
    go_simp
    ((with_reducible refine (implTagPut_any t u _ (HTT.out.on hHeld.2.below)).mono ?_); rintro e w3 ⟨rfl, hb⟩)
    try go_wp2_with fail
    refine hK.out _ _ (by exact ⟨((hHeld.2.on hb).nth 0 rfl).six.1, hHeld.2.on hb⟩) (fun hHeld => ?_)
    clear hK K
    refine take_run 7 (some 13) (v := ?_) rfl rfl (by kernel_rfl) (by kernel_rfl) (by kernel_rfl) (fun _ _ _ h => h) (by rfl) ?_ hHeld ?_
    rotate_left
    · ((intro w hSw); (try dsimp only at hSw); go_simp <;> with_reducible rfl)
    simp only [Act.put, List.setIfInBounds_toArray, List.set_cons_zero, List.set_cons_succ]
    refine take_run 8 (some 14) (v := ?_) rfl rfl (by kernel_rfl) (by kernel_rfl) (by kernel_rfl) (fun _ _ _ h => h) (by rfl) ?_ hHeld ?_
    rotate_left
    · ((intro w hSw); (try dsimp only at hSw); go_simp <;> with_reducible rfl)
    simp only [Act.put, List.setIfInBounds_toArray, List.set_cons_zero, List.set_cons_succ]
    refine take_one 15 (by kernel_rfl) rfl (fun K hK => ?_)
    go_simp
    ((with_reducible refine (C15.out _).mono ?_); rintro e w4 ⟨rfl, rfl⟩)
    try go_wp2_with fail
    refine hK.out _ _ (by exact hHeld) (fun hHeld => ?_)
    clear hK K
    refine take_one 16 (by kernel_rfl) rfl (fun K hK => ?_)
    go_simp
    ((with_reducible refine (C16.out _ hHeld.2.below).mono ?_); rintro e w5 ⟨rfl, hb⟩)
    try go_wp2_with fail
    refine hK.out _ _ (by exact ⟨((hHeld.2.on hb).nth 0 rfl).six.1, hHeld.2.on hb⟩) (fun hHeld => ?_)
    clear hK K
    refine take_run 17 (some 23) (v := ?_) rfl rfl (by kernel_rfl) (by kernel_rfl) (by kernel_rfl) (fun _ _ _ h => h) (by rfl) ?_ hHeld ?_
    rotate_left
    · ((intro w hSw); (try dsimp only at hSw); go_simp <;> with_reducible rfl)
    simp only [Act.put, List.setIfInBounds_toArray, List.set_cons_zero, List.set_cons_succ]
    refine take_run 18 (some 2) (v := ?_) rfl rfl (by kernel_rfl) (by kernel_rfl) (by kernel_rfl) (fun _ _ _ h => h) (by rfl) ?_ hHeld ?_
    rotate_left
    · ((intro w hSw); (try dsimp only at hSw); go_simp <;> with_reducible rfl)
    simp only [Act.put, List.setIfInBounds_toArray, List.set_cons_zero, List.set_cons_succ]
    refine wpAnyH_done (by kernel_rfl) ?_ _
    refine NoPanic.normal ?_
    have L9 := hHeld.2.below
    clear hHeld
    go_wp2
    go_ret
    exact ⟨by rw [HS.out]; rfl, L9⟩
end Go.Proofs.YtoechhbjfejmjaaDoor
