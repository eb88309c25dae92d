/- How rows of logs are compared, marked, and the marks found again. Condition: what is said of each. -/
import Derived.Test.YtnaggcdhimcilaaGreatJLogs
namespace Go.Proofs.YtnaggcdhimcilaaGreat
open Go.RowKit Go.Joins
attribute [local go_sem ↓] Go.wp_at_zero Go.wp_at_succ

/-- How many marks logs bear. -/
def wtL (ls : List Lg) : Int := (ls.map fun l => wts l.vs).sum
def mkL (k : Int) (l : Lg) : Lg := ⟨l.a, l.c, mkVs k l.vs⟩
def mkLs : Int → List Lg → List Lg
  | _, [] => []
  | k, n :: r => mkL k n :: mkLs (k + wts n.vs) r
theorem mkLs_len (k : Int) (ls : List Lg) : (mkLs k ls).length = ls.length := by
  induction ls generalizing k with
  | nil => rfl
  | cons v r ih => simp [mkLs, ih]
theorem wtL_step {ls : List Lg} {j : Nat} {n : Lg} (h : ls[j]? = some n) : wtL (ls.take (j + 1)) = wtL (ls.take j) + wts n.vs := by
  unfold wtL
  rw [List.take_add_one, h]
  simp
theorem wtL_pos (ls : List Lg) : 0 ≤ wtL ls := by
  induction ls with
  | nil => simp [wtL]
  | cons v r ih => have := wts_pos v.vs; unfold wtL at *; simp; omega
theorem wtL_le (ls : List Lg) (j : Nat) : wtL (ls.take j) ≤ wtL ls := by
  have e : wtL ls = wtL (ls.take j) + wtL (ls.drop j) := by
    unfold wtL
    rw [← List.sum_append, ← List.map_append, List.take_append_drop]
  have := wtL_pos (ls.drop j)
  omega
theorem wtL_all (ls : List Lg) : wtL (ls.take ls.length) = wtL ls := by rw [List.take_length]
theorem mkLs_at (k : Int) (ls : List Lg) (j : Nat) : (mkLs k ls)[j]? = (ls[j]?).map (mkL (k + wtL (ls.take j))) := by
  induction ls generalizing k j with
  | nil => simp [mkLs]
  | cons v r ih =>
    cases j with
    | zero => simp [mkLs, wtL]
    | succ j =>
      simp only [mkLs, List.getElem?_cons_succ, ih, List.take_succ_cons]
      congr 1
      funext x
      unfold wtL
      simp [Int.add_assoc]
/-- One log of a row is marked. -/
theorem LgRow.turn1 {w w' : World} {B U G j : Nat} {l : List Lg} {cur : Array Value} {n : Lg} {k : Int} (h : LgRow w B U G l cur) (hj : l[j]? = some n)
    (hs : ResS w' B U n.a (mkVs k n.vs)) (ht : Turn (FootS n.a n.vs) w w') : LgRow w' B U G (l.set j (mkL k n)) cur := by
  have hjl := (List.getElem?_eq_some_iff.1 hj).1
  have key : ∀ (i : Nat) x, (l.set j (mkL k n))[i]? = some x → (i = j ∧ x = mkL k n) ∨ (i ≠ j ∧ l[i]? = some x) := by
    intro i x hx
    by_cases e : i = j
    · subst e
      rw [List.getElem?_set_self hjl] at hx
      injection hx with hx
      exact .inl ⟨rfl, hx.symm⟩
    · rw [List.getElem?_set_ne (fun e' => e e'.symm)] at hx
      exact .inr ⟨e, hx⟩
  have old : ∀ (i : Nat) x, (l.set j (mkL k n))[i]? = some x → ∃ y, l[i]? = some y ∧ ∀ g, FootS x.a x.vs g → FootS y.a y.vs g := by
    intro i x hx
    rcases key i x hx with ⟨rfl, rfl⟩ | ⟨_, hy⟩
    · exact ⟨n, hj, fun g => footS_mk⟩
    · exact ⟨x, hy, fun g hg => hg⟩
  refine ⟨h.blk.turned ht (h.notG hj), h.lo, h.hi, by rw [List.length_set]; exact h.size, ?_, ?_, ?_⟩
  · intro i x hx
    rcases key i x hx with ⟨rfl, rfl⟩ | ⟨_, hy⟩
    · rw [h.at' i n hj]; simp [mkL, mkVs_len]
    · exact h.at' i x hy
  · intro i x hx
    rcases key i x hx with ⟨rfl, rfl⟩ | ⟨hne, hy⟩
    · exact hs
    · exact (h.row i x hy).turnF ht (fun g hf hn => h.apart j i n x (fun e => hne e.symm) hj hy g hn hf)
  · intro i i' x x' hne hx hx' g h1 h2
    obtain ⟨y, hy, e⟩ := old i x hx
    obtain ⟨y', hy', e'⟩ := old i' x' hx'
    exact h.apart i i' y y' hne hy hy' g (e g h1) (e' g h2)
/-- The blocks of the rows of logs. -/
def FootG (ls : List Lg) (g : Nat) : Prop := ∃ (i : Nat) (l : Lg), ls[i]? = some l ∧ FootS l.a l.vs g
/-- Logs of few versions. -/
def FewL (ls : List Lg) : Prop := ∀ l ∈ ls, l.vs.length ≤ 1048576 ∧ ∀ v ∈ l.vs, v.ts.length ≤ 1048576
def MarkedLF (w : World) (B U G : Nat) (ls : List Lg) (k : Int) (e : Ending) (w' : World) : Prop :=
  e = .returned (.int .i64 (k + wtL ls)) ∧ (∃ cur, LgRow w' B U G (mkLs k ls) cur) ∧ Turn (FootG ls) w w'
set_option maxRecDepth 100000 in
set_option maxHeartbeats 4000000 in
theorem markVerSS_foot (B U G c : Nat) (ls : List Lg) (cur : Array Value) (k : Int) (w : World) (hR : LgRow w B U G ls cur) (hm : FewL ls) (hn : ls.length ≤ 1048576) (hk0 : 1 ≤ k) (hk : k + wtL ls ≤ 8388000) :
    Calls Tryz.prog 38 #[.slice (some ⟨G, 0, none⟩) ls.length c, .int .i64 k] w (MarkedLF w B U G ls k) := by
  have HM := hide hm
  clear hm
  have HT : Hid (wtL (ls.take ls.length) = wtL ls) := wtL_all ls
  generalize hnn : ls.length = n at *
  have HN := hide hnn
  clear hnn
  go_enter Tryz.func38, Tryz.ntmps38
  go_wp2
  go_loopw [1, 5] (fun v i wr => ∃ (j : Nat) (m : Int) (l : List Lg), j ≤ n ∧ i = .int .i64 (j : Int) ∧ v = .int .i64 m ∧ Hid (m = k + wtL (ls.take j)) ∧ LgRow wr B U G l cur ∧ Hid (l.length = n ∧ (∀ i, i < j → l[i]? = (mkLs k ls)[i]?) ∧ ∀ i, j ≤ i → l[i]? = ls[i]?) ∧ Turn (FootG ls) w wr) (fun _ i _ => n - (intOf i).toNat)
  case atStart => exact ⟨0, k, ls, Nat.zero_le _, rfl, rfl, by unfold Hid wtL; simp, hR, ⟨HN.out, fun i hi => absurd hi (by omega), fun _ _ => rfl⟩, Turn.refl _ _⟩
  case round =>
    obtain ⟨j, m, l, hj, rfl, rfl, HMM, hO, HL, hT⟩ := hrel
    clear hR
    by_cases hlt : j < n
    · obtain ⟨v, hv⟩ : ∃ v, ls[j]? = some v := ⟨_, List.getElem?_eq_getElem (by have := HN.out; omega)⟩
      have hlj : l[j]? = some v := by rw [HL.out.2.2 j (Nat.le_refl _), hv]
      have HB := hide (HM.out v (List.mem_of_getElem? hv))
      have st := wtL_step hv
      have le := wtL_le ls (j + 1)
      have ps := wtL_pos (ls.take j)
      have p1 := wts_pos v.vs
      have HV := hide hv
      have HLJ := hide hlj
      have b1 : 1 ≤ m := by have := HMM.out; omega
      have b2 : m + wts v.vs ≤ 8388000 := by have := HMM.out; omega
      have H2 : Hid (m + wts v.vs = k + wtL (ls.take (j + 1))) := by have := HMM.out; unfold Hid; omega
      have d0 := (hO.blk.at j).trans (hO.at' j v hlj)
      have HO := hide hO
      have RS := hide (hO.row j v hlj)
      have HTT := hide hT
      have i1 : (0 : Int) ≤ (j : Int) := by omega
      have i2 : (j : Int) < (n : Int) := by omega
      clear st le ps hv hlj hO hT
      go_wp2_with fail
      refine (markSF_any B U v.a v.c v.vs m wr RS.out HB.out.2 HB.out.1 (by omega) (by omega)).mono ?_
      rintro e w1 ⟨rfl, hM1, T1⟩
      have HR9 : Hid (LgRow w1 B U G (l.set j (mkL m v)) cur) := HO.out.turn1 HLJ.out hM1 T1
      have HT9 : Hid (Turn (FootG ls) w w1) := HTT.out.trans ⟨T1.os, T1.tape, T1.output, T1.size, fun i hi hn => T1.block i hi (fun e => hn ⟨j, v, HV.out, e⟩)⟩
      have HL9 : Hid ((l.set j (mkL m v)).length = n ∧ (∀ i, i < j + 1 → (l.set j (mkL m v))[i]? = (mkLs k ls)[i]?) ∧ ∀ i, j + 1 ≤ i → (l.set j (mkL m v))[i]? = ls[i]?) := by
        refine ⟨by rw [List.length_set]; exact HL.out.1, fun i hi => ?_, fun i hi => ?_⟩
        · by_cases e : i = j
          · subst e
            rw [List.getElem?_set_self (by have := HL.out.1; omega), mkLs_at, HV.out, ← HMM.out]
            rfl
          · rw [List.getElem?_set_ne (fun e' => e e'.symm)]
            exact HL.out.2.1 i (by omega)
        · rw [List.getElem?_set_ne (by omega)]
          exact HL.out.2.2 i (by omega)
      clear d0 hM1 T1 HL
      go_wp2
      exact ⟨⟨j + 1, _, _, by omega, by go_num, rfl, H2, HR9.out, HL9, HT9.out⟩, by simp [intOf]; omega⟩
    · have hjn : j = n := by omega
      subst hjn
      clear hlt
      have hl : l = mkLs k ls := by
        apply List.ext_getElem?
        intro i
        by_cases hi : i < j
        · exact HL.out.2.1 i hi
        · rw [HL.out.2.2 i (by omega), List.getElem?_eq_none (by have := HN.out; omega), List.getElem?_eq_none (by rw [mkLs_len]; have := HN.out; omega)]
      subst hl
      have HO := hide hO
      have HTT := hide hT
      clear hO hT
      go_wp2
      go_ret
      exact ⟨ret_int (by rw [HMM.out, HT.out]), ⟨cur, HO.out⟩, HTT.out⟩
set_option maxRecDepth 100000 in
set_option maxHeartbeats 4000000 in
theorem heldVerSS_row (B U G c : Nat) (ls : List Lg) (cur : Array Value) (k : Int) (w : World) (hR : LgRow w B U G (mkLs k ls) cur) (hm : FewL ls) (hn : ls.length ≤ 1048576) (hk0 : 1 ≤ k) (hk : k + wtL ls ≤ 8388000) :
    Calls Tryz.prog 41 #[.slice (some ⟨G, 0, none⟩) ls.length c, .int .i64 k] w fun e w' => e = .returned (.int .i64 (k + wtL ls)) ∧ Below w.heap.size w w' := by
  have HM := hide hm
  clear hm
  have HT : Hid (wtL (ls.take ls.length) = wtL ls) := wtL_all ls
  generalize hnn : ls.length = n at *
  have HN := hide hnn
  clear hnn
  have HR := hide hR
  clear hR
  go_enter Tryz.func41, Tryz.ntmps41
  go_wp2
  go_loopw [1, 5] (fun v i wr => ∃ (j : Nat) (m : Int), j ≤ n ∧ i = .int .i64 (j : Int) ∧ v = .int .i64 m ∧ Hid (m = k + wtL (ls.take j)) ∧ Hid (Below w.heap.size w wr)) (fun _ i _ => n - (intOf i).toNat)
  case atStart => exact ⟨0, k, Nat.zero_le _, rfl, rfl, by unfold Hid wtL; simp, Below.refl _ _⟩
  case round =>
    obtain ⟨j, m, hj, rfl, rfl, HMM, hL⟩ := hrel
    have hRw := HR.out.on hL.out
    by_cases hlt : j < n
    · obtain ⟨v, hv⟩ : ∃ v, ls[j]? = some v := ⟨_, List.getElem?_eq_getElem (by have := HN.out; omega)⟩
      have hmj : (mkLs k ls)[j]? = some (mkL m v) := by rw [mkLs_at, hv, HMM.out]; rfl
      have HB := hide (HM.out v (List.mem_of_getElem? hv))
      have st := wtL_step hv
      have le := wtL_le ls (j + 1)
      have ps := wtL_pos (ls.take j)
      have p1 := wts_pos v.vs
      have b1 : 1 ≤ m := by have := HMM.out; omega
      have b2 : m + wts v.vs ≤ 8388000 := by have := HMM.out; omega
      have H2 : Hid (m + wts v.vs = k + wtL (ls.take (j + 1))) := by have := HMM.out; unfold Hid; omega
      have q0 := hRw.at' j _ hmj
      have RS : Hid (ResS wr B U v.a (mkVs m v.vs)) := hRw.row j _ hmj
      simp only [mkL, mkVs_len] at q0
      have d0 := (hRw.blk.at j).trans q0
      have i1 : (0 : Int) ≤ (j : Int) := by omega
      have i2 : (j : Int) < (n : Int) := by omega
      clear st le ps hv hmj q0 hRw
      go_wp2_with fail
      refine (heldSF_any B U v.a v.c v.vs m wr RS.out HB.out.2 HB.out.1 (by omega) (by omega)).mono ?_
      rintro e w1 ⟨rfl, hb1⟩
      have hpos : ¬ (m + wts v.vs < 0) := by omega
      have HB2 : Hid (Below w.heap.size w w1) := hL.out.trans (hb1.mono hL.out.size)
      clear d0 hb1
      go_wp2
      exact ⟨⟨j + 1, _, by omega, by go_num, rfl, H2, HB2⟩, by simp [intOf]; omega⟩
    · have hjn : j = n := by omega
      subst hjn
      clear hlt hRw
      go_wp2
      go_ret
      exact ⟨ret_int (by rw [HMM.out, HT.out]), hL.out⟩
set_option maxRecDepth 100000 in
set_option maxHeartbeats 4000000 in
theorem eqVerSS_same (a a' : Option Addr) (c c' : Nat) (ls us : List Lg) (w : World) (hn : ls.length ≤ 1048576) (hl : LLs ls us) (hm : FewL ls) (hv : Lgs w w.heap.size a ls) (hu : Lgs w w.heap.size a' us) :
    Calls Tryz.prog 35 #[.slice a ls.length c, .slice a' us.length c'] w fun e w' => e = .returned (.bool true) ∧ Below w.heap.size w w' := by
  have HK := hide hl.2
  have HM := hide hm
  have HV := hide hv
  have HW := hide hu
  have hun := hl.1
  rw [← hun]
  generalize hvn : ls.length = n at *
  have HN := hide hvn
  have HU := hide hun
  clear hvn hun hl hm hv hu
  go_enter Tryz.func35, Tryz.ntmps35
  go_wp2
  go_loopw [5] (fun i wr => ∃ k : Nat, k ≤ n ∧ i = .int .i64 (k : Int) ∧ Hid (Below w.heap.size w wr)) (fun i _ => n - (intOf i).toNat)
  case atStart => exact ⟨0, Nat.zero_le _, rfl, Below.refl _ _⟩
  case round =>
    obtain ⟨k, hk, rfl, hL⟩ := hrel
    by_cases hlt : k < n
    · rcases HV.out with h0 | ⟨b, off, rfl, hb, hx⟩
      · have := HN.out; rw [h0] at this; simp at this; omega
      rcases HW.out with h0 | ⟨b', off', rfl, hb', hx'⟩
      · have := HU.out; rw [h0] at this; simp at this; omega
      obtain ⟨v, hv⟩ : ∃ v, ls[k]? = some v := ⟨_, List.getElem?_eq_getElem (by have := HN.out; omega)⟩
      obtain ⟨u, hu⟩ : ∃ u, us[k]? = some u := ⟨_, List.getElem?_eq_getElem (by have := HU.out; omega)⟩
      have HB := hide (HM.out v (List.mem_of_getElem? hv))
      have HE := hide (HK.out k v u hv hu)
      obtain ⟨c0, V0⟩ := hx k v hv
      obtain ⟨c1, V1⟩ := hx' k u hu
      rw [← HE.out.1] at c1
      have C0 := hide c0
      have C1 := hide c1
      have V0 := hide V0
      have V1 := hide V1
      clear hv hu c0 c1 hx hx' HV HW
      have i1 : (0 : Int) ≤ (k : Int) := by omega
      have i2 : (k : Int) < (n : Int) := by omega
      have jh : ∀ w', Below w.heap.size w w' → w'.cell? ⟨b, off + k, none⟩ = some (.slice v.a v.vs.length v.c) ∧ w'.cell? ⟨b', off' + k, none⟩ = some (.slice u.a v.vs.length u.c) ∧ Below w.heap.size w w' := fun w' hbb =>
        ⟨(hbb.cell (p := ⟨b, off + k, none⟩) hb).trans C0.out, (hbb.cell (p := ⟨b', off' + k, none⟩) hb').trans C1.out, hbb⟩
      go_wp2_with fail
      refine wp_region_noPanic ?_
      refine wp_region_held_drew (S := (fun w' => w'.cell? ⟨b, off + k, none⟩ = some (.slice v.a v.vs.length v.c) ∧ w'.cell? ⟨b', off' + k, none⟩ = some (.slice u.a v.vs.length u.c) ∧ Below w.heap.size w w')) (by kernel_rfl) (by exact jh _ hL.out.drew) (fun hHeld => ?_)
      refine take_run 0 (some 17) (v := ?_) rfl rfl (by kernel_rfl) (by kernel_rfl) (by kernel_rfl) (fun _ _ _ h => h) (by rfl) ?_ hHeld ?_
      rotate_left
      · ((intro w hSw); (try dsimp only at hSw); go_simp <;> with_reducible rfl)
      simp only [Act.put, List.setIfInBounds_toArray, List.set_cons_zero, List.set_cons_succ]
      refine take_run 1 (some 18) (v := ?_) rfl rfl (by kernel_rfl) (by kernel_rfl) (by kernel_rfl) (fun _ _ _ h => h) (by rfl) ?_ hHeld ?_
      rotate_left
      · ((intro w hSw); (try dsimp only at hSw); go_simp <;> with_reducible rfl)
      simp only [Act.put, List.setIfInBounds_toArray, List.set_cons_zero, List.set_cons_succ]
      refine take_run 2 (some 19) (v := ?_) rfl rfl (by kernel_rfl) (by kernel_rfl) (by kernel_rfl) (fun _ _ _ h => h) (by rfl) ?_ hHeld ?_
      rotate_left
      · ((intro w hSw); (try dsimp only at hSw); go_simp <;> with_reducible rfl)
      simp only [Act.put, List.setIfInBounds_toArray, List.set_cons_zero, List.set_cons_succ]
      refine take_run 3 (some 20) (v := ?_) rfl rfl (by kernel_rfl) (by kernel_rfl) (by kernel_rfl) (fun _ _ _ h => h) (by rfl) ?_ hHeld ?_
      rotate_left
      · ((intro w hSw); (try dsimp only at hSw); go_simp <;> with_reducible rfl)
      simp only [Act.put, List.setIfInBounds_toArray, List.set_cons_zero, List.set_cons_succ]
      refine take_run 4 (some 21) (v := ?_) rfl rfl (by kernel_rfl) (by kernel_rfl) (by kernel_rfl) (fun _ _ _ h => h) (by rfl) ?_ hHeld ?_
      rotate_left
      · ((intro w hSw); (try dsimp only at hSw); go_simp <;> with_reducible rfl)
      simp only [Act.put, List.setIfInBounds_toArray, List.set_cons_zero, List.set_cons_succ]
      refine take_run 5 (some 22) (v := ?_) rfl rfl (by kernel_rfl) (by kernel_rfl) (by kernel_rfl) (fun _ _ _ h => h) (by rfl) ?_ hHeld ?_
      rotate_left
      · ((intro w hSw); (try dsimp only at hSw); go_simp <;> with_reducible rfl)
      simp only [Act.put, List.setIfInBounds_toArray, List.set_cons_zero, List.set_cons_succ]
      refine take_run 6 (some 23) (v := ?_) rfl rfl (by kernel_rfl) (by kernel_rfl) (by kernel_rfl) (fun _ _ _ h => h) (by rfl) ?_ hHeld ?_
      rotate_left
      · ((intro w hSw); (try dsimp only at hSw); go_simp <;> with_reducible rfl)
      simp only [Act.put, List.setIfInBounds_toArray, List.set_cons_zero, List.set_cons_succ]
      refine take_run 7 (some 24) (v := ?_) rfl rfl (by kernel_rfl) (by kernel_rfl) (by kernel_rfl) (fun _ _ _ h => h) (by rfl) ?_ hHeld ?_
      rotate_left
      · ((intro w hSw); (try dsimp only at hSw); go_simp <;> with_reducible rfl)
      simp only [Act.put, List.setIfInBounds_toArray, List.set_cons_zero, List.set_cons_succ]
      refine take_one 8 (by kernel_rfl) rfl (fun K hK => ?_)
      go_simp
      (refine (eqVerS_same v.a u.a v.c u.c v.vs.length v.vs u.vs _ HB.out.1 rfl HE.out.1.symm HE.out.2 HB.out.2 ((V0.out.on hHeld.2.2).up hHeld.2.2.size) ((V1.out.on hHeld.2.2).up hHeld.2.2.size)).mono ?_; rintro e w1 ⟨rfl, hb1⟩)
      try go_wp2_with fail
      refine hK.out _ _ (by exact jh _ (hHeld.2.2.trans (hb1.mono hHeld.2.2.size))) (fun hHeld => ?_)
      clear hK K
      refine take_run 9 (some 26) (v := ?_) rfl rfl (by kernel_rfl) (by kernel_rfl) (by kernel_rfl) (fun _ _ _ h => h) (by rfl) ?_ hHeld ?_
      rotate_left
      · ((intro w hSw); (try dsimp only at hSw); go_simp <;> with_reducible rfl)
      simp only [Act.put, List.setIfInBounds_toArray, List.set_cons_zero, List.set_cons_succ]
      refine wpAnyH_done (by kernel_rfl) ?_ _
      refine NoPanic.normal ?_
      have hL2 := hide hHeld.2.2
      clear hHeld hL
      go_wp2
      exact ⟨⟨k + 1, by omega, by go_num, hL2⟩, by simp [intOf]; omega⟩
    · have hkn : k = n := by omega
      subst hkn
      clear hlt
      go_wp2
      go_ret
      exact ⟨rfl, hL.out⟩
set_option maxHeartbeats 1000000 in
theorem markVerSS_nil (A : Option Addr) (c : Nat) (k : Int) (W : World) :
    Calls Tryz.prog 38 #[.slice A 0 c, .int .i64 k] W fun e w' => e = .returned (.int .i64 k) ∧ W = w' := by
  go_enter Tryz.func38, Tryz.ntmps38
  go_wp2
  go_loop [1, 5] (fun v i => v = .int .i64 k ∧ i = .int .i64 0) (fun _ _ => 0)
  case atStart => exact ⟨rfl, rfl⟩
  case round =>
    obtain ⟨rfl, rfl⟩ := hrel
    go_wp2
    go_ret
    exact ⟨rfl, rfl⟩
set_option maxHeartbeats 1000000 in
theorem heldVerSS_nil (A : Option Addr) (c : Nat) (k : Int) (W : World) :
    Calls Tryz.prog 41 #[.slice A 0 c, .int .i64 k] W fun e w' => e = .returned (.int .i64 k) ∧ W = w' := by
  go_enter Tryz.func41, Tryz.ntmps41
  go_wp2
  go_loop [1, 5] (fun v i => v = .int .i64 k ∧ i = .int .i64 0) (fun _ _ => 0)
  case atStart => exact ⟨rfl, rfl⟩
  case round =>
    obtain ⟨rfl, rfl⟩ := hrel
    go_wp2
    go_ret
    exact ⟨rfl, rfl⟩
/-- A slice of logs that a call has made: none, or in blocks of its own from B on and below U. -/
def ResL (w : World) (B U : Nat) (A : Option Addr) (ls : List Lg) : Prop := ls = [] ∨ ∃ G cur, A = some ⟨G, 0, none⟩ ∧ LgRow w B U G ls cur
/-- The blocks of a slice of logs. -/
def FootL (A : Option Addr) (ls : List Lg) (g : Nat) : Prop := ls ≠ [] ∧ ∃ G, A = some ⟨G, 0, none⟩ ∧ (g = G ∨ FootG ls g)
theorem ResL.turnF {P : Nat → Prop} {w w' : World} {B U : Nat} {A : Option Addr} {ls : List Lg} (h : ResL w B U A ls) (ht : Turn P w w') (hp : ∀ g, FootL A ls g → ¬ P g) : ResL w' B U A ls := by
  by_cases h0 : ls = []
  · exact .inl h0
  · rcases h with h | ⟨G, cur, rfl, hO⟩
    · exact .inl h
    · exact .inr ⟨G, cur, rfl, hO.turned ht (hp G ⟨h0, G, rfl, .inl rfl⟩) (fun i l hi g hf => hp g ⟨h0, G, rfl, .inr ⟨i, l, hi, hf⟩⟩)⟩
theorem ResL.on {w w' : World} {B U : Nat} {A : Option Addr} {ls : List Lg} (h : ResL w B U A ls) (hb : Below w.heap.size w w') : ResL w' B U A ls := h.turnF (P := fun _ => False) (.below hb) (fun _ _ h => h)
theorem ResL.wide {w : World} {B B' U U' : Nat} {A : Option Addr} {ls : List Lg} (h : ResL w B U A ls) (hB : B' ≤ B) (hU : U ≤ U') : ResL w B' U' A ls := by
  rcases h with h | ⟨G, cur, h1, h2⟩
  · exact .inl h
  · exact .inr ⟨G, cur, h1, h2.wide hB hU⟩
theorem ResL.lgs {w : World} {B U : Nat} {A : Option Addr} {ls : List Lg} (h : ResL w B U A ls) : Lgs w w.heap.size A ls := by
  rcases h with h | ⟨G, cur, rfl, h2⟩
  · exact .inl h
  · exact h2.lgs
theorem ResL.foot {w : World} {B U : Nat} {A : Option Addr} {ls : List Lg} (h : ResL w B U A ls) {g : Nat} (hf : FootL A ls g) : B ≤ g ∧ g < U := by
  obtain ⟨h0, G, rfl, hf⟩ := hf
  rcases h with h | ⟨G', cur, e, h2⟩
  · exact absurd h h0
  · injection e with e
    injection e with e
    subst e
    rcases hf with rfl | ⟨i, l, hi, hf⟩
    · exact ⟨h2.lo, h2.hi⟩
    · exact (h2.row i l hi).foot hf
theorem footL_mk {A : Option Addr} {k : Int} {ls : List Lg} {g : Nat} (h : FootL A (mkLs k ls) g) : FootL A ls g := by
  obtain ⟨h0, G, ha, hf⟩ := h
  refine ⟨fun e => h0 (by rw [e]; rfl), G, ha, ?_⟩
  rcases hf with h | ⟨i, l, hi, hf⟩
  · exact .inl h
  · rw [mkLs_at] at hi
    cases hx : ls[i]? with
    | none => rw [hx] at hi; cases hi
    | some x =>
      rw [hx] at hi
      simp only [Option.map_some] at hi
      injection hi with hi
      subst hi
      exact .inr ⟨i, x, hx, footS_mk hf⟩
theorem markResL_any (B U : Nat) (A : Option Addr) (c : Nat) (ls : List Lg) (k : Int) (w : World) (hR : ResL w B U A ls) (hm : FewL ls) (hn : ls.length ≤ 1048576) (hk0 : 1 ≤ k) (hk : k + wtL ls ≤ 8388000) :
    Calls Tryz.prog 38 #[.slice A ls.length c, .int .i64 k] w fun e w' => e = .returned (.int .i64 (k + wtL ls)) ∧ ResL w' B U A (mkLs k ls) ∧ Turn (FootL A ls) w w' := by
  by_cases h0 : ls = []
  · subst h0
    exact (markVerSS_nil A c k w).mono fun e w' ⟨he, hw⟩ => ⟨by rw [he]; simp [wtL], .inl rfl, by rw [← hw]; exact Turn.refl _ _⟩
  · rcases hR with h | ⟨G, cur, rfl, hO⟩
    · exact absurd h h0
    · exact (markVerSS_foot B U G c ls cur k w hO hm hn hk0 hk).mono fun e w' ⟨he, ⟨cur', h1⟩, h2⟩ => ⟨he, .inr ⟨G, cur', rfl, h1⟩, ⟨h2.os, h2.tape, h2.output, h2.size, fun i hi hn => h2.block i hi (fun hf => hn ⟨h0, G, rfl, .inr hf⟩)⟩⟩
theorem heldResL_any (B U : Nat) (A : Option Addr) (c : Nat) (ls : List Lg) (k : Int) (w : World) (hR : ResL w B U A (mkLs k ls)) (hm : FewL ls) (hn : ls.length ≤ 1048576) (hk0 : 1 ≤ k) (hk : k + wtL ls ≤ 8388000) :
    Calls Tryz.prog 41 #[.slice A ls.length c, .int .i64 k] w fun e w' => e = .returned (.int .i64 (k + wtL ls)) ∧ Below w.heap.size w w' := by
  by_cases h0 : ls = []
  · subst h0
    exact (heldVerSS_nil A c k w).mono fun e w' ⟨he, hw⟩ => ⟨by rw [he]; simp [wtL], by rw [← hw]; exact Below.refl _ _⟩
  · rcases hR with h | ⟨G, cur, rfl, hO⟩
    · have := mkLs_len k ls
      rw [h] at this
      exact absurd (List.length_eq_zero_iff.1 this.symm) h0
    · exact heldVerSS_row B U G c ls cur k w hO hm hn hk0 hk
end Go.Proofs.YtnaggcdhimcilaaGreat
/- Places: their values, how they are read, their size, how they are copied, compared, marked, and the marks found again. Condition: what is said of each. -/
namespace Go.Proofs.YtnaggcdhimcilaaGreat
open Go.RowKit Go.Joins
attribute [local go_sem ↓] Go.wp_at_zero Go.wp_at_succ

/-- A place as it lies in memory. -/
structure Pl where
  me : Int
  ck : Int
  ca : Option Addr
  cc : Nat
  ns : List Nd
  la : Option Addr
  lc : Nat
  log : List V
  ga : Option Addr
  gc : Nat
  gs : List Lg
  fell : Bool
/-- Its cells. -/
abbrev plCells (p : Pl) : Array Value := #[.int .i64 p.me, .int .i64 p.ck, .slice p.ca p.ns.length p.cc, .slice p.la p.log.length p.lc, .slice p.ga p.gs.length p.gc, .bool p.fell]
/-- Cells of a place whose slices have these lengths. -/
abbrev plAt (me ck : Int) (ca : Option Addr) (cn cc : Nat) (la : Option Addr) (ln lc : Nat) (ga : Option Addr) (gn gc : Nat) (f : Bool) : Array Value := #[.int .i64 me, .int .i64 ck, .slice ca cn cc, .slice la ln lc, .slice ga gn gc, .bool f]
/-- A place that can be read, in old memory. -/
def Pg (w : World) (B : Nat) (p : Pl) : Prop := Ng w B p.ca p.ns ∧ Vg w B p.la p.log ∧ Lgs w B p.ga p.gs
theorem Pg.on {w w' : World} {B : Nat} {p : Pl} (h : Pg w B p) (hb : Below B w w') : Pg w' B p := ⟨h.1.on hb, h.2.1.on hb, h.2.2.on hb⟩
theorem Pg.up {w : World} {B B' : Nat} {p : Pl} (h : Pg w B p) (hB : B ≤ B') : Pg w B' p := ⟨h.1.up hB, h.2.1.up hB, h.2.2.up hB⟩
/-- How much a place weighs. -/
def totC (p : Pl) : Nat := p.ns.length + totNs p.ns
def totLg (p : Pl) : Nat := p.log.length + tot p.log
def totGt (p : Pl) : Nat := p.gs.length + totL p.gs
def totP (p : Pl) : Nat := totC p + totLg p + totGt p
def BigP (p : Pl) : Prop := (p.ns.length ≤ 9223372036854775807 ∧ BigN p.ns) ∧ BigV p.log ∧ p.gs.length ≤ 9223372036854775807 ∧ BigL p.gs
set_option maxHeartbeats 2000000 in
theorem szPlace_fits (p : Pl) (left : Int) (w : World) (h0 : left ≤ 1048576) (hf : (totP p : Int) ≤ left) (hv : Pg w w.heap.size p) :
    Calls Tryz.prog 6 #[.agg (plCells p), .int .i64 left] w fun e w' => e = .returned (.int .i64 (left - totP p)) ∧ Below w.heap.size w w' := by
  have HE : Hid ((totP p : Int) = ((p.ns.length : Int) + totNs p.ns) + (p.log.length + tot p.log) + (p.gs.length + totL p.gs)) := by unfold Hid totP totC totLg totGt; omega
  have S0 := (Inv.start w).box 28 (plCells p)
  simp only [World.size_alloc] at S0
  obtain ⟨me, ck, ca, cc, ns, la, lc, log, ga, gc, gs, fell⟩ := p
  simp only at HE hv S0
  have q0 := (S0.nth 0 rfl).six
  have h1 : ¬ (left - (ns.length : Int) - (totNs ns : Int) < 0) := by have := HE.out; omega
  have h2 : ¬ (left - (ns.length : Int) - (totNs ns : Int) - (log.length : Int) - (tot log : Int) < 0) := by have := HE.out; omega
  have h3 : ¬ (left - (ns.length : Int) - (totNs ns : Int) - (log.length : Int) - (tot log : Int) - (gs.length : Int) - (totL gs : Int) < 0) := by have := HE.out; omega
  have HV := hide hv
  clear hv
  go_enter Tryz.func6, Tryz.ntmps6
  go_wp2_with fail
  refine (szChain_fits ca cc ns left _ h0 (by have := HE.out; omega) ((HV.out.1.on S0.below).up S0.base)).mono ?_
  rintro e w1 ⟨rfl, hb1⟩
  have S1 := S0.on hb1
  have q1 := (S1.nth 0 rfl).six
  clear S0 q0
  go_wp2_with fail
  refine (szVerS_fits la lc log _ _ (by omega) (by have := HE.out; omega) ((HV.out.2.1.on S1.below).up S1.base)).mono ?_
  rintro e w2 ⟨rfl, hb2⟩
  have S2 := S1.on hb2
  have q2 := (S2.nth 0 rfl).six
  clear S1 q1
  go_wp2_with fail
  refine (szVerSS_fits ga gc gs _ _ (by omega) (by have := HE.out; omega) ((HV.out.2.2.on S2.below).up S2.base)).mono ?_
  rintro e w3 ⟨rfl, hb3⟩
  have S3 := S2.on hb3
  clear S2 q2
  have HF : Hid (left - (ns.length : Int) - (totNs ns : Int) - (log.length : Int) - (tot log : Int) - (gs.length : Int) - (totL gs : Int) = left - totP ⟨me, ck, ca, cc, ns, la, lc, log, ga, gc, gs, fell⟩) := by have := HE.out; unfold Hid; omega
  generalize left - (ns.length : Int) - (totNs ns : Int) - (log.length : Int) - (tot log : Int) - (gs.length : Int) - (totL gs : Int) = z at HF h3 ⊢
  go_wp2
  go_ret
  exact ⟨ret_int HF.out, S3.below⟩
set_option maxHeartbeats 2000000 in
theorem szPlace_not (p : Pl) (left : Int) (w : World) (h0 : left ≤ 1048576) (h00 : 0 ≤ left) (hB : BigP p) (hf : left < (totP p : Int)) (hv : Pg w w.heap.size p) :
    Calls Tryz.prog 6 #[.agg (plCells p), .int .i64 left] w fun e w' => e = .returned (.int .i64 (-1)) ∧ Below w.heap.size w w' := by
  have HE : Hid ((totP p : Int) = ((p.ns.length : Int) + totNs p.ns) + (p.log.length + tot p.log) + (p.gs.length + totL p.gs)) := by unfold Hid totP totC totLg totGt; omega
  have S0 := (Inv.start w).box 28 (plCells p)
  simp only [World.size_alloc] at S0
  have HB := hide hB
  clear hB
  obtain ⟨me, ck, ca, cc, ns, la, lc, log, ga, gc, gs, fell⟩ := p
  simp only at HE hv S0 HB hf
  have HF := hide (show left < ((ns.length : Int) + totNs ns) + (log.length + tot log) + (gs.length + totL gs) by have := HE.out; omega)
  clear hf HE
  have q0 := (S0.nth 0 rfl).six
  have HV := hide hv
  clear hv
  by_cases f1 : (ns.length : Int) + totNs ns ≤ left
  · have h1 : ¬ (left - (ns.length : Int) - (totNs ns : Int) < 0) := by omega
    by_cases f2 : (log.length : Int) + tot log ≤ left - (ns.length : Int) - (totNs ns : Int)
    · have h2 : ¬ (left - (ns.length : Int) - (totNs ns : Int) - (log.length : Int) - (tot log : Int) < 0) := by omega
      have F1 := hide f1
      have F2 := hide f2
      clear f1 f2
      go_enter Tryz.func6, Tryz.ntmps6
      go_wp2_with fail
      refine (szChain_fits ca cc ns left _ h0 F1.out ((HV.out.1.on S0.below).up S0.base)).mono ?_
      rintro e w1 ⟨rfl, hb1⟩
      have S1 := S0.on hb1
      have q1 := (S1.nth 0 rfl).six
      clear S0 q0
      go_wp2_with fail
      refine (szVerS_fits la lc log _ _ (by omega) F2.out ((HV.out.2.1.on S1.below).up S1.base)).mono ?_
      rintro e w2 ⟨rfl, hb2⟩
      have S2 := S1.on hb2
      have q2 := (S2.nth 0 rfl).six
      clear S1 q1
      go_wp2_with fail
      refine (szVerSS_not ga gc gs _ _ (by omega) (by have := F2.out; omega) HB.out.2.2.1 HB.out.2.2.2 (by have := HF.out; omega) ((HV.out.2.2.on S2.below).up S2.base)).mono ?_
      rintro e w3 ⟨rfl, hb3⟩
      have S3 := S2.on hb3
      clear S2 q2
      go_wp2
      go_ret
      exact ⟨rfl, S3.below⟩
    · have F1 := hide f1
      have F2 := hide f2
      clear f1 f2
      go_enter Tryz.func6, Tryz.ntmps6
      go_wp2_with fail
      refine (szChain_fits ca cc ns left _ h0 F1.out ((HV.out.1.on S0.below).up S0.base)).mono ?_
      rintro e w1 ⟨rfl, hb1⟩
      have S1 := S0.on hb1
      have q1 := (S1.nth 0 rfl).six
      clear S0 q0
      go_wp2_with fail
      refine (szVerS_not la lc log _ _ (by omega) (by have := F1.out; omega) HB.out.2.1.1 HB.out.2.1.2 (by have := F2.out; omega) ((HV.out.2.1.on S1.below).up S1.base)).mono ?_
      rintro e w2 ⟨rfl, hb2⟩
      have S2 := S1.on hb2
      clear S1 q1
      go_wp2
      go_ret
      exact ⟨rfl, S2.below⟩
  · have F1 := hide f1
    clear f1
    go_enter Tryz.func6, Tryz.ntmps6
    go_wp2_with fail
    refine (szChain_not ca cc ns left _ h0 h00 HB.out.1.1 HB.out.1.2 (by have := F1.out; omega) ((HV.out.1.on S0.below).up S0.base)).mono ?_
    rintro e w1 ⟨rfl, hb1⟩
    have S1 := S0.on hb1
    clear S0 q0
    go_wp2
    go_ret
    exact ⟨rfl, S1.below⟩

/-- The blocks of a slice of nodes. -/
def FootC (A : Option Addr) (ns : List Nd) (g : Nat) : Prop := ns ≠ [] ∧ ∃ G, A = some ⟨G, 0, none⟩ ∧ (g = G ∨ FootNs ns g)
theorem ResN.turnF {P : Nat → Prop} {w w' : World} {B U : Nat} {A : Option Addr} {ns : List Nd} (h : ResN w B U A ns) (ht : Turn P w w') (hp : ∀ g, FootC A ns g → ¬ P g) : ResN w' B U A ns := by
  by_cases h0 : ns = []
  · exact .inl h0
  · rcases h with h | ⟨G, cur, rfl, hO⟩
    · exact .inl h
    · exact .inr ⟨G, cur, rfl, hO.turned ht (hp G ⟨h0, G, rfl, .inl rfl⟩) (fun i l hi g hf => hp g ⟨h0, G, rfl, .inr ⟨i, l, hi, hf⟩⟩)⟩
theorem ResN.foot {w : World} {B U : Nat} {A : Option Addr} {ns : List Nd} (h : ResN w B U A ns) {g : Nat} (hf : FootC A ns g) : B ≤ g ∧ g < U := by
  obtain ⟨h0, G, rfl, hf⟩ := hf
  rcases h with h | ⟨G', cur, e, h2⟩
  · exact absurd h h0
  · injection e with e
    injection e with e
    subst e
    rcases hf with rfl | ⟨i, l, hi, hf⟩
    · exact ⟨h2.lo, h2.hi⟩
    · exact h2.range hi hf
theorem ResN.wide {w : World} {B B' U U' : Nat} {A : Option Addr} {ns : List Nd} (h : ResN w B U A ns) (hB : B' ≤ B) (hU : U ≤ U') : ResN w B' U' A ns := by
  rcases h with h | ⟨G, cur, h1, h2⟩
  · exact .inl h
  · exact .inr ⟨G, cur, h1, h2.blk, by have := h2.lo; omega, by have := h2.hi; omega, h2.size, h2.at', fun i n hi => ((h2.store i n hi).wide hU).low hB, fun i n hi => ((h2.wait i n hi).wide hU).low hB, h2.two, h2.apart⟩
theorem footC_mk {A : Option Addr} {k : Int} {ns : List Nd} {g : Nat} (h : FootC A (mkNs k ns) g) : FootC A ns g := by
  obtain ⟨h0, G, ha, hf⟩ := h
  refine ⟨fun e => h0 (by rw [e]; rfl), G, ha, ?_⟩
  rcases hf with h | ⟨i, l, hi, hf⟩
  · exact .inl h
  · rw [mkNs_at] at hi
    cases hx : ns[i]? with
    | none => rw [hx] at hi; cases hi
    | some x =>
      rw [hx] at hi
      simp only [Option.map_some] at hi
      injection hi with hi
      subst hi
      exact .inr ⟨i, x, hx, footN_mk hf⟩
/-- A place in memory of its own. -/
structure PRes (w : World) (B U : Nat) (p : Pl) : Prop where
  chain : ResN w B U p.ca p.ns
  log : ResS w B U p.la p.log
  got : ResL w B U p.ga p.gs
  cl : ∀ g, FootC p.ca p.ns g → ¬ FootS p.la p.log g
  cg : ∀ g, FootC p.ca p.ns g → ¬ FootL p.ga p.gs g
  lg : ∀ g, FootS p.la p.log g → ¬ FootL p.ga p.gs g
theorem PRes.turn {P : Nat → Prop} {w w' : World} {B U : Nat} {p : Pl} (h : PRes w B U p) (ht : Turn P w w') (hp : ∀ g, B ≤ g → g < U → ¬ P g) : PRes w' B U p :=
  ⟨h.chain.turn ht hp, h.log.turn ht hp, h.got.turnF ht (fun g hf => hp g (h.got.foot hf).1 (h.got.foot hf).2), h.cl, h.cg, h.lg⟩
theorem PRes.on {w w' : World} {B U : Nat} {p : Pl} (h : PRes w B U p) (hb : Below w.heap.size w w') : PRes w' B U p := h.turn (P := fun _ => False) (.below hb) (fun _ _ _ h => h)
theorem PRes.wide {w : World} {B B' U U' : Nat} {p : Pl} (h : PRes w B U p) (hB : B' ≤ B) (hU : U ≤ U') : PRes w B' U' p := ⟨h.chain.wide hB hU, (h.log.wide hU).low hB, h.got.wide hB hU, h.cl, h.cg, h.lg⟩
theorem PRes.alloc {w : World} {B U : Nat} {p : Pl} (h : PRes w B U p) (o : Obj) : PRes (w.alloc o) B U p := h.on (below_alloc1 w o)
/-- Two places say the same. -/
def LP (p q : Pl) : Prop := p.me = q.me ∧ p.ck = q.ck ∧ NL p.ns q.ns ∧ LL p.log q.log ∧ LLs p.gs q.gs ∧ p.fell = q.fell
/-- Sizes that memory holds. -/
def SmP (p : Pl) : Prop := (p.ns.length ≤ 1048576 ∧ SmN p.ns) ∧ (p.log.length ≤ 1048576 ∧ Small p.log) ∧ p.gs.length ≤ 1048576 ∧ SmL p.gs
/-- What toPlace leaves: a copy in memory of its own. -/
def CopiedPl (w : World) (p : Pl) (e : Ending) (w' : World) : Prop :=
  ∃ q : Pl, e = .returned (.agg (plCells q)) ∧ LP q p ∧ (q.lc = q.log.length ∧ ∀ l ∈ q.gs, l.c = l.vs.length) ∧ PRes w' w.heap.size w'.heap.size q ∧ Below w.heap.size w w'
set_option maxRecDepth 100000 in
set_option maxHeartbeats 4000000 in
theorem toPlace_own (p : Pl) (w : World) (hm : SmP p) (hv : Pg w w.heap.size p) :
    Calls Tryz.prog 8 #[.agg (plCells p)] w (CopiedPl w p) := by
  obtain ⟨⟨m1, m2⟩, ⟨m3, m4⟩, m5, m6⟩ := hm
  obtain ⟨t1, t2, t3⟩ := hv
  have M1 := hide m1
  have M2 := hide m2
  have M3 := hide m3
  have M4 := hide (small_tags m4)
  have M5 := hide m5
  have M6 := hide m6
  have T1 := hide t1
  have T2 := hide t2
  have T3 := hide t3
  clear m1 m2 m3 m4 m5 m6 t1 t2 t3
  obtain ⟨me, ck, ca, cc, ns, la, lc, log, ga, gc, gs, fell⟩ := p
  simp only at M1 M2 M3 M4 M5 M6 T1 T2 T3
  have I1 := (((Inv.start w).box 28 (plAt me ck ca ns.length cc la log.length lc ga gs.length gc fell)).box 36 (plAt 0 0 none 0 0 none 0 0 none 0 0 false)).box 36 (plAt me ck none 0 0 none 0 0 none 0 0 false)
  simp only [World.size_alloc] at I1
  have hd : ∀ {a b : Array Value} {T T' : TypeId}, ∀ x ∈ [(w.heap.size + 1, T, a), (w.heap.size, T', b)], x.1 ≠ w.heap.size + 1 + 1 := by
    intro a b T T' x hx
    simp only [List.mem_cons, List.not_mem_nil, or_false] at hx
    rcases hx with rfl | rfl <;> simp only <;> omega
  have q1 := (I1.nth 2 rfl).six
  go_enter Tryz.func8, Tryz.ntmps8
  go_wp2_with fail
  generalize hW1 : ((w.alloc (.cells (plAt me ck ca ns.length cc la log.length lc ga gs.length gc fell) 28)).alloc (.cells (plAt 0 0 none 0 0 none 0 0 none 0 0 false) 36)).alloc (.cells (plAt me ck none 0 0 none 0 0 none 0 0 false) 36) = W1 at I1 q1 ⊢
  have zW1 : W1.heap.size = w.heap.size + 3 := by rw [← hW1]; simp
  clear hW1
  with_reducible refine (toChain_own ca cc ns W1 M1.out M2.out ((T1.out.on I1.below).up I1.base)).mono ?_
  rintro e w2 ⟨g2, us2, cur2, rfl, hl2, R2, hb2⟩
  have HL2 := hide hl2
  have z2 := hb2.size
  have I2 := I1.on hb2
  have p2 := (I2.nth 0 rfl).six
  have I3 := I2.put0 (i := 2) hd (.slice (some ⟨g2, 0, none⟩) ns.length ns.length)
  simp only [List.setIfInBounds_toArray, List.set_cons_zero, List.set_cons_succ] at I3
  have R3 := hide (R2.turned ((Turn.refl (fun g => g = w.heap.size + 1 + 1) w2).set (p := ⟨w.heap.size + 1 + 1, 2, none⟩) rfl (.slice (some ⟨g2, 0, none⟩) ns.length ns.length)) (by have := R2.lo; omega) (fun i n hi g hf => by have := R2.range hi hf; omega))
  have q3 := (I3.nth 2 rfl).six
  have zW3 : (w2.setCell ⟨w.heap.size + 1 + 1, 2, none⟩ (.slice (some ⟨g2, 0, none⟩) ns.length ns.length)).heap.size = w2.heap.size := by simp [World.setCell]
  clear I1 I2 R2 hb2 hl2 q1
  go_wp2_with fail
  generalize w2.setCell ⟨w.heap.size + 1 + 1, 2, none⟩ (.slice (some ⟨g2, 0, none⟩) ns.length ns.length) = W3 at I3 R3 q3 zW3 ⊢
  clear p2
  with_reducible refine (toVerS_own la lc log W3 M3.out M4.out ((T2.out.on I3.below).up I3.base)).mono ?_
  rintro e w4 ⟨g4, us4, cur4, rfl, hl4, hk4, O4, hb4⟩
  have HL4 : Hid (LL us4 log) := ⟨hl4, hk4⟩
  have z4 := hb4.size
  have I4 := I3.on hb4
  have R4 := hide (R3.out.on hb4)
  have p4 := (I4.nth 0 rfl).six
  have I5 := I4.put0 (i := 3) hd (.slice (some ⟨g4, 0, none⟩) log.length log.length)
  simp only [List.setIfInBounds_toArray, List.set_cons_zero, List.set_cons_succ] at I5
  have T5 : Turn (fun g => g = w.heap.size + 1 + 1) w4 (w4.setCell ⟨w.heap.size + 1 + 1, 3, none⟩ (.slice (some ⟨g4, 0, none⟩) log.length log.length)) := (Turn.refl (fun g => g = w.heap.size + 1 + 1) w4).set (p := ⟨w.heap.size + 1 + 1, 3, none⟩) rfl _
  have R5 := hide (R4.out.turned T5 (by have := R4.out.lo; omega) (fun i n hi g hf => by have := R4.out.range hi hf; omega))
  have O5 := hide (O4.turned T5 (fun g h1 h2 e => by omega))
  have q5 := (I5.nth 2 rfl).six
  have zW5 : (w4.setCell ⟨w.heap.size + 1 + 1, 3, none⟩ (.slice (some ⟨g4, 0, none⟩) log.length log.length)).heap.size = w4.heap.size := by simp [World.setCell]
  clear I3 I4 R3 R4 O4 hb4 hl4 hk4 q3 T5
  go_wp2_with fail
  generalize w4.setCell ⟨w.heap.size + 1 + 1, 3, none⟩ (.slice (some ⟨g4, 0, none⟩) log.length log.length) = W5 at I5 R5 O5 q5 zW5 ⊢
  clear p4
  with_reducible refine (toVerSS_own ga gc gs W5 M5.out M6.out ((T3.out.on I5.below).up I5.base)).mono ?_
  rintro e w6 ⟨g6, us6, cur6, rfl, hl6, hc6, L6, hb6⟩
  have HL6 := hide hl6
  have HC6 := hide hc6
  have z6 := hb6.size
  have I6 := I5.on hb6
  have R6 := hide (R5.out.on hb6)
  have O6 := hide (O5.out.on hb6)
  have p6 := (I6.nth 0 rfl).six
  have q6 := (I6.nth 2 rfl).six
  have r6 := (I6.nth 1 rfl).six
  have HI6 := hide I6.below
  have HL66 := hide L6
  clear I5 R5 O5 hb6 hl6 hc6 L6 q5 I6
  go_wp2
  refine bodyPost_ret (v := .agg (plAt me ck (some ⟨g2, 0, none⟩) ns.length ns.length (some ⟨g4, 0, none⟩) log.length log.length (some ⟨g6, 0, none⟩) gs.length gs.length fell)) (by simp [results, Tryz.results8, go_sem, r6]) rfl ?_
  have P6 : PRes w6 W1.heap.size w6.heap.size ⟨me, ck, some ⟨g2, 0, none⟩, ns.length, us2, some ⟨g4, 0, none⟩, log.length, us4, some ⟨g6, 0, none⟩, gs.length, us6, fell⟩ := by
    have c1 : ResN w6 W1.heap.size w2.heap.size (some ⟨g2, 0, none⟩) us2 := .inr ⟨g2, cur2, rfl, R6.out⟩
    have c2 : ResS w6 W3.heap.size w4.heap.size (some ⟨g4, 0, none⟩) us4 := .inr ⟨g4, cur4, rfl, O6.out⟩
    have c3 : ResL w6 W5.heap.size w6.heap.size (some ⟨g6, 0, none⟩) us6 := .inr ⟨g6, cur6, rfl, HL66.out⟩
    exact ⟨c1.wide (Nat.le_refl _) (by omega), (c2.wide (by omega)).low (by omega), c3.wide (by omega) (Nat.le_refl _), fun g h1 h2 => by have := c1.foot h1; have := c2.foot h2; omega, fun g h1 h2 => by have := c1.foot h1; have := c3.foot h2; omega, fun g h1 h2 => by have := c2.foot h1; have := c3.foot h2; omega⟩
  refine ⟨⟨me, ck, some ⟨g2, 0, none⟩, ns.length, us2, some ⟨g4, 0, none⟩, log.length, us4, some ⟨g6, 0, none⟩, gs.length, us6, fell⟩, by simp only [plCells, HL2.out.1, HL4.out.1, HL6.out.1], ⟨rfl, rfl, HL2.out, HL4.out, HL6.out, rfl⟩, ⟨HL4.out.1.symm, HC6.out⟩, ?_, ?_⟩
  · have T7 := ((((((((Turn.refl (fun g => g = w.heap.size + 1 + 1 ∨ g = w.heap.size + 1) w6).set (p := ⟨w.heap.size + 1 + 1, 4, none⟩) (.inl rfl) (.slice (some ⟨g6, 0, none⟩) gs.length gs.length)).set (p := ⟨w.heap.size + 1 + 1, 5, none⟩) (.inl rfl) (.bool fell)).set (p := ⟨w.heap.size + 1, 0, none⟩) (.inr rfl) (.int .i64 me)).set (p := ⟨w.heap.size + 1, 1, none⟩) (.inr rfl) (.int .i64 ck)).set (p := ⟨w.heap.size + 1, 2, none⟩) (.inr rfl) (.slice (some ⟨g2, 0, none⟩) ns.length ns.length)).set (p := ⟨w.heap.size + 1, 3, none⟩) (.inr rfl) (.slice (some ⟨g4, 0, none⟩) log.length log.length)).set (p := ⟨w.heap.size + 1, 4, none⟩) (.inr rfl) (.slice (some ⟨g6, 0, none⟩) gs.length gs.length)).set (p := ⟨w.heap.size + 1, 5, none⟩) (.inr rfl) (.bool fell)
    exact (P6.turn T7 (fun g h1 h2 e => by omega)).wide (by omega) T7.size
  · exact below_set6 ((HI6.out.setCell (by simp; omega) _).setCell (by simp; omega) _) (by simp) _ _ _ _ _ _
end Go.Proofs.YtnaggcdhimcilaaGreat
/- How places are compared, marked, and the marks found again. Condition: what is said of each. -/
namespace Go.Proofs.YtnaggcdhimcilaaGreat
open Go.RowKit Go.Joins
attribute [local go_sem ↓] Go.wp_at_zero Go.wp_at_succ

/-- Places of few versions. -/
def FewP (p : Pl) : Prop := (p.ns.length ≤ 1048576 ∧ SmallN p.ns) ∧ (p.log.length ≤ 1048576 ∧ ∀ v ∈ p.log, v.ts.length ≤ 1048576) ∧ p.gs.length ≤ 1048576 ∧ FewL p.gs
/-- How many marks a place bears. -/
def wtP (p : Pl) : Int := wtNs p.ns + wts p.log + wtL p.gs
def mkP (k : Int) (p : Pl) : Pl := ⟨p.me, p.ck, p.ca, p.cc, mkNs k p.ns, p.la, p.lc, mkVs (k + wtNs p.ns) p.log, p.ga, p.gc, mkLs (k + wtNs p.ns + wts p.log) p.gs, p.fell⟩
set_option maxRecDepth 100000 in
set_option maxHeartbeats 4000000 in
theorem markChain_foot (B U : Nat) (A : Option Addr) (c : Nat) (ns : List Nd) (k : Int) (w : World) (hR : ResN w B U A ns) (hm : SmallN ns) (hn : ns.length ≤ 1048576) (hk0 : 1 ≤ k) (hk : k + wtNs ns ≤ 8388000) :
    Calls Tryz.prog 36 #[.agg #[.slice A ns.length c], .int .i64 k] w fun e w' => e = .returned (.int .i64 (k + wtNs ns)) ∧ ResN w' B U A (mkNs k ns) ∧ Turn (FootC A ns) w w' := by
  have L0 := below_alloc1 w (.cells #[.slice A ns.length c] 32)
  have HC : Hid (∀ W, Below w.heap.size w W → Calls Tryz.prog 80 #[.slice A ns.length c, .int .i64 k] W fun e w' => e = .returned (.int .i64 (k + wtNs ns)) ∧ ResN w' B U A (mkNs k ns) ∧ Turn (FootC A ns) w w') := fun W hW => by
    by_cases h0 : ns = []
    · subst h0
      exact (markNodeS_nil A c k W).mono fun e w' ⟨h1, h2⟩ => ⟨by rw [h1]; simp [wtNs], .inl rfl, by rw [← h2]; exact .below hW⟩
    · rcases hR with h | ⟨G, cur, rfl, hv⟩
      · exact absurd h h0
      · exact (markNodeS_foot B U G c ns cur k W (hv.on hW) hm hn hk0 hk).mono fun e w' ⟨h1, ⟨cur', h2⟩, h3⟩ => ⟨h1, .inr ⟨G, cur', rfl, h2⟩, Turn.trans (.below hW) ⟨h3.os, h3.tape, h3.output, h3.size, fun i hi hn => h3.block i hi (fun hf => hn ⟨h0, G, rfl, .inr hf⟩)⟩⟩
  clear hR hm hk
  go_enter Tryz.func36, Tryz.ntmps36
  go_wp2_with fail
  refine (HC.out _ L0).mono ?_
  rintro e w1 ⟨rfl, hb1, hT⟩
  have H1 := hide hb1
  have H2 := hide hT
  clear hb1 hT
  go_wp2
  go_ret
  exact ⟨rfl, H1.out, H2.out⟩
/-- What marking a place leaves. -/
def MarkedP (w : World) (B U : Nat) (p : Pl) (k : Int) (e : Ending) (w' : World) : Prop :=
  e = .returned (.int .i64 (k + wtP p)) ∧ PRes w' B U (mkP k p) ∧ Turn (fun g => (B ≤ g ∧ g < U)) w w'
theorem Turn.sub {P Q : Nat → Prop} {w w' : World} (h : Turn P w w') (hs : ∀ g, P g → Q g) : Turn Q w w' := ⟨h.os, h.tape, h.output, h.size, fun i hi hn => h.block i hi (fun e => hn (hs i e))⟩
theorem PRes.mk1 {w w' : World} {B U : Nat} {p : Pl} {k : Int} (h : PRes w B U p) (hr : ResN w' B U p.ca (mkNs k p.ns)) (ht : Turn (FootC p.ca p.ns) w w') : PRes w' B U ⟨p.me, p.ck, p.ca, p.cc, mkNs k p.ns, p.la, p.lc, p.log, p.ga, p.gc, p.gs, p.fell⟩ :=
  ⟨hr, h.log.turnF ht (fun g hf hc => h.cl g hc hf), h.got.turnF ht (fun g hf hc => h.cg g hc hf), fun g hf => h.cl g (footC_mk hf), fun g hf => h.cg g (footC_mk hf), h.lg⟩
theorem PRes.mk2 {w w' : World} {B U : Nat} {p : Pl} {k : Int} (h : PRes w B U p) (hr : ResS w' B U p.la (mkVs k p.log)) (ht : Turn (FootS p.la p.log) w w') : PRes w' B U ⟨p.me, p.ck, p.ca, p.cc, p.ns, p.la, p.lc, mkVs k p.log, p.ga, p.gc, p.gs, p.fell⟩ :=
  ⟨h.chain.turnF ht (fun g hf hc => h.cl g hf hc), hr, h.got.turnF ht (fun g hf hc => h.lg g hc hf), fun g hf hc => h.cl g hf (footS_mk hc), h.cg, fun g hf => h.lg g (footS_mk hf)⟩
theorem PRes.mk3 {w w' : World} {B U : Nat} {p : Pl} {k : Int} (h : PRes w B U p) (hr : ResL w' B U p.ga (mkLs k p.gs)) (ht : Turn (FootL p.ga p.gs) w w') : PRes w' B U ⟨p.me, p.ck, p.ca, p.cc, p.ns, p.la, p.lc, p.log, p.ga, p.gc, mkLs k p.gs, p.fell⟩ :=
  ⟨h.chain.turnF ht (fun g hf hc => h.cg g hf hc), h.log.turnF ht (fun g hf hc => h.lg g hf hc), hr, h.cl, fun g hf hc => h.cg g hf (footL_mk hc), fun g hf hc => h.lg g hf (footL_mk hc)⟩
set_option maxRecDepth 100000 in
set_option maxHeartbeats 4000000 in
theorem markPlace_own (B U : Nat) (p : Pl) (k : Int) (w : World) (hR : PRes w B U p) (hU : U ≤ w.heap.size) (hm : FewP p) (hk0 : 1 ≤ k) (hk : k + wtP p ≤ 8388000) :
    Calls Tryz.prog 11 #[.agg (plCells p), .int .i64 k] w (MarkedP w B U p k) := by
  have HM := hide hm
  have e1 := wtNs_pos p.ns
  have e2 := wts_pos p.log
  have e3 := wtL_pos p.gs
  have b1 : Hid (k + wtNs p.ns ≤ 8388000) := by unfold Hid wtP at *; omega
  have b2 : Hid (1 ≤ k + wtNs p.ns ∧ k + wtNs p.ns + wts p.log ≤ 8388000) := by unfold Hid wtP at *; omega
  have b3 : Hid (1 ≤ k + wtNs p.ns + wts p.log ∧ k + wtNs p.ns + wts p.log + wtL p.gs ≤ 8388000) := by unfold Hid wtP at *; omega
  have HE : Hid (k + wtNs p.ns + wts p.log + wtL p.gs = k + wtP p) := by unfold Hid wtP; omega
  obtain ⟨me, ck, ca, cc, ns, la, lc, log, ga, gc, gs, fell⟩ := p
  simp only at hR HM b1 b2 b3 HE
  have B0 := Blk.made w 36 (plAt me ck ca ns.length cc la log.length lc ga gs.length gc fell)
  have HR := hide (hR.alloc (.cells (plAt me ck ca ns.length cc la log.length lc ga gs.length gc fell) 36))
  have TW : Hid (Turn (fun g => (B ≤ g ∧ g < U)) w (w.alloc (.cells (plAt me ck ca ns.length cc la log.length lc ga gs.length gc fell) 36))) := .below (below_alloc1 _ _)
  have q0 := B0.six
  clear hR hm e1 e2 e3 hk
  go_enter Tryz.func11, Tryz.ntmps11
  go_wp2_with fail
  generalize w.alloc (.cells (plAt me ck ca ns.length cc la log.length lc ga gs.length gc fell) 36) = W at B0 HR TW q0 ⊢
  refine (markChain_foot B U ca cc ns k W HR.out.chain HM.out.1.2 HM.out.1.1 hk0 b1.out).mono ?_
  rintro e w1 ⟨rfl, R1, T1⟩
  have HR1 := hide (HR.out.mk1 R1 T1)
  have B1 := B0.turned T1 (fun h => by have := HR.out.chain.foot h; omega)
  have TW1 := hide (TW.out.trans (T1.sub (fun g h => HR.out.chain.foot h)))
  have q1 := B1.six
  clear HR R1 T1 B0 TW q0
  go_wp2_with fail
  refine (markSF_any B U la lc log (k + wtNs ns) w1 HR1.out.log HM.out.2.1.2 HM.out.2.1.1 b2.out.1 b2.out.2).mono ?_
  rintro e w2 ⟨rfl, R2, T2⟩
  have HR2 := hide (HR1.out.mk2 R2 T2)
  have B2 := B1.turned T2 (fun h => by have := HR1.out.log.foot h; omega)
  have TW2 := hide (TW1.out.trans (T2.sub (fun g h => HR1.out.log.foot h)))
  have q2 := B2.six
  clear HR1 R2 T2 B1 TW1 q1
  go_wp2_with fail
  refine (markResL_any B U ga gc gs (k + wtNs ns + wts log) w2 HR2.out.got HM.out.2.2.2 HM.out.2.2.1 b3.out.1 b3.out.2).mono ?_
  rintro e w3 ⟨rfl, R3, T3⟩
  have HR3 := hide (HR2.out.mk3 R3 T3)
  have TW3 := hide (TW2.out.trans (T3.sub (fun g h => HR2.out.got.foot h)))
  clear HR2 R3 T3 B2 TW2 q2
  go_wp2
  go_ret
  exact ⟨ret_int HE.out, HR3.out, TW3.out⟩
set_option maxRecDepth 100000 in
set_option maxHeartbeats 4000000 in
theorem heldPlace_own (B U : Nat) (p : Pl) (k : Int) (w : World) (hR : PRes w B U (mkP k p)) (hm : FewP p) (hk0 : 1 ≤ k) (hk : k + wtP p ≤ 8388000) :
    Calls Tryz.prog 12 #[.agg (plCells p), .int .i64 k] w fun e w' => e = .returned (.int .i64 (k + wtP p)) ∧ Below w.heap.size w w' := by
  have HM := hide hm
  have e1 := wtNs_pos p.ns
  have e2 := wts_pos p.log
  have e3 := wtL_pos p.gs
  have b1 : Hid (k + wtNs p.ns ≤ 8388000) := by unfold Hid wtP at *; omega
  have b2 : Hid (1 ≤ k + wtNs p.ns ∧ k + wtNs p.ns + wts p.log ≤ 8388000) := by unfold Hid wtP at *; omega
  have b3 : Hid (1 ≤ k + wtNs p.ns + wts p.log ∧ k + wtNs p.ns + wts p.log + wtL p.gs ≤ 8388000) := by unfold Hid wtP at *; omega
  have HE : Hid (k + wtNs p.ns + wts p.log + wtL p.gs = k + wtP p) := by unfold Hid wtP; omega
  have n1 : ¬ (k + wtNs p.ns < 0) := by omega
  have n2 : ¬ (k + wtNs p.ns + wts p.log < 0) := by omega
  have n3 : ¬ (k + wtNs p.ns + wts p.log + wtL p.gs < 0) := by omega
  obtain ⟨me, ck, ca, cc, ns, la, lc, log, ga, gc, gs, fell⟩ := p
  have HR := hide hR
  simp only at HM b1 b2 b3 HE n1 n2 n3
  have S0 := (Inv.start w).box 36 (plAt me ck ca ns.length cc la log.length lc ga gs.length gc fell)
  have q0 := (S0.nth 0 rfl).six
  clear hR hm e1 e2 e3 hk
  go_enter Tryz.func12, Tryz.ntmps12
  go_wp2_with fail
  refine (heldChain_any B U ca cc ns.length ns k _ (HR.out.on S0.below).chain rfl HM.out.1.2 HM.out.1.1 hk0 b1.out).mono ?_
  rintro e w1 ⟨rfl, hb1⟩
  have S1 := S0.on hb1
  have q1 := (S1.nth 0 rfl).six
  clear S0 q0
  go_wp2_with fail
  refine (heldSF_any B U la lc log (k + wtNs ns) w1 (HR.out.on S1.below).log HM.out.2.1.2 HM.out.2.1.1 b2.out.1 b2.out.2).mono ?_
  rintro e w2 ⟨rfl, hb2⟩
  have S2 := S1.on hb2
  have q2 := (S2.nth 0 rfl).six
  clear S1 q1
  go_wp2_with fail
  refine (heldResL_any B U ga gc gs (k + wtNs ns + wts log) w2 (HR.out.on S2.below).got HM.out.2.2.2 HM.out.2.2.1 b3.out.1 b3.out.2).mono ?_
  rintro e w3 ⟨rfl, hb3⟩
  have S3 := S2.on hb3
  clear S2 q2
  generalize k + wtNs ns + wts log + wtL gs = z at HE n3 ⊢
  go_wp2
  go_ret
  exact ⟨ret_int HE.out, S3.below⟩
set_option maxRecDepth 100000 in
set_option maxHeartbeats 4000000 in
theorem eqPlace_own (B U B' U' : Nat) (p q : Pl) (w : World) (hl : LP p q) (hm : FewP p) (hR : PRes w B U p) (hR' : PRes w B' U' q) :
    Calls Tryz.prog 10 #[.agg (plCells p), .agg (plCells q)] w fun e w' => e = .returned (.bool true) ∧ Below w.heap.size w w' := by
  have HM := hide hm
  have HR := hide hR
  have HR' := hide hR'
  obtain ⟨h1, h2, h3, h4, h5, h6⟩ := hl
  obtain ⟨me, ck, ca, cc, ns, la, lc, log, ga, gc, gs, fell⟩ := p
  obtain ⟨me', ck', ca', cc', ns', la', lc', log', ga', gc', gs', fell'⟩ := q
  simp only at h1 h2 h3 h4 h5 h6 HM
  subst h1 h2 h6
  have H3 := hide h3
  have H4 := hide h4
  have H5 := hide h5
  simp only [plCells, ← h3.1, ← h4.1]
  have S0 := ((Inv.start w).box 36 (plAt me ck ca ns.length cc la log.length lc ga gs.length gc fell)).box 36 (plAt me ck ca' ns.length cc' la' log.length lc' ga' gs'.length gc' fell)
  simp only [World.size_alloc] at S0
  have q0 := (S0.nth 0 rfl).six
  have p0 := (S0.nth 1 rfl).six
  have ef : (fell != fell) = false := by simp
  clear h3 h4 h5 hR hR' hm
  go_enter Tryz.func10, Tryz.ntmps10
  go_wp2_with fail
  refine (eqChain_same B U B' U' ca ca' cc cc' ns.length ns ns' _ HM.out.1.1 rfl H3.out.1.symm H3.out.2 HM.out.1.2 (HR.out.on S0.below).chain (HR'.out.on S0.below).chain).mono ?_
  rintro e w1 ⟨rfl, hb1⟩
  have S1 := S0.on hb1
  have q1 := (S1.nth 0 rfl).six
  have p1 := (S1.nth 1 rfl).six
  clear S0 q0 p0
  go_wp2_with fail
  refine (eqVerS_same la la' lc lc' log.length log log' w1 HM.out.2.1.1 rfl H4.out.1.symm H4.out.2 HM.out.2.1.2 (HR.out.on S1.below).log.vg (HR'.out.on S1.below).log.vg).mono ?_
  rintro e w2 ⟨rfl, hb2⟩
  have S2 := S1.on hb2
  have q2 := (S2.nth 0 rfl).six
  have p2 := (S2.nth 1 rfl).six
  clear S1 q1 p1
  go_wp2_with fail
  refine (eqVerSS_same ga ga' gc gc' gs gs' w2 HM.out.2.2.1 H5.out HM.out.2.2.2 (HR.out.on S2.below).got.lgs (HR'.out.on S2.below).got.lgs).mono ?_
  rintro e w3 ⟨rfl, hb3⟩
  have S3 := S2.on hb3
  have q3 := (S3.nth 0 rfl).six
  have p3 := (S3.nth 1 rfl).six
  clear S2 q2 p2
  go_wp2
  go_ret
  exact ⟨rfl, S3.below⟩
end Go.Proofs.YtnaggcdhimcilaaGreat
