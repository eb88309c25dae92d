/- Versions in a row: how they are read, their size, whether two rows are the same. Condition: what is said of each. -/
import Derived.Test.YtpelibkdphgpjaaJVers
import Derived.Laws.BytesString
import Derived.Laws.Concat
import Derived.Test.YtpelibkdphgpjaaJTags
namespace Go.Proofs.Ytpelibkdphgpjaa
open Go.RowKit Go.Joins

/-- A version as it lies in memory. -/
structure V where
  k : Int
  t : Int
  u : Int
  a : Option Addr
  c : Nat
  ts : List (Int × Int)
  s : ByteArray
  g : Bool
/-- Two versions say the same. -/
def V.like (v v' : V) : Prop := v.k = v'.k ∧ v.t = v'.t ∧ v.u = v'.u ∧ v.ts = v'.ts ∧ v.s = v'.s ∧ v.g = v'.g
/-- The six cells of a version from here on. -/
abbrev Six (w : World) (b o : Nat) (v : V) : Prop :=
  w.cell? ⟨b, o, none⟩ = some (.int .i64 v.k) ∧ w.cell? ⟨b, o + 1, none⟩ = some (.int .i64 v.t) ∧ w.cell? ⟨b, o + 2, none⟩ = some (.int .i64 v.u) ∧ w.cell? ⟨b, o + 3, none⟩ = some (.slice v.a v.ts.length v.c) ∧ w.cell? ⟨b, o + 4, none⟩ = some (.string v.s) ∧ w.cell? ⟨b, o + 5, none⟩ = some (.bool v.g)
theorem Six.keep {w w' : World} {b o B : Nat} {v : V} (h : Six w b o v) (hb : b < B) (hk : ∀ p : Addr, p.block < B → w'.cell? p = w.cell? p) : Six w' b o v :=
  ⟨(hk ⟨b, o, none⟩ hb).trans h.1, (hk ⟨b, o + 1, none⟩ hb).trans h.2.1, (hk ⟨b, o + 2, none⟩ hb).trans h.2.2.1, (hk ⟨b, o + 3, none⟩ hb).trans h.2.2.2.1, (hk ⟨b, o + 4, none⟩ hb).trans h.2.2.2.2.1, (hk ⟨b, o + 5, none⟩ hb).trans h.2.2.2.2.2⟩
/-- A slice that reads as these versions, in old memory (below block B). -/
def Vg (w : World) (B : Nat) (a : Option Addr) (vs : List V) : Prop :=
  vs = [] ∨ ∃ b off : Nat, a = some ⟨b, off, none⟩ ∧ b < B ∧ ∀ i v, vs[i]? = some v → Six w b (off + i * 6) v ∧ Tg w B v.a v.ts
theorem Vg.on {w w' : World} {B : Nat} {a : Option Addr} {vs : List V} (h : Vg w B a vs) (hb : Below B w w') : Vg w' B a vs := by
  rcases h with h | ⟨b, off, ha, hlt, hx⟩
  · exact .inl h
  · exact .inr ⟨b, off, ha, hlt, fun i v hi => ⟨(hx i v hi).1.keep hlt fun _ hp => hb.cell hp, (hx i v hi).2.on hb⟩⟩
theorem Vg.up {w : World} {B B' : Nat} {a : Option Addr} {vs : List V} (h : Vg w B a vs) (hB : B ≤ B') : Vg w B' a vs := by
  rcases h with h | ⟨b, off, ha, hlt, hx⟩
  · exact .inl h
  · exact .inr ⟨b, off, ha, by omega, fun i v hi => ⟨(hx i v hi).1, (hx i v hi).2.up hB⟩⟩

/-- How much these versions weigh beside their number. -/
def tot (vs : List V) : Nat := (vs.map fun v => v.ts.length + v.s.size).sum
theorem tot_step {vs : List V} {k : Nat} {v : V} (h : vs[k]? = some v) : tot (vs.take (k + 1)) = tot (vs.take k) + (v.ts.length + v.s.size) := by
  unfold tot
  rw [List.take_add_one, h]
  simp
theorem tot_all (vs : List V) : tot (vs.take vs.length) = tot vs := by rw [List.take_length]
theorem tot_le (vs : List V) (k : Nat) : tot (vs.take k) ≤ tot vs := by
  have h : vs = vs.take k ++ vs.drop k := (List.take_append_drop k vs).symm
  have e : tot vs = tot (vs.take k) + tot (vs.drop k) := by
    unfold tot
    rw [← List.sum_append, ← List.map_append, ← h]
  omega
theorem tot_mem {vs : List V} {v : V} (h : v ∈ vs) : v.ts.length + v.s.size ≤ tot vs := by
  obtain ⟨k, hk⟩ := List.getElem?_of_mem h
  have h1 := tot_step hk
  have h2 := tot_le vs (k + 1)
  omega

set_option maxRecDepth 100000 in
set_option maxHeartbeats 2000000 in
theorem szVerS_fits (a : Option Addr) (c : Nat) (vs : List V) (left : Int) (w : World) (h0 : left ≤ 1048576) (hf : (vs.length : Int) + tot vs ≤ left) (hv : Vg w w.heap.size a vs) :
    Calls Try.prog 120 #[.slice a vs.length c, .int .i64 left] w fun e w' => e = .returned (.int .i64 (left - vs.length - tot vs)) ∧ Below w.heap.size w w' := by
  have HF := hide hf
  have HT : Hid (tot (vs.take vs.length) = tot vs) := tot_all vs
  generalize hnn : vs.length = n at *
  have HN := hide hnn
  have h1 : ¬ (left - (n : Int) < 0) := by omega
  have h2 : 0 ≤ left := by omega
  have h3 : (n : Int) ≤ left := by omega
  clear hnn hf
  go_enter Try.func120, Try.ntmps120
  go_wp2
  go_loopw [1, 5] (fun r i wr => ∃ (k : Nat) (m : Int), k ≤ n ∧ i = .int .i64 (k : Int) ∧ r = .int .i64 m ∧ Hid (m = left - n - tot (vs.take k)) ∧ Below w.heap.size w wr) (fun _ i _ => n - (intOf i).toNat)
  case atStart => exact ⟨0, _, Nat.zero_le _, rfl, rfl, by unfold Hid tot; simp, Below.refl _ _⟩
  case round =>
    obtain ⟨k, m, hk, rfl, rfl, hm, hL⟩ := hrel
    by_cases hlt : k < n
    · rcases hv with e0 | ⟨b, off, rfl, hb, hx⟩
      · have := HN.out; subst e0; simp at this; omega
      · have hkl : k < vs.length := by have := HN.out; omega
        obtain ⟨hS, -⟩ := hx k _ (List.getElem?_eq_getElem hkl)
        have HX := hide (List.getElem?_eq_getElem hkl)
        have hS' := hS.keep hb fun _ hp => hL.cell hp
        generalize vs[k] = v at hS' HX
        obtain ⟨vk, vt, vu, va, vc, vts, vs', vg⟩ := v
        have st := tot_step HX.out
        have le := tot_le vs (k + 1)
        simp only at st hS'
        have H1 : Hid ((vts.length : Int) + vs'.size ≤ m ∧ m ≤ 1048576) := by
          have := hm.out; have := HF.out; unfold Hid; omega
        have H2 : Hid (m - vts.length - vs'.size = left - n - tot (vs.take (k + 1))) := by
          have := hm.out; unfold Hid; omega
        have h5 : ¬ (m - (vts.length : Int) - (vs'.size : Int) < 0) := by have := H1.out; omega
        clear st le hS hx
        have i1 : (0 : Int) ≤ (k : Int) := by omega
        have i2 : (k : Int) < (n : Int) := by omega
        go_wp2_with fail
        refine (szVer_fits _ _ _ _ _ _ _ _ _ _ H1.out.2 H1.out.1).mono ?_
        rintro e w1 ⟨rfl, hb1⟩
        have hL1 := hL.trans (hb1.mono hL.size)
        go_wp2
        exact ⟨⟨k + 1, _, by omega, by go_num, rfl, H2, hL1⟩, by simp [intOf]; omega⟩
    · have hkn : k = n := by omega
      subst hkn
      clear hlt
      go_wp2
      go_ret
      exact ⟨ret_int (by rw [hm.out, HT.out]), hL⟩

set_option maxRecDepth 100000 in
set_option maxHeartbeats 2000000 in
theorem szVerS_not (a : Option Addr) (c : Nat) (vs : List V) (left : Int) (w : World) (h0 : left ≤ 1048576) (h00 : 0 ≤ left) (hl : vs.length ≤ 9223372036854775807) (hm0 : ∀ v ∈ vs, v.ts.length ≤ 9223372036854775807 ∧ v.s.size ≤ 9223372036854775807) (hf : left < (vs.length : Int) + tot vs) (hv : Vg w w.heap.size a vs) :
    Calls Try.prog 120 #[.slice a vs.length c, .int .i64 left] w fun e w' => e = .returned (.int .i64 (-1)) ∧ Below w.heap.size w w' := by
  have HF := hide hf
  have HM := hide hm0
  clear hm0
  have HT : Hid (tot (vs.take vs.length) = tot vs) := tot_all vs
  generalize hnn : vs.length = n at *
  have HN := hide hnn
  clear hnn hf
  by_cases h1 : left - (n : Int) < 0
  · go_enter Try.func120, Try.ntmps120
    go_wp2
    go_ret
    exact ⟨rfl, Below.refl _ _⟩
  · have h3 : (n : Int) ≤ left := by omega
    go_enter Try.func120, Try.ntmps120
    go_wp2
    go_loopw [1, 5] (fun r i wr => ∃ (k : Nat) (m : Int), k ≤ n ∧ i = .int .i64 (k : Int) ∧ r = .int .i64 m ∧ Hid (m = left - n - tot (vs.take k) ∧ 0 ≤ m) ∧ Below w.heap.size w wr) (fun _ i _ => n - (intOf i).toNat)
    case atStart => exact ⟨0, _, Nat.zero_le _, rfl, rfl, by unfold Hid tot; simp; omega, Below.refl _ _⟩
    case round =>
      obtain ⟨k, m, hk, rfl, rfl, hm, hL⟩ := hrel
      by_cases hlt : k < n
      · rcases hv with e0 | ⟨b, off, rfl, hb, hx⟩
        · have := HN.out; subst e0; simp at this; omega
        · have hkl : k < vs.length := by have := HN.out; omega
          obtain ⟨hS, -⟩ := hx k _ (List.getElem?_eq_getElem hkl)
          have HX := hide (List.getElem?_eq_getElem hkl)
          have hS' := hS.keep hb fun _ hp => hL.cell hp
          generalize vs[k] = v at hS' HX
          have HB := hide (HM.out v (List.mem_of_getElem? HX.out))
          obtain ⟨vk, vt, vu, va, vc, vts, vs', vg⟩ := v
          have st := tot_step HX.out
          simp only at st hS'
          have H2 : Hid (m - vts.length - vs'.size = left - n - tot (vs.take (k + 1))) := by
            have := hm.out; unfold Hid; omega
          clear st hS hx
          have i1 : (0 : Int) ≤ (k : Int) := by omega
          have i2 : (k : Int) < (n : Int) := by omega
          have H3 : Hid (m ≤ 1048576) := by have := hm.out; unfold Hid; omega
          by_cases hfit : (vts.length : Int) + vs'.size ≤ m
          · have h5 : ¬ (m - (vts.length : Int) - (vs'.size : Int) < 0) := by omega
            have H4 := hide hfit
            clear hfit
            go_wp2_with fail
            refine (szVer_fits _ _ _ _ _ _ _ _ _ _ H3.out H4.out).mono ?_
            rintro e w1 ⟨rfl, hb1⟩
            have hL1 := hL.trans (hb1.mono hL.size)
            go_wp2
            exact ⟨⟨k + 1, _, by omega, by go_num, rfl, ⟨H2.out, by have := H4.out; omega⟩, hL1⟩, by simp [intOf]; omega⟩
          · have H4 := hide hfit
            clear hfit
            go_wp2_with fail
            refine (szVer_not _ _ _ _ _ _ _ _ _ _ H3.out hm.out.2 HB.out.1 HB.out.2 (by have := H4.out; omega)).mono ?_
            rintro e w1 ⟨rfl, hb1⟩
            have hL1 := hL.trans (hb1.mono hL.size)
            go_wp2
            go_ret
            exact ⟨rfl, hL1⟩
      · have hkn : k = n := by omega
        exfalso
        have := hm.out
        have := HT.out
        have := HF.out
        subst hkn
        omega
end Go.Proofs.Ytpelibkdphgpjaa
/- Versions in a row: whether two rows are the same; their copy. Condition: at most 1048576 versions, and tags of each. -/
namespace Go.Proofs.Ytpelibkdphgpjaa
open Go.RowKit Go.Joins

/-- Two rows say the same as far as both go. -/
def Like (vs us : List V) : Prop := ∀ (i : Nat) (v v' : V), vs[i]? = some v → us[i]? = some v' → V.like v v'
theorem Like.swap {vs us : List V} (h : Like vs us) : Like us vs := fun i v v' h1 h2 => by
  obtain ⟨a, b, c, d, e, f⟩ := h i v' v h2 h1
  exact ⟨a.symm, b.symm, c.symm, d.symm, e.symm, f.symm⟩
set_option maxRecDepth 100000 in
set_option maxHeartbeats 2000000 in
theorem eqVerS_same (a a' : Option Addr) (c c' n : Nat) (vs us : List V) (w : World) (hn : n ≤ 1048576) (hvn : vs.length = n) (hun : us.length = n)
    (hlike : Like vs us) (hm : ∀ v ∈ vs, v.ts.length ≤ 1048576) (hv : Vg w w.heap.size a vs) (hu : Vg w w.heap.size a' us) :
    Calls Try.prog 125 #[.slice a n c, .slice a' n c'] w fun e w' => e = .returned (.bool true) ∧ Below w.heap.size w w' := by
  have HN := hide hvn
  have HU := hide hun
  have HK := hide hlike
  have HM := hide hm
  clear hvn hun hlike hm
  go_enter Try.func125, Try.ntmps125
  go_wp2
  go_loopw [5] (fun i wr => ∃ k : Nat, k ≤ n ∧ i = .int .i64 (k : Int) ∧ Below w.heap.size w wr) (fun i _ => n - (intOf i).toNat)
  case atStart => exact ⟨0, Nat.zero_le _, rfl, Below.refl _ _⟩
  case round =>
    obtain ⟨k, hk, rfl, hL⟩ := hrel
    by_cases hlt : k < n
    · rcases hv with e0 | ⟨b, off, rfl, hb, hx⟩
      · have := HN.out; subst e0; simp at this; omega
      · rcases hu with e0 | ⟨b', off', rfl, hb', hx'⟩
        · have := HU.out; subst e0; simp at this; omega
        · have hkl : k < vs.length := by have := HN.out; omega
          have hkl' : k < us.length := by have := HU.out; omega
          obtain ⟨hS, hT⟩ := hx k _ (List.getElem?_eq_getElem hkl)
          obtain ⟨hS2, hT2⟩ := hx' k _ (List.getElem?_eq_getElem hkl')
          have HX := hide (List.getElem?_eq_getElem hkl)
          have HY := hide (List.getElem?_eq_getElem hkl')
          generalize vs[k] = v at hS hT HX
          generalize us[k] = v' at hS2 hT2 HY
          have hli := HK.out k v v' HX.out HY.out
          have HB := hide (HM.out v (List.mem_of_getElem? HX.out))
          obtain ⟨vk, vt, vu, va, vc, vts, vs', vg⟩ := v
          obtain ⟨uk, ut, uu, ua, uc, uts, us', ug⟩ := v'
          obtain ⟨e1, e2, e3, e4, e5, e6⟩ := hli
          simp only at e1 e2 e3 e4 e5 e6 hS hS2 hT hT2
          subst e1 e2 e3 e4 e5 e6
          have Q1 := hide hS
          have Q2 := hide hS2
          have T1 := hide hT
          have T2 := hide hT2
          clear hS hS2 hT hT2 hx hx'
          have i1 : (0 : Int) ≤ (k : Int) := by omega
          have i2 : (k : Int) < (n : Int) := by omega
          go_wp2_with fail
          refine wp_region_noPanic ?_
          refine wp_region_held_drew (S := (fun w' => Six w' b (off + k * 6) ⟨vk, vt, vu, va, vc, vts, vs', vg⟩ ∧ Six w' b' (off' + k * 6) ⟨vk, vt, vu, ua, uc, vts, vs', vg⟩ ∧ Below w.heap.size w w')) (by kernel_rfl) (by exact ⟨Q1.out.keep hb fun _ hp => hL.cell hp, Q2.out.keep hb' fun _ hp => hL.cell hp, hL.drew⟩) (fun hHeld => ?_)
          refine take_run 0 (some 17) (v := ?_) rfl rfl (by kernel_rfl) (by kernel_rfl) (by kernel_rfl) (fun _ _ _ h => h) (by rfl) ?_ hHeld ?_
          rotate_left
          · ((intro w hSw); (try dsimp only at hSw); go_simp <;> with_reducible rfl)
          simp only [Act.put, List.setIfInBounds_toArray, List.set_cons_zero, List.set_cons_succ]
          refine take_run 1 (some 18) (v := ?_) rfl rfl (by kernel_rfl) (by kernel_rfl) (by kernel_rfl) (fun _ _ _ h => h) (by rfl) ?_ hHeld ?_
          rotate_left
          · ((intro w hSw); (try dsimp only at hSw); go_simp <;> with_reducible rfl)
          simp only [Act.put, List.setIfInBounds_toArray, List.set_cons_zero, List.set_cons_succ]
          refine take_run 2 (some 19) (v := ?_) rfl rfl (by kernel_rfl) (by kernel_rfl) (by kernel_rfl) (fun _ _ _ h => h) (by rfl) ?_ hHeld ?_
          rotate_left
          · ((intro w hSw); (try dsimp only at hSw); go_simp <;> with_reducible rfl)
          simp only [Act.put, List.setIfInBounds_toArray, List.set_cons_zero, List.set_cons_succ]
          refine take_run 3 (some 20) (v := ?_) rfl rfl (by kernel_rfl) (by kernel_rfl) (by kernel_rfl) (fun _ _ _ h => h) (by rfl) ?_ hHeld ?_
          rotate_left
          · ((intro w hSw); (try dsimp only at hSw); go_simp <;> with_reducible rfl)
          simp only [Act.put, List.setIfInBounds_toArray, List.set_cons_zero, List.set_cons_succ]
          refine take_run 4 (some 21) (v := ?_) rfl rfl (by kernel_rfl) (by kernel_rfl) (by kernel_rfl) (fun _ _ _ h => h) (by rfl) ?_ hHeld ?_
          rotate_left
          · ((intro w hSw); (try dsimp only at hSw); go_simp <;> with_reducible rfl)
          simp only [Act.put, List.setIfInBounds_toArray, List.set_cons_zero, List.set_cons_succ]
          refine take_run 5 (some 22) (v := ?_) rfl rfl (by kernel_rfl) (by kernel_rfl) (by kernel_rfl) (fun _ _ _ h => h) (by rfl) ?_ hHeld ?_
          rotate_left
          · ((intro w hSw); (try dsimp only at hSw); go_simp <;> with_reducible rfl)
          simp only [Act.put, List.setIfInBounds_toArray, List.set_cons_zero, List.set_cons_succ]
          refine take_run 6 (some 23) (v := ?_) rfl rfl (by kernel_rfl) (by kernel_rfl) (by kernel_rfl) (fun _ _ _ h => h) (by rfl) ?_ hHeld ?_
          rotate_left
          · ((intro w hSw); (try dsimp only at hSw); go_simp <;> with_reducible rfl)
          simp only [Act.put, List.setIfInBounds_toArray, List.set_cons_zero, List.set_cons_succ]
          refine take_run 7 (some 24) (v := ?_) rfl rfl (by kernel_rfl) (by kernel_rfl) (by kernel_rfl) (fun _ _ _ h => h) (by rfl) ?_ hHeld ?_
          rotate_left
          · ((intro w hSw); (try dsimp only at hSw); go_simp <;> with_reducible rfl)
          simp only [Act.put, List.setIfInBounds_toArray, List.set_cons_zero, List.set_cons_succ]
          refine take_one 8 (by kernel_rfl) rfl (fun K hK => ?_)
          go_simp
          (refine (eqVer_same _ _ _ _ _ _ _ vts _ _ _ HB.out ((T1.out.on hHeld.2.2).up hHeld.2.2.size) ((T2.out.on hHeld.2.2).up hHeld.2.2.size)).mono ?_; rintro e w1 ⟨rfl, hb1⟩)
          try go_wp2_with fail
          refine hK.out _ _ (by exact ⟨Q1.out.keep hb fun _ hp => (hHeld.2.2.trans (hb1.mono hHeld.2.2.size)).cell hp, Q2.out.keep hb' fun _ hp => (hHeld.2.2.trans (hb1.mono hHeld.2.2.size)).cell hp, hHeld.2.2.trans (hb1.mono hHeld.2.2.size)⟩) (fun hHeld => ?_)
          clear hK K
          refine take_run 9 (some 26) (v := ?_) rfl rfl (by kernel_rfl) (by kernel_rfl) (by kernel_rfl) (fun _ _ _ h => h) (by rfl) ?_ hHeld ?_
          rotate_left
          · ((intro w hSw); (try dsimp only at hSw); go_simp <;> with_reducible rfl)
          simp only [Act.put, List.setIfInBounds_toArray, List.set_cons_zero, List.set_cons_succ]
          refine wpAnyH_done (by kernel_rfl) ?_ _
          refine NoPanic.normal ?_
          have hL2 := hHeld.2.2
          clear hHeld hL
          go_wp2
          exact ⟨⟨k + 1, by omega, by go_num, hL2⟩, by simp [intOf]; omega⟩
    · have hkn : k = n := by omega
      subst hkn
      clear hlt
      go_wp2
      go_ret
      exact ⟨rfl, hL⟩
set_option maxHeartbeats 1000000 in
theorem eqStore_same (a a' : Option Addr) (c c' n : Nat) (vs us : List V) (w : World) (hn : n ≤ 1048576) (hvn : vs.length = n) (hun : us.length = n)
    (hlike : Like vs us) (hm : ∀ v ∈ vs, v.ts.length ≤ 1048576) (hv : Vg w w.heap.size a vs) (hu : Vg w w.heap.size a' us) :
    Calls Try.prog 124 #[.agg #[.slice a n c], .agg #[.slice a' n c']] w fun e w' => e = .returned (.bool true) ∧ Below w.heap.size w w' := by
  have S0 := ((Inv.start w).box 74 #[.slice a n c]).box 74 #[.slice a' n c']
  simp only [World.size_alloc] at S0
  go_enter Try.func124, Try.ntmps124
  go_wp2_with fail
  refine (eqVerS_same a a' c c' n vs us _ hn hvn hun hlike hm ((hv.on S0.below).up S0.base) ((hu.on S0.below).up S0.base)).mono ?_
  rintro e w1 ⟨rfl, hb1⟩
  have S1 := S0.on hb1
  clear S0
  go_wp2
  go_ret
  exact ⟨rfl, S1.below⟩

theorem ver_info : (Try.prog.info? 55).map (fun i => (i.zero, i.size, i.bytes)) = some (some (.agg (verC 0 0 0 none 0 0 ⟨#[]⟩ false)), 6, 72) := by kernel_rfl

/-- The six cells of the version at place i of a row of cells. -/
def VerAt (cur : Array Value) (i : Nat) (v : V) : Prop :=
  cur[i * 6]? = some (.int .i64 v.k) ∧ cur[i * 6 + 1]? = some (.int .i64 v.t) ∧ cur[i * 6 + 2]? = some (.int .i64 v.u) ∧ cur[i * 6 + 3]? = some (.slice v.a v.ts.length v.c) ∧ cur[i * 6 + 4]? = some (.string v.s) ∧ cur[i * 6 + 5]? = some (.bool v.g)
/-- Cells with the version at place k turned. -/
abbrev put6 (cur : Array Value) (k : Nat) (v : V) : Array Value :=
  (((((cur.setIfInBounds (k * 6) (.int .i64 v.k)).setIfInBounds (k * 6 + 1) (.int .i64 v.t)).setIfInBounds (k * 6 + 2) (.int .i64 v.u)).setIfInBounds (k * 6 + 3) (.slice v.a v.ts.length v.c)).setIfInBounds (k * 6 + 4) (.string v.s)).setIfInBounds (k * 6 + 5) (.bool v.g)
theorem verAt_put {cur : Array Value} {k : Nat} {v : V} (h : k * 6 + 5 < cur.size) : VerAt (put6 cur k v) k v := by
  refine ⟨?_, ?_, ?_, ?_, ?_, ?_⟩ <;> simp [put6, Array.getElem?_setIfInBounds] <;> omega
theorem verAt_other {cur : Array Value} {j k : Nat} {v v' : V} (hj : j ≠ k) (h : VerAt cur j v) : VerAt (put6 cur k v') j v := by
  obtain ⟨h0, h1, h2, h3, h4, h5⟩ := h
  refine ⟨?_, ?_, ?_, ?_, ?_, ?_⟩
  all_goals
    unfold put6
    rw [Array.getElem?_setIfInBounds_ne (by omega), Array.getElem?_setIfInBounds_ne (by omega), Array.getElem?_setIfInBounds_ne (by omega), Array.getElem?_setIfInBounds_ne (by omega), Array.getElem?_setIfInBounds_ne (by omega), Array.getElem?_setIfInBounds_ne (by omega)]
    assumption
/-- A version whose causes lie in a block of their own, numbered above G. -/
def Own (w : World) (G : Nat) (v : V) : Prop :=
  ∃ (g : Nat) (cur : Array Value), v.a = some ⟨g, 0, none⟩ ∧ G < g ∧ Blk w g 53 cur ∧ cur.size = v.ts.length * 2 ∧ ∀ i x, v.ts[i]? = some x → TagAt cur i x
theorem Own.on {w w' : World} {G : Nat} {v : V} (h : Own w G v) (hb : Below w.heap.size w w') : Own w' G v := by
  obtain ⟨g, cur, h1, h2, h3, h4, h5⟩ := h
  exact ⟨g, cur, h1, h2, h3.on hb, h4, h5⟩
theorem Own.aside {w : World} {G : Nat} {v : V} (h : Own w G v) (i : Nat) (x : Value) : Own (w.setCell ⟨G, i, none⟩ x) G v := by
  obtain ⟨g, cur, h1, h2, h3, h4, h5⟩ := h
  exact ⟨g, cur, h1, h2, h3.aside (by simp; omega) x, h4, h5⟩
theorem Own.tg {w : World} {G : Nat} {v : V} (h : Own w G v) : Tg w w.heap.size v.a v.ts := by
  obtain ⟨g, cur, h1, h2, h3, h4, h5⟩ := h
  rw [h1]
  exact Tg.of h3 h3.inside h5
/-- A row of versions in one block, each with its causes in a block of its own. -/
def Row (w : World) (G : Nat) (us : List V) (cur : Array Value) : Prop := Blk w G 55 cur ∧ ∀ i v, us[i]? = some v → VerAt cur i v ∧ Own w G v
theorem Row.on {w w' : World} {G : Nat} {us : List V} {cur : Array Value} (h : Row w G us cur) (hb : Below w.heap.size w w') : Row w' G us cur := ⟨h.1.on hb, fun i v hi => ⟨(h.2 i v hi).1, (h.2 i v hi).2.on hb⟩⟩
theorem Row.vg {w : World} {G : Nat} {us : List V} {cur : Array Value} (h : Row w G us cur) : Vg w w.heap.size (some ⟨G, 0, none⟩) us :=
  .inr ⟨G, 0, rfl, h.1.inside, fun i v hi => by
    obtain ⟨⟨h0, h1, h2, h3, h4, h5⟩, ho⟩ := h.2 i v hi
    refine ⟨⟨?_, ?_, ?_, ?_, ?_, ?_⟩, ho.tg⟩
    all_goals
      rw [Nat.zero_add, h.1.at]
      assumption⟩
theorem like_step {us vs : List V} {k : Nat} {v v' : V} (h : Like us vs) (hk : us.length = k) (hv : vs[k]? = some v') (hl : V.like v v') : Like (us ++ [v]) vs := fun i x x' hi hi' => by
  by_cases e : i < us.length
  · rw [List.getElem?_append_left e] at hi
    exact h i x x' hi hi'
  · rw [List.getElem?_append_right (by omega)] at hi
    have h0 : i - us.length = 0 := by
      have := (List.getElem?_eq_some_iff.1 hi).1
      simp at this
      omega
    have hik : i = k := by omega
    rw [h0] at hi
    subst hik
    simp at hi
    rw [hv] at hi'
    injection hi' with hi'
    subst hi hi'
    exact hl
theorem row_step {w : World} {G k : Nat} {us : List V} {cur : Array Value} {v : V} (h : Row w G us cur) (hk : us.length = k) (ho : Own w G v) (hs : k * 6 + 5 < cur.size) :
    Row ((((((w.setCell ⟨G, k * 6, none⟩ (.int .i64 v.k)).setCell ⟨G, k * 6 + 1, none⟩ (.int .i64 v.t)).setCell ⟨G, k * 6 + 2, none⟩ (.int .i64 v.u)).setCell ⟨G, k * 6 + 3, none⟩ (.slice v.a v.ts.length v.c)).setCell ⟨G, k * 6 + 4, none⟩ (.string v.s)).setCell ⟨G, k * 6 + 5, none⟩ (.bool v.g)) G (us ++ [v]) (put6 cur k v) := by
  refine ⟨(((((h.1.put _ _).put _ _).put _ _).put _ _).put _ _).put _ _, fun i x hi => ?_⟩
  by_cases e : i < us.length
  · rw [List.getElem?_append_left e] at hi
    obtain ⟨h1, h2⟩ := h.2 i x hi
    exact ⟨verAt_other (by omega) h1, (((((h2.aside _ _).aside _ _).aside _ _).aside _ _).aside _ _).aside _ _⟩
  · rw [List.getElem?_append_right (by omega)] at hi
    have h0 : i - us.length = 0 := by
      have := (List.getElem?_eq_some_iff.1 hi).1
      simp at this
      omega
    have hik : i = k := by omega
    rw [h0] at hi
    subst hik
    simp at hi
    subst hi
    exact ⟨verAt_put hs, (((((ho.aside _ _).aside _ _).aside _ _).aside _ _).aside _ _).aside _ _⟩
/-- What toVerS leaves. -/
def CopiedVS (w : World) (vs : List V) (e : Ending) (w' : World) : Prop :=
  ∃ (g : Nat) (us : List V) (cur : Array Value), e = .returned (.slice (some ⟨g, 0, none⟩) vs.length vs.length) ∧ w.heap.size ≤ g ∧ us.length = vs.length ∧ (Like us vs) ∧ Row w' g us cur ∧ cur.size = vs.length * 6 ∧ Below w.heap.size w w'

set_option maxRecDepth 100000 in
set_option maxHeartbeats 2000000 in
theorem toVerS_any (a : Option Addr) (c : Nat) (vs : List V) (w : World) (hn : vs.length ≤ 1048576) (hm : ∀ v ∈ vs, v.ts.length ≤ 1048576) (hv : Vg w w.heap.size a vs) :
    Calls Try.prog 123 #[.slice a vs.length c] w (CopiedVS w vs) := by
  obtain ⟨i0, hi0, hz0, hz1, hz2⟩ := info_parts ver_info
  have hmk : ∀ W : World, (Instr.makeSlice 72 (.int .i64 (vs.length : Int)) (.int .i64 (vs.length : Int))).run Try.prog W = .ok (.slice (some ⟨W.heap.size, 0, none⟩) vs.length vs.length) (W.alloc (.cells (madeCells (Value.agg (verC 0 0 0 none 0 0 ⟨#[]⟩ false)).cells (vs.length * 6)) 55)) := by
    intro W
    have hr := run_make (P := Try.prog) W 72 55 i0 _ Try.underlying72 hi0 hz0 .i64 .i64 (vs.length : Int) (vs.length : Int) (by omega) (by omega) (by rw [hz2]; omega) (by omega)
    rw [hz1] at hr
    simpa using hr
  have HM := hide hm
  clear hm
  generalize hn' : vs.length = n at *
  have HN := hide hn'
  clear hn'
  go_enter Try.func123, Try.ntmps123
  go_wp2
  clear hmk hi0 hz0 hz1 hz2
  have B0 := Blk.made w 55 (madeCells (verC 0 0 0 none 0 0 ⟨#[]⟩ false) (n * 6))
  have L0 := below_alloc1 w (.cells (madeCells (verC 0 0 0 none 0 0 ⟨#[]⟩ false) (n * 6)) 55)
  go_loopw [4] (fun i wr => ∃ (k : Nat) (cur : Array Value) (us : List V), k ≤ n ∧ i = .int .i64 (k : Int) ∧ Hid (us.length = k) ∧ Row wr w.heap.size us cur ∧ cur.size = n * 6 ∧ Hid (Like us vs) ∧ Below w.heap.size w wr) (fun i _ => n - (intOf i).toNat)
  case atStart => exact ⟨0, _, [], Nat.zero_le _, rfl, rfl, ⟨B0, fun i v hi => by simp at hi⟩, size_madeCells _ _, fun i v v' hi => by simp at hi, L0⟩
  case round =>
    obtain ⟨k, cur, us, hk, rfl, hus, hR, hsz, hli, hL⟩ := hrel
    by_cases hlt : k < n
    · rcases hv with h0 | ⟨b, off, rfl, hb, hx⟩
      · have := HN.out; subst h0; simp at this; omega
      · have hkl : k < vs.length := by have := HN.out; omega
        obtain ⟨hS, hT⟩ := hx k _ (List.getElem?_eq_getElem hkl)
        have HX := hide (List.getElem?_eq_getElem hkl)
        generalize vs[k] = v at hS hT HX
        have HB := hide (HM.out v (List.mem_of_getElem? HX.out))
        obtain ⟨vk, vt, vu, va, vc, vts, vs', vg⟩ := v
        simp only at hS hT
        have hS' := hS.keep hb fun _ hp => hL.cell hp
        have HT := hide ((hT.on hL).up hL.size)
        clear hS hT hx
        go_wp2_with fail
        refine (toVer_any vk vt vu va vc vts vs' vg wr HB.out HT.out).mono ?_
        rintro e w1 ⟨g1, cur1, rfl, hg1, hB1, hsz1, hcur1, hb1⟩
        have hG : w.heap.size < wr.heap.size := hR.1.inside
        have O1 : Own w1 w.heap.size ⟨vk, vt, vu, some ⟨g1, 0, none⟩, vts.length, vts, vs', vg⟩ := ⟨g1, cur1, rfl, by omega, hB1, hsz1, hcur1⟩
        have HR := hide (row_step (hR.on hb1) hus.out O1 (show k * 6 + 5 < cur.size by omega))
        have HL := hide (like_step hli.out hus.out HX.out (v := ⟨vk, vt, vu, some ⟨g1, 0, none⟩, vts.length, vts, vs', vg⟩) ⟨rfl, rfl, rfl, rfl, rfl, rfl⟩)
        have B1 := hR.1.on hb1
        have hs0 : k * 6 < cur.size := by omega
        have hs1 : k * 6 + 1 < cur.size := by omega
        have hs2 : k * 6 + 2 < cur.size := by omega
        have hs3 : k * 6 + 3 < cur.size := by omega
        have hs4 : k * 6 + 4 < cur.size := by omega
        have hs5 : k * 6 + 5 < cur.size := by omega
        have d0 : w1.cell? ⟨w.heap.size, k * 6, none⟩ = some cur[k * 6] := by rw [B1.at]; exact Array.getElem?_eq_getElem hs0
        have d1 : w1.cell? ⟨w.heap.size, k * 6 + 1, none⟩ = some cur[k * 6 + 1] := by rw [B1.at]; exact Array.getElem?_eq_getElem hs1
        have d2 : w1.cell? ⟨w.heap.size, k * 6 + 2, none⟩ = some cur[k * 6 + 2] := by rw [B1.at]; exact Array.getElem?_eq_getElem hs2
        have d3 : w1.cell? ⟨w.heap.size, k * 6 + 3, none⟩ = some cur[k * 6 + 3] := by rw [B1.at]; exact Array.getElem?_eq_getElem hs3
        have d4 : w1.cell? ⟨w.heap.size, k * 6 + 4, none⟩ = some cur[k * 6 + 4] := by rw [B1.at]; exact Array.getElem?_eq_getElem hs4
        have d5 : w1.cell? ⟨w.heap.size, k * 6 + 5, none⟩ = some cur[k * 6 + 5] := by rw [B1.at]; exact Array.getElem?_eq_getElem hs5
        have f0 := B1.loose (k * 6)
        have f1 := B1.loose (k * 6 + 1)
        have f2 := B1.loose (k * 6 + 2)
        have f3 := B1.loose (k * 6 + 3)
        have f4 := B1.loose (k * 6 + 4)
        have f5 := B1.loose (k * 6 + 5)
        have hL1 := hL.trans (hb1.mono hL.size)
        have HU : Hid ((us ++ [(⟨vk, vt, vu, some ⟨g1, 0, none⟩, vts.length, vts, vs', vg⟩ : V)]).length = k + 1) := by
          unfold Hid
          rw [List.length_append, hus.out]
          rfl
        clear hS' hR hli hus hcur1 O1 hL B1 hB1
        go_wp2
        exact ⟨⟨k + 1, _, _, by omega, by go_num, HU, HR.out, by simp [hsz], HL, (((((hL1.setCell (Nat.le_refl _) _).setCell (Nat.le_refl _) _).setCell (Nat.le_refl _) _).setCell (Nat.le_refl _) _).setCell (Nat.le_refl _) _).setCell (Nat.le_refl _) _⟩, by simp [intOf]; omega⟩
    · have hkn : k = n := by omega
      subst hkn
      clear hlt
      go_wp2
      go_ret
      have e := HN.out
      exact ⟨_, us, cur, by rw [e]; rfl, Nat.le_refl _, hus.out.trans e.symm, hli.out, hR, by rw [e]; exact hsz, hL⟩

/-- What toStore leaves. -/
def CopiedSt (w : World) (vs : List V) (e : Ending) (w' : World) : Prop :=
  ∃ (g : Nat) (us : List V) (cur : Array Value), e = .returned (.agg #[.slice (some ⟨g, 0, none⟩) vs.length vs.length]) ∧ w.heap.size ≤ g ∧ us.length = vs.length ∧ (Like us vs) ∧ Row w' g us cur ∧ cur.size = vs.length * 6 ∧ Below w.heap.size w w'
theorem Row.aside {w : World} {G : Nat} {us : List V} {cur : Array Value} (h : Row w G us cur) {p : Addr} (hp : p.block < G) (x : Value) : Row (w.setCell p x) G us cur :=
  ⟨h.1.aside (by omega) x, fun i v hi => ⟨(h.2 i v hi).1, by
    obtain ⟨g, c, h1, h2, h3, h4, h5⟩ := (h.2 i v hi).2
    exact ⟨g, c, h1, h2, h3.aside (by omega) x, h4, h5⟩⟩⟩

set_option maxRecDepth 100000 in
set_option maxHeartbeats 1000000 in
theorem toStore_any (a : Option Addr) (c : Nat) (vs : List V) (w : World) (hn : vs.length ≤ 1048576) (hm : ∀ v ∈ vs, v.ts.length ≤ 1048576) (hv : Vg w w.heap.size a vs) :
    Calls Try.prog 122 #[.agg #[.slice a vs.length c]] w (CopiedSt w vs) := by
  have S0 := (((Inv.start w).box 123 #[.slice a vs.length c]).box 74 #[.slice none 0 0]).box 74 #[.slice none 0 0]
  simp only [World.size_alloc] at S0
  have T0 := hv.on S0.below
  go_enter Try.func122, Try.ntmps122
  go_wp2_with fail
  generalize (((w.alloc (.cells #[.slice a vs.length c] 123)).alloc (.cells #[.slice none 0 0] 74)).alloc (.cells #[.slice none 0 0] 74)) = W at S0 T0 ⊢
  refine (toVerS_any a c vs W hn hm (T0.up S0.base)).mono ?_
  rintro e w1 ⟨g, us, cur, rfl, hg, hul, hli, hR, hsz, hb1⟩
  have S1 := S0.on hb1
  have hr := S0.room
  have hl := S1.below
  obtain ⟨k0, f0⟩ := (S1.nth 0 rfl).one
  obtain ⟨k1, f1⟩ := (S1.nth 1 rfl).one
  have hW := S0.base
  have HR := hide hR
  have HL := hide hli
  have HU := hide hul
  clear hR hli hul S0 S1 T0 hv hm
  go_wp2
  refine bodyPost_ret (v := .agg #[.slice (some ⟨g, 0, none⟩) vs.length vs.length]) (by simp [results, Try.results122, go_sem, k1]) rfl ?_
  exact ⟨g, us, cur, rfl, by omega, HU.out, HL.out, (HR.out.aside (by simp; omega) _).aside (by simp; omega) _, hsz, (hl.setCell (by simp; omega) _).setCell (by simp) _⟩
set_option maxHeartbeats 1000000 in
theorem szStore_fits (a : Option Addr) (c : Nat) (vs : List V) (left : Int) (w : World) (h0 : left ≤ 1048576) (hf : (vs.length : Int) + tot vs ≤ left) (hv : Vg w w.heap.size a vs) :
    Calls Try.prog 119 #[.agg #[.slice a vs.length c], .int .i64 left] w fun e w' => e = .returned (.int .i64 (left - vs.length - tot vs)) ∧ Below w.heap.size w w' := by
  have h1 : ¬ (left - (vs.length : Int) - (tot vs : Int) < 0) := by omega
  have S0 := (Inv.start w).box 123 #[.slice a vs.length c]
  go_enter Try.func119, Try.ntmps119
  go_wp2_with fail
  refine (szVerS_fits a c vs left _ h0 hf ((hv.on S0.below).up S0.base)).mono ?_
  rintro e w1 ⟨rfl, hb1⟩
  have S1 := S0.on hb1
  clear S0
  go_wp2
  go_ret
  exact ⟨rfl, S1.below⟩
set_option maxHeartbeats 1000000 in
theorem szStore_not (a : Option Addr) (c : Nat) (vs : List V) (left : Int) (w : World) (h0 : left ≤ 1048576) (h00 : 0 ≤ left) (hl : vs.length ≤ 9223372036854775807) (hm0 : ∀ v ∈ vs, v.ts.length ≤ 9223372036854775807 ∧ v.s.size ≤ 9223372036854775807) (hf : left < (vs.length : Int) + tot vs) (hv : Vg w w.heap.size a vs) :
    Calls Try.prog 119 #[.agg #[.slice a vs.length c], .int .i64 left] w fun e w' => e = .returned (.int .i64 (-1)) ∧ Below w.heap.size w w' := by
  have S0 := (Inv.start w).box 123 #[.slice a vs.length c]
  have HM := hide hm0
  clear hm0
  go_enter Try.func119, Try.ntmps119
  go_wp2_with fail
  refine (szVerS_not a c vs left _ h0 h00 hl HM.out hf ((hv.on S0.below).up S0.base)).mono ?_
  rintro e w1 ⟨rfl, hb1⟩
  have S1 := S0.on hb1
  clear S0
  go_wp2
  go_ret
  exact ⟨rfl, S1.below⟩
end Go.Proofs.Ytpelibkdphgpjaa
/- Whether two versions, two stores are the same, as the promises compare them: of such as are. Condition: what is said of each. -/
namespace Go.Proofs.Ytpelibkdphgpjaa
open Go.RowKit Go.Joins
attribute [local go_sem ↓] Go.wp_at_zero Go.wp_at_succ

set_option maxRecDepth 100000 in
set_option maxHeartbeats 2000000 in
theorem cfVer_same (k t u : Int) (a a' : Option Addr) (c c' : Nat) (ts : List (Int × Int)) (s : ByteArray) (b : Bool) (w : World) (hn : ts.length ≤ 1048576) (ht : Tg w w.heap.size a ts) (hu : Tg w w.heap.size a' ts) :
    Calls Try.prog 84 #[.agg (verC k t u a ts.length c s b), .agg (verC k t u a' ts.length c' s b)] w fun e w' => e = .returned (.bool true) ∧ Below w.heap.size w w' := by
  have S0 := ((Inv.start w).box 55 (verC k t u a ts.length c s b)).box 55 (verC k t u a' ts.length c' s b)
  simp only [World.size_alloc] at S0
  have q0 := (S0.nth 0 rfl).six.1
  have q1 := (S0.nth 1 rfl).six.1
  go_enter Try.func84, Try.ntmps84
  go_wp2_with fail
  refine (cfPast_any a a' c c' ts ts _ hn hn ((ht.on S0.below).up S0.base) ((hu.on S0.below).up S0.base)).mono ?_
  rw [decide_eq_true rfl]
  rintro e w1 ⟨rfl, hb1⟩
  have S1 := S0.on hb1
  have k0 := (S1.nth 0 rfl).six.1
  have k1 := (S1.nth 1 rfl).six.1
  clear S0 q0 q1 hb1 ht hu
  go_wp2
  go_ret
  exact ⟨rfl, S1.below⟩
set_option maxRecDepth 100000 in
set_option maxHeartbeats 2000000 in
theorem cfStore_same (a a' : Option Addr) (c c' n : Nat) (vs us : List V) (w : World) (hn : n ≤ 1048576) (hvn : vs.length = n) (hun : us.length = n)
    (hlike : Like vs us) (hm : ∀ v ∈ vs, v.ts.length ≤ 1048576) (hv : Vg w w.heap.size a vs) (hu : Vg w w.heap.size a' us) :
    Calls Try.prog 44 #[.agg #[.slice a n c], .agg #[.slice a' n c']] w fun e w' => e = .returned (.bool true) ∧ Below w.heap.size w w' := by
  have S0 := ((Inv.start w).box 74 #[.slice a n c]).box 74 #[.slice a' n c']
  simp only [World.size_alloc] at S0
  have HN := hide hvn
  have HU := hide hun
  have HK := hide hlike
  have HM := hide hm
  clear hvn hun hlike hm
  go_enter Try.func44, Try.ntmps44
  go_wp2
  go_loopw [5] (fun i wr => ∃ k : Nat, k ≤ n ∧ i = .int .i64 (k : Int) ∧ Inv w (w.heap.size + 1 + 1) [(w.heap.size + 1, 74, #[.slice a' n c']), (w.heap.size, 74, #[.slice a n c])] wr) (fun i _ => n - (intOf i).toNat)
  case atStart => exact ⟨0, Nat.zero_le _, rfl, S0⟩
  case round =>
    obtain ⟨k, hk, rfl, hI⟩ := hrel
    clear S0
    by_cases hlt : k < n
    · rcases hv with e0 | ⟨b, off, rfl, hb, hx⟩
      · have := HN.out; subst e0; simp at this; omega
      · rcases hu with e0 | ⟨b', off', rfl, hb', hx'⟩
        · have := HU.out; subst e0; simp at this; omega
        · have hkl : k < vs.length := by have := HN.out; omega
          have hkl' : k < us.length := by have := HU.out; omega
          obtain ⟨hS, hT⟩ := hx k _ (List.getElem?_eq_getElem hkl)
          obtain ⟨hS2, hT2⟩ := hx' k _ (List.getElem?_eq_getElem hkl')
          have HX := hide (List.getElem?_eq_getElem hkl)
          have HY := hide (List.getElem?_eq_getElem hkl')
          generalize vs[k] = v at hS hT HX
          generalize us[k] = v' at hS2 hT2 HY
          have hli := HK.out k v v' HX.out HY.out
          have HB := hide (HM.out v (List.mem_of_getElem? HX.out))
          obtain ⟨vk, vt, vu, va, vc, vts, vs', vg⟩ := v
          obtain ⟨uk, ut, uu, ua, uc, uts, us', ug⟩ := v'
          obtain ⟨e1, e2, e3, e4, e5, e6⟩ := hli
          simp only at e1 e2 e3 e4 e5 e6 hS hS2 hT hT2
          subst e1 e2 e3 e4 e5 e6
          have Q1 := hide hS
          have Q2 := hide hS2
          have T1 := hide hT
          have T2 := hide hT2
          clear hS hS2 hT hT2 hx hx'
          have i1 : (0 : Int) ≤ (k : Int) := by omega
          have i2 : (k : Int) < (n : Int) := by omega
          have q0 := (hI.nth 0 rfl).one.1
          have q1 := (hI.nth 1 rfl).one.1
          have jh : ∀ w', Inv w (w.heap.size + 1 + 1) [(w.heap.size + 1, 74, #[.slice (some ⟨b', off', none⟩) n c']), (w.heap.size, 74, #[.slice (some ⟨b, off, none⟩) n c])] w' → (w'.cell? ⟨w.heap.size + 1, 0, none⟩ = some (.slice (some ⟨b', off', none⟩) n c') ∧ w'.cell? ⟨w.heap.size, 0, none⟩ = some (.slice (some ⟨b, off, none⟩) n c)) ∧ Six w' b (off + k * 6) ⟨vk, vt, vu, va, vc, vts, vs', vg⟩ ∧ Six w' b' (off' + k * 6) ⟨vk, vt, vu, ua, uc, vts, vs', vg⟩ ∧ Inv w (w.heap.size + 1 + 1) [(w.heap.size + 1, 74, #[.slice (some ⟨b', off', none⟩) n c']), (w.heap.size, 74, #[.slice (some ⟨b, off, none⟩) n c])] w' := fun w' h =>
            ⟨⟨(h.nth 0 rfl).at 0, (h.nth 1 rfl).at 0⟩, Q1.out.keep hb fun _ hp => h.below.cell hp, Q2.out.keep hb' fun _ hp => h.below.cell hp, h⟩
          go_wp2_with fail
          refine wp_region_noPanic ?_
          refine wp_region_held_drew (S := (fun w' => (w'.cell? ⟨w.heap.size + 1, 0, none⟩ = some (.slice (some ⟨b', off', none⟩) n c') ∧ w'.cell? ⟨w.heap.size, 0, none⟩ = some (.slice (some ⟨b, off, none⟩) n c)) ∧ Six w' b (off + k * 6) ⟨vk, vt, vu, va, vc, vts, vs', vg⟩ ∧ Six w' b' (off' + k * 6) ⟨vk, vt, vu, ua, uc, vts, vs', vg⟩ ∧ Inv w (w.heap.size + 1 + 1) [(w.heap.size + 1, 74, #[.slice (some ⟨b', off', none⟩) n c']), (w.heap.size, 74, #[.slice (some ⟨b, off, none⟩) n c])] w')) (by kernel_rfl) (by exact jh _ hI.drew) (fun hHeld => ?_)
          refine take_run 0 (some 20) (v := ?_) rfl rfl (by kernel_rfl) (by kernel_rfl) (by kernel_rfl) (fun _ _ _ h => h) (by rfl) ?_ hHeld ?_
          rotate_left
          · ((intro w hSw); (try dsimp only at hSw); go_simp <;> with_reducible rfl)
          simp only [Act.put, List.setIfInBounds_toArray, List.set_cons_zero, List.set_cons_succ]
          refine take_run 1 (some 21) (v := ?_) rfl rfl (by kernel_rfl) (by kernel_rfl) (by kernel_rfl) (fun _ _ _ h => h) (by rfl) ?_ hHeld ?_
          rotate_left
          · ((intro w hSw); (try dsimp only at hSw); go_simp <;> with_reducible rfl)
          simp only [Act.put, List.setIfInBounds_toArray, List.set_cons_zero, List.set_cons_succ]
          refine take_run 2 (some 22) (v := ?_) rfl rfl (by kernel_rfl) (by kernel_rfl) (by kernel_rfl) (fun _ _ _ h => h) (by rfl) ?_ hHeld ?_
          rotate_left
          · ((intro w hSw); (try dsimp only at hSw); go_simp <;> with_reducible rfl)
          simp only [Act.put, List.setIfInBounds_toArray, List.set_cons_zero, List.set_cons_succ]
          refine take_run 3 (some 23) (v := ?_) rfl rfl (by kernel_rfl) (by kernel_rfl) (by kernel_rfl) (fun _ _ _ h => h) (by rfl) ?_ hHeld ?_
          rotate_left
          · ((intro w hSw); (try dsimp only at hSw); go_simp <;> with_reducible rfl)
          simp only [Act.put, List.setIfInBounds_toArray, List.set_cons_zero, List.set_cons_succ]
          refine take_run 4 (some 24) (v := ?_) rfl rfl (by kernel_rfl) (by kernel_rfl) (by kernel_rfl) (fun _ _ _ h => h) (by rfl) ?_ hHeld ?_
          rotate_left
          · ((intro w hSw); (try dsimp only at hSw); go_simp <;> with_reducible rfl)
          simp only [Act.put, List.setIfInBounds_toArray, List.set_cons_zero, List.set_cons_succ]
          refine take_run 5 (some 25) (v := ?_) rfl rfl (by kernel_rfl) (by kernel_rfl) (by kernel_rfl) (fun _ _ _ h => h) (by rfl) ?_ hHeld ?_
          rotate_left
          · ((intro w hSw); (try dsimp only at hSw); go_simp <;> with_reducible rfl)
          simp only [Act.put, List.setIfInBounds_toArray, List.set_cons_zero, List.set_cons_succ]
          refine take_run 6 (some 26) (v := ?_) rfl rfl (by kernel_rfl) (by kernel_rfl) (by kernel_rfl) (fun _ _ _ h => h) (by rfl) ?_ hHeld ?_
          rotate_left
          · ((intro w hSw); (try dsimp only at hSw); go_simp <;> with_reducible rfl)
          simp only [Act.put, List.setIfInBounds_toArray, List.set_cons_zero, List.set_cons_succ]
          refine take_run 7 (some 27) (v := ?_) rfl rfl (by kernel_rfl) (by kernel_rfl) (by kernel_rfl) (fun _ _ _ h => h) (by rfl) ?_ hHeld ?_
          rotate_left
          · ((intro w hSw); (try dsimp only at hSw); go_simp <;> with_reducible rfl)
          simp only [Act.put, List.setIfInBounds_toArray, List.set_cons_zero, List.set_cons_succ]
          refine take_run 8 (some 28) (v := ?_) rfl rfl (by kernel_rfl) (by kernel_rfl) (by kernel_rfl) (fun _ _ _ h => h) (by rfl) ?_ hHeld ?_
          rotate_left
          · ((intro w hSw); (try dsimp only at hSw); go_simp <;> with_reducible rfl)
          simp only [Act.put, List.setIfInBounds_toArray, List.set_cons_zero, List.set_cons_succ]
          refine take_run 9 (some 29) (v := ?_) rfl rfl (by kernel_rfl) (by kernel_rfl) (by kernel_rfl) (fun _ _ _ h => h) (by rfl) ?_ hHeld ?_
          rotate_left
          · ((intro w hSw); (try dsimp only at hSw); go_simp <;> with_reducible rfl)
          simp only [Act.put, List.setIfInBounds_toArray, List.set_cons_zero, List.set_cons_succ]
          refine take_one 10 (by kernel_rfl) rfl (fun K hK => ?_)
          go_simp
          (refine (cfVer_same _ _ _ _ _ _ _ vts _ _ _ HB.out ((T1.out.on hHeld.2.2.2.below).up hHeld.2.2.2.base) ((T2.out.on hHeld.2.2.2.below).up hHeld.2.2.2.base)).mono ?_; rintro e w1 ⟨rfl, hb1⟩)
          try go_wp2_with fail
          refine hK.out _ _ (by exact jh _ (hHeld.2.2.2.on hb1)) (fun hHeld => ?_)
          clear hK K
          refine take_run 11 (some 31) (v := ?_) rfl rfl (by kernel_rfl) (by kernel_rfl) (by kernel_rfl) (fun _ _ _ h => h) (by rfl) ?_ hHeld ?_
          rotate_left
          · ((intro w hSw); (try dsimp only at hSw); go_simp <;> with_reducible rfl)
          simp only [Act.put, List.setIfInBounds_toArray, List.set_cons_zero, List.set_cons_succ]
          refine wpAnyH_done (by kernel_rfl) ?_ _
          refine NoPanic.normal ?_
          have hI2 := hHeld.2.2.2
          clear hHeld hI q0 q1
          go_wp2
          exact ⟨⟨k + 1, by omega, by go_num, hI2⟩, by simp [intOf]; omega⟩
    · have hkn : k = n := by omega
      subst hkn
      clear hlt
      have q0 := (hI.nth 0 rfl).one.1
      have q1 := (hI.nth 1 rfl).one.1
      go_wp2
      go_ret
      exact ⟨rfl, hI.below⟩
end Go.Proofs.Ytpelibkdphgpjaa
/- Contract of the laws' function that writes a number as a text. Condition: the number is at least 1 and at most 8388000. -/
namespace Go.Proofs.Ytpelibkdphgpjaa
open Go.RowKit Go.Joins

/-- The digits of m, ahead of s. -/
def mtx : Nat → Int → ByteArray → ByteArray
  | 0, _, s => s
  | f + 1, m, s => if m ≤ 0 then s else mtx f (m / 10) (⟨#[UInt8.ofNat (48 + m % 10).toNat]⟩ ++ s)
/-- The text that tells the number k. -/
def markT (k : Int) : ByteArray := ⟨#[109]⟩ ++ mtx k.toNat k ⟨#[]⟩
theorem mtx_zero (f : Nat) (s : ByteArray) : mtx f 0 s = s := by cases f <;> rfl
theorem mtx_step {f : Nat} {m : Int} {s : ByteArray} (hm : 0 < m) (hf : m.toNat ≤ f) : ∃ f', (m / 10).toNat ≤ f' ∧ mtx f m s = mtx f' (m / 10) (⟨#[UInt8.ofNat (48 + m % 10).toNat]⟩ ++ s) := by
  match f with
  | 0 => omega
  | f' + 1 =>
    refine ⟨f', by omega, ?_⟩
    rw [mtx, if_neg (by omega)]

set_option maxRecDepth 100000 in
set_option maxHeartbeats 1000000 in
theorem markText_any (k : Int) (w : World) (h1 : 1 ≤ k) (h2 : k ≤ 8388000) :
    Calls Try.prog 127 #[.int .i64 k] w fun e w' => e = .returned (.string (markT k)) ∧ Below w.heap.size w w' := by
  have h0 : ¬ k ≤ 0 := by omega
  go_enter Try.func127, Try.ntmps127
  go_wp2
  go_loopw [0, 3] (fun kk o wr => ∃ (m : Int) (s : ByteArray), 0 ≤ m ∧ (s.size : Int) + m ≤ k ∧ kk = .int .i64 m ∧ o = .string s ∧ Hid (∃ f, m.toNat ≤ f ∧ mtx k.toNat k ⟨#[]⟩ = mtx f m s) ∧ Below w.heap.size w wr) (fun kk _ _ => (intOf kk).toNat)
  case atStart => exact ⟨k, _, by omega, by simp [ByteArray.size], rfl, rfl, ⟨_, Nat.le_refl _, rfl⟩, Below.refl _ _⟩
  case round =>
    obtain ⟨m, s, hm, hmk, rfl, rfl, hE, hL⟩ := hrel
    by_cases hlt : m > 0
    · have hr0 : 0 ≤ m % 10 ∧ m % 10 < 10 := by omega
      have hsz : (s.size : Int) ≤ 8388608 := by omega
      have hone : ((ByteArray.mk #[UInt8.ofNat (48 + m % 10).toNat]).size : Int) ≤ 8388608 := by simp [ByteArray.size]
      have B0 := Blk.made wr 5 #[.int .u8 (48 + m % 10)]
      have hcv : (convert 22 9 (.slice (some ⟨wr.heap.size, 0, none⟩) 1 1)).run Try.prog (wr.alloc (.cells #[.int .u8 (48 + m % 10)] 5)) = .ok (.string ⟨#[UInt8.ofNat (48 + m % 10).toNat]⟩) (wr.alloc (.cells #[.int .u8 (48 + m % 10)] 5)) := by
        rw [run_convert_bytes_string _ _ _ 5 _ _ _ Try.underlying22 Try.underlying5 Try.underlying9, run_bytesToString _ _ 1 1 [48 + m % 10] (by go_simp)]
        rfl
      have hadd := fun W : World => run_string_add (P := Try.prog) (w := W) (ByteArray.mk #[UInt8.ofNat (48 + m % 10).toNat]) s hone hsz
      have HE : Hid (∃ f, (m / 10).toNat ≤ f ∧ mtx k.toNat k ⟨#[]⟩ = mtx f (m / 10) (⟨#[UInt8.ofNat (48 + m % 10).toNat]⟩ ++ s)) := by
        obtain ⟨f, hf, e⟩ := hE.out
        obtain ⟨f', hf', e'⟩ := mtx_step (s := s) hlt hf
        exact ⟨f', hf', e.trans e'⟩
      have H9 : Hid (0 ≤ m / 10 ∧ ((ByteArray.mk #[UInt8.ofNat (48 + m % 10).toNat] ++ s).size : Int) + m / 10 ≤ k) := by
        refine ⟨by omega, ?_⟩
        have e1 : (ByteArray.mk #[UInt8.ofNat (48 + m % 10).toNat]).size = 1 := rfl
        rw [ByteArray.size_append, e1]
        omega
      go_wp2
      exact ⟨⟨m / 10, _, H9.out.1, H9.out.2, rfl, rfl, HE, hL.alloc hL.size _⟩, by simp [intOf]; omega⟩
    · have hm0 : m = 0 := by omega
      subst hm0
      have HE : Hid (mtx k.toNat k ⟨#[]⟩ = s) := by
        obtain ⟨f, _, e⟩ := hE.out
        show mtx k.toNat k ⟨#[]⟩ = s
        rw [e, mtx_zero]
      go_wp2
      go_ret
      exact ⟨congrArg (fun x => Ending.returned (.string x)) (show _ = markT k by unfold markT; rw [HE.out]), hL⟩
end Go.Proofs.Ytpelibkdphgpjaa
/- What it is that every block of tags stays as it is. Of whatever program that has tags. -/
namespace Go.Proofs.Ytpelibkdphgpjaa
open Go.RowKit Go.Joins

/-- Every block of tags stays as it is. -/
def Tk (w w' : World) : Prop := ∀ g cur, Blk w g 53 cur → Blk w' g 53 cur
theorem Tk.below {w w' : World} (h : Below w.heap.size w w') : Tk w w' := fun _ _ hb => hb.on h
theorem Tk.drew (w : World) : Tk w w.drew := fun _ _ hb => hb
theorem Tk.alloc (w : World) (o : Obj) : Tk w (w.alloc o) := fun _ _ hb => hb.more o
theorem Tk.trans {a b c : World} (h : Tk a b) (k : Tk b c) : Tk a c := fun g cur hb => k g cur (h g cur hb)
theorem blk_type {w : World} {g : Nat} {T T' : TypeId} {cs cs' : Array Value} (h : Blk w g T cs) (h' : Blk w g T' cs') : T = T' ∧ cs = cs' := by
  unfold Blk at h h'
  rw [h] at h'
  injection h' with h'
  injection h' with h1 h2 h3
  exact ⟨h2, h1⟩
theorem Tk.set {w : World} {p : Addr} {T : TypeId} {cs : Array Value} (hb : Blk w p.block T cs) (hT : T ≠ 53) (u : Value) : Tk w (w.setCell p u) := fun _ _ h => h.aside (fun e => by
  subst e
  exact hT (blk_type hb h).1) u
theorem Tk.grown {w w' : World} {row : Option Nat} (hg : w.grownBy w' row) (hr : ∀ r, row = some r → ∃ T cs, Blk w r T cs ∧ T ≠ 53) : Tk w w' := fun g _ h => h.kept hg (fun e => by
  obtain ⟨T, cs, hb, hT⟩ := hr g e
  exact hT (blk_type hb h).1)
end Go.Proofs.Ytpelibkdphgpjaa
