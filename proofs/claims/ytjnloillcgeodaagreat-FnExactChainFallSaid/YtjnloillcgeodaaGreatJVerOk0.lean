/- Versions in a row: how they are read, their size, whether two rows are the same. Condition: what is said of each. -/
import Derived.Test.YtjnloillcgeodaaGreatJVers
namespace Go.Proofs.YtjnloillcgeodaaGreat
open Go.RowKit Go.Joins

/-- A version as it lies in memory. -/
structure V where
  k : Int
  t : Int
  u : Int
  a : Option Addr
  c : Nat
  ts : List (Int × Int)
  s : ByteArray
  g : Bool
/-- Two versions say the same. -/
def V.like (v v' : V) : Prop := v.k = v'.k ∧ v.t = v'.t ∧ v.u = v'.u ∧ v.ts = v'.ts ∧ v.s = v'.s ∧ v.g = v'.g
/-- The six cells of a version from here on. -/
abbrev Six (w : World) (b o : Nat) (v : V) : Prop :=
  w.cell? ⟨b, o, none⟩ = some (.int .i64 v.k) ∧ w.cell? ⟨b, o + 1, none⟩ = some (.int .i64 v.t) ∧ w.cell? ⟨b, o + 2, none⟩ = some (.int .i64 v.u) ∧ w.cell? ⟨b, o + 3, none⟩ = some (.slice v.a v.ts.length v.c) ∧ w.cell? ⟨b, o + 4, none⟩ = some (.string v.s) ∧ w.cell? ⟨b, o + 5, none⟩ = some (.bool v.g)
theorem Six.keep {w w' : World} {b o B : Nat} {v : V} (h : Six w b o v) (hb : b < B) (hk : ∀ p : Addr, p.block < B → w'.cell? p = w.cell? p) : Six w' b o v :=
  ⟨(hk ⟨b, o, none⟩ hb).trans h.1, (hk ⟨b, o + 1, none⟩ hb).trans h.2.1, (hk ⟨b, o + 2, none⟩ hb).trans h.2.2.1, (hk ⟨b, o + 3, none⟩ hb).trans h.2.2.2.1, (hk ⟨b, o + 4, none⟩ hb).trans h.2.2.2.2.1, (hk ⟨b, o + 5, none⟩ hb).trans h.2.2.2.2.2⟩
/-- A slice that reads as these versions, in old memory (below block B). -/
def Vg (w : World) (B : Nat) (a : Option Addr) (vs : List V) : Prop :=
  vs = [] ∨ ∃ b off : Nat, a = some ⟨b, off, none⟩ ∧ b < B ∧ ∀ i v, vs[i]? = some v → Six w b (off + i * 6) v ∧ Tg w B v.a v.ts
theorem Vg.on {w w' : World} {B : Nat} {a : Option Addr} {vs : List V} (h : Vg w B a vs) (hb : Below B w w') : Vg w' B a vs := by
  rcases h with h | ⟨b, off, ha, hlt, hx⟩
  · exact .inl h
  · exact .inr ⟨b, off, ha, hlt, fun i v hi => ⟨(hx i v hi).1.keep hlt fun _ hp => hb.cell hp, (hx i v hi).2.on hb⟩⟩
theorem Vg.up {w : World} {B B' : Nat} {a : Option Addr} {vs : List V} (h : Vg w B a vs) (hB : B ≤ B') : Vg w B' a vs := by
  rcases h with h | ⟨b, off, ha, hlt, hx⟩
  · exact .inl h
  · exact .inr ⟨b, off, ha, by omega, fun i v hi => ⟨(hx i v hi).1, (hx i v hi).2.up hB⟩⟩

/-- How much these versions weigh beside their number. -/
def tot (vs : List V) : Nat := (vs.map fun v => v.ts.length + v.s.size).sum
theorem tot_step {vs : List V} {k : Nat} {v : V} (h : vs[k]? = some v) : tot (vs.take (k + 1)) = tot (vs.take k) + (v.ts.length + v.s.size) := by
  unfold tot
  rw [List.take_add_one, h]
  simp
theorem tot_all (vs : List V) : tot (vs.take vs.length) = tot vs := by rw [List.take_length]
theorem tot_le (vs : List V) (k : Nat) : tot (vs.take k) ≤ tot vs := by
  have h : vs = vs.take k ++ vs.drop k := (List.take_append_drop k vs).symm
  have e : tot vs = tot (vs.take k) + tot (vs.drop k) := by
    unfold tot
    rw [← List.sum_append, ← List.map_append, ← h]
  omega
theorem tot_mem {vs : List V} {v : V} (h : v ∈ vs) : v.ts.length + v.s.size ≤ tot vs := by
  obtain ⟨k, hk⟩ := List.getElem?_of_mem h
  have h1 := tot_step hk
  have h2 := tot_le vs (k + 1)
  omega

set_option maxRecDepth 100000 in
set_option maxHeartbeats 2000000 in
theorem szVerS_fits (a : Option Addr) (c : Nat) (vs : List V) (left : Int) (w : World) (h0 : left ≤ 1048576) (hf : (vs.length : Int) + tot vs ≤ left) (hv : Vg w w.heap.size a vs) :
    Calls Tryz.prog 112 #[.slice a vs.length c, .int .i64 left] w fun e w' => e = .returned (.int .i64 (left - vs.length - tot vs)) ∧ Below w.heap.size w w' := by
  have HF := hide hf
  have HT : Hid (tot (vs.take vs.length) = tot vs) := tot_all vs
  generalize hnn : vs.length = n at *
  have HN := hide hnn
  have h1 : ¬ (left - (n : Int) < 0) := by omega
  have h2 : 0 ≤ left := by omega
  have h3 : (n : Int) ≤ left := by omega
  clear hnn hf
  go_enter Tryz.func112, Tryz.ntmps112
  go_wp2
  go_loopw [1, 5] (fun r i wr => ∃ (k : Nat) (m : Int), k ≤ n ∧ i = .int .i64 (k : Int) ∧ r = .int .i64 m ∧ Hid (m = left - n - tot (vs.take k)) ∧ Below w.heap.size w wr) (fun _ i _ => n - (intOf i).toNat)
  case atStart => exact ⟨0, _, Nat.zero_le _, rfl, rfl, by unfold Hid tot; simp, Below.refl _ _⟩
  case round =>
    obtain ⟨k, m, hk, rfl, rfl, hm, hL⟩ := hrel
    by_cases hlt : k < n
    · rcases hv with e0 | ⟨b, off, rfl, hb, hx⟩
      · have := HN.out; subst e0; simp at this; omega
      · have hkl : k < vs.length := by have := HN.out; omega
        obtain ⟨hS, -⟩ := hx k _ (List.getElem?_eq_getElem hkl)
        have HX := hide (List.getElem?_eq_getElem hkl)
        have hS' := hS.keep hb fun _ hp => hL.cell hp
        generalize vs[k] = v at hS' HX
        obtain ⟨vk, vt, vu, va, vc, vts, vs', vg⟩ := v
        have st := tot_step HX.out
        have le := tot_le vs (k + 1)
        simp only at st hS'
        have H1 : Hid ((vts.length : Int) + vs'.size ≤ m ∧ m ≤ 1048576) := by
          have := hm.out; have := HF.out; unfold Hid; omega
        have H2 : Hid (m - vts.length - vs'.size = left - n - tot (vs.take (k + 1))) := by
          have := hm.out; unfold Hid; omega
        have h5 : ¬ (m - (vts.length : Int) - (vs'.size : Int) < 0) := by have := H1.out; omega
        clear st le hS hx
        have i1 : (0 : Int) ≤ (k : Int) := by omega
        have i2 : (k : Int) < (n : Int) := by omega
        go_wp2_with fail
        refine (szVer_fits _ _ _ _ _ _ _ _ _ _ H1.out.2 H1.out.1).mono ?_
        rintro e w1 ⟨rfl, hb1⟩
        have hL1 := hL.trans (hb1.mono hL.size)
        go_wp2
        exact ⟨⟨k + 1, _, by omega, by go_num, rfl, H2, hL1⟩, by simp [intOf]; omega⟩
    · have hkn : k = n := by omega
      subst hkn
      clear hlt
      go_wp2
      go_ret
      exact ⟨ret_int (by rw [hm.out, HT.out]), hL⟩

set_option maxRecDepth 100000 in
set_option maxHeartbeats 2000000 in
theorem szVerS_not (a : Option Addr) (c : Nat) (vs : List V) (left : Int) (w : World) (h0 : left ≤ 1048576) (h00 : 0 ≤ left) (hl : vs.length ≤ 9223372036854775807) (hm0 : ∀ v ∈ vs, v.ts.length ≤ 9223372036854775807 ∧ v.s.size ≤ 9223372036854775807) (hf : left < (vs.length : Int) + tot vs) (hv : Vg w w.heap.size a vs) :
    Calls Tryz.prog 112 #[.slice a vs.length c, .int .i64 left] w fun e w' => e = .returned (.int .i64 (-1)) ∧ Below w.heap.size w w' := by
  have HF := hide hf
  have HM := hide hm0
  clear hm0
  have HT : Hid (tot (vs.take vs.length) = tot vs) := tot_all vs
  generalize hnn : vs.length = n at *
  have HN := hide hnn
  clear hnn hf
  by_cases h1 : left - (n : Int) < 0
  · go_enter Tryz.func112, Tryz.ntmps112
    go_wp2
    go_ret
    exact ⟨rfl, Below.refl _ _⟩
  · have h3 : (n : Int) ≤ left := by omega
    go_enter Tryz.func112, Tryz.ntmps112
    go_wp2
    go_loopw [1, 5] (fun r i wr => ∃ (k : Nat) (m : Int), k ≤ n ∧ i = .int .i64 (k : Int) ∧ r = .int .i64 m ∧ Hid (m = left - n - tot (vs.take k) ∧ 0 ≤ m) ∧ Below w.heap.size w wr) (fun _ i _ => n - (intOf i).toNat)
    case atStart => exact ⟨0, _, Nat.zero_le _, rfl, rfl, by unfold Hid tot; simp; omega, Below.refl _ _⟩
    case round =>
      obtain ⟨k, m, hk, rfl, rfl, hm, hL⟩ := hrel
      by_cases hlt : k < n
      · rcases hv with e0 | ⟨b, off, rfl, hb, hx⟩
        · have := HN.out; subst e0; simp at this; omega
        · have hkl : k < vs.length := by have := HN.out; omega
          obtain ⟨hS, -⟩ := hx k _ (List.getElem?_eq_getElem hkl)
          have HX := hide (List.getElem?_eq_getElem hkl)
          have hS' := hS.keep hb fun _ hp => hL.cell hp
          generalize vs[k] = v at hS' HX
          have HB := hide (HM.out v (List.mem_of_getElem? HX.out))
          obtain ⟨vk, vt, vu, va, vc, vts, vs', vg⟩ := v
          have st := tot_step HX.out
          simp only at st hS'
          have H2 : Hid (m - vts.length - vs'.size = left - n - tot (vs.take (k + 1))) := by
            have := hm.out; unfold Hid; omega
          clear st hS hx
          have i1 : (0 : Int) ≤ (k : Int) := by omega
          have i2 : (k : Int) < (n : Int) := by omega
          have H3 : Hid (m ≤ 1048576) := by have := hm.out; unfold Hid; omega
          by_cases hfit : (vts.length : Int) + vs'.size ≤ m
          · have h5 : ¬ (m - (vts.length : Int) - (vs'.size : Int) < 0) := by omega
            have H4 := hide hfit
            clear hfit
            go_wp2_with fail
            refine (szVer_fits _ _ _ _ _ _ _ _ _ _ H3.out H4.out).mono ?_
            rintro e w1 ⟨rfl, hb1⟩
            have hL1 := hL.trans (hb1.mono hL.size)
            go_wp2
            exact ⟨⟨k + 1, _, by omega, by go_num, rfl, ⟨H2.out, by have := H4.out; omega⟩, hL1⟩, by simp [intOf]; omega⟩
          · have H4 := hide hfit
            clear hfit
            go_wp2_with fail
            refine (szVer_not _ _ _ _ _ _ _ _ _ _ H3.out hm.out.2 HB.out.1 HB.out.2 (by have := H4.out; omega)).mono ?_
            rintro e w1 ⟨rfl, hb1⟩
            have hL1 := hL.trans (hb1.mono hL.size)
            go_wp2
            go_ret
            exact ⟨rfl, hL1⟩
      · have hkn : k = n := by omega
        exfalso
        have := hm.out
        have := HT.out
        have := HF.out
        subst hkn
        omega
end Go.Proofs.YtjnloillcgeodaaGreat
/- Rows of versions and stores that came in: each can be read. -/
namespace Go.Proofs.YtjnloillcgeodaaGreat
open Go.ChangeShapes Go.WideShapes Go.ChangeAt Go.RowKit Go.Joins

set_option maxRecDepth 100000 in
/-- A slice of versions that came in: each can be read. -/
theorem read_vers {H : Type} {enc : TypeId × Value → H} {W : World} {fuel : Nat} {cs : List Value} {x : DataW H × List MemPlace}
    (h : DataW.trod enc Tryz.prog W 0 (fun _ => true) true fuel 116 cs = some x) :
    ∃ (a : Option Addr) (cap : Nat) (vs : List V), cs = [.slice a vs.length cap] ∧ Vg W W.heap.size a vs ∧ vs.length ≤ 9223372036854775807 ∧ ∀ v ∈ vs, v.ts.length ≤ 9223372036854775807 ∧ v.s.size ≤ 9223372036854775807 := by
  rcases Go.Deep.open_slice Tryz.underlying116 h with ⟨h0, _⟩ | ⟨a, len, cap, m, n, D, Pl, hcs, _, hl, hm, hmm, _, hi⟩
  · exact ⟨none, 0, [], h0, .inl rfl, by simp, by simp⟩
  · have hc : Tryz.prog.cellsOf 174 = 6 := by kernel_rfl
    simp only [if_true] at hmm
    subst hmm
    have hall : ∀ i : Nat, ∃ v : V, i < len → (W.cell? (a.add (i * 6)) = some (.int .i64 v.k) ∧ W.cell? ((a.add (i * 6)).add 1) = some (.int .i64 v.t) ∧ W.cell? ((a.add (i * 6)).add 2) = some (.int .i64 v.u) ∧ W.cell? ((a.add (i * 6)).add 3) = some (.slice v.a v.ts.length v.c) ∧ W.cell? ((a.add (i * 6)).add 4) = some (.string v.s) ∧ W.cell? ((a.add (i * 6)).add 5) = some (.bool v.g)) ∧ Tg W W.heap.size v.a v.ts ∧ v.ts.length ≤ 9223372036854775807 ∧ v.s.size ≤ 9223372036854775807 := by
      intro i
      by_cases hlt : i < len
      · obtain ⟨cs', hcells, ht⟩ := hi i (by omega)
        obtain ⟨k, t, u, va, vc, ts, s, g, rfl, hT, hl1, hl2⟩ := cells_ver ht
        rw [hc] at hcells
        obtain ⟨_, _, hat⟩ := World.cells?_some hcells
        refine ⟨⟨k, t, u, va, vc, ts, s, g⟩, fun _ => ⟨⟨?_, ?_, ?_, ?_, ?_, ?_⟩, hT, hl1, by unfold maxLen at hl2; simp only; omega⟩⟩
        · have := hat 0 (by omega)
          simpa [Addr.add] using this
        · have := hat 1 (by omega)
          simpa using this
        · have := hat 2 (by omega)
          simpa using this
        · have := hat 3 (by omega)
          simpa using this
        · have := hat 4 (by omega)
          simpa using this
        · have := hat 5 (by omega)
          simpa using this
      · exact ⟨⟨0, 0, 0, none, 0, [], ⟨#[]⟩, false⟩, fun h => absurd h hlt⟩
    obtain ⟨f, hf⟩ := Classical.axiomOfChoice hall
    refine ⟨some a, m, (List.range len).map f, by simpa using hcs, ?_, by simp; unfold maxLen at hm; omega, fun v hv => ?_⟩
    · by_cases h0 : len = 0
      · subst h0; exact .inl (by simp)
      · obtain ⟨b, off, spot⟩ := a
        have hc0 := (hf 0 (by omega)).1.1
        have hspot : spot = none := by simpa [Addr.add] using World.cell?_spot hc0
        subst hspot
        refine .inr ⟨b, off, rfl, ?_, fun i y hy => ?_⟩
        · apply Classical.byContradiction
          intro hn
          have : W.heap[b]? = none := Array.getElem?_eq_none (by omega)
          simp [Addr.add, World.cell?, this] at hc0
        · simp only [List.getElem?_map, Option.map_eq_some_iff] at hy
          obtain ⟨j, hj, rfl⟩ := hy
          have hji := List.getElem?_eq_some_iff.1 hj
          obtain ⟨hlt, e⟩ := hji
          simp at hlt e
          subst e
          have h1 := hf i hlt
          have e1 : (⟨b, off, none⟩ : Addr).add (i * 6) = ⟨b, off + i * 6, none⟩ := by
            unfold Addr.add
            by_cases hi0 : i * 6 = 0
            · simp [hi0]
            · simp [hi0]
          rw [e1] at h1
          obtain ⟨⟨q0, q1, q2, q3, q4, q5⟩, hT, _⟩ := h1
          exact ⟨⟨q0, by simpa [Addr.add] using q1, by simpa [Addr.add] using q2, by simpa [Addr.add] using q3, by simpa [Addr.add] using q4, by simpa [Addr.add] using q5⟩, hT⟩
    · simp only [List.mem_map, List.mem_range] at hv
      obtain ⟨i, hi', rfl⟩ := hv
      exact (hf i hi').2.2
end Go.Proofs.YtjnloillcgeodaaGreat
/- Versions in a row: whether two rows are the same; their copy. Condition: at most 1048576 versions, and tags of each. -/
namespace Go.Proofs.YtjnloillcgeodaaGreat
open Go.RowKit Go.Joins

/-- Two rows say the same as far as both go. -/
def Like (vs us : List V) : Prop := ∀ (i : Nat) (v v' : V), vs[i]? = some v → us[i]? = some v' → V.like v v'
theorem Like.swap {vs us : List V} (h : Like vs us) : Like us vs := fun i v v' h1 h2 => by
  obtain ⟨a, b, c, d, e, f⟩ := h i v' v h2 h1
  exact ⟨a.symm, b.symm, c.symm, d.symm, e.symm, f.symm⟩
set_option maxRecDepth 100000 in
set_option maxHeartbeats 2000000 in
theorem eqVerS_same (a a' : Option Addr) (c c' n : Nat) (vs us : List V) (w : World) (hn : n ≤ 1048576) (hvn : vs.length = n) (hun : us.length = n)
    (hlike : Like vs us) (hm : ∀ v ∈ vs, v.ts.length ≤ 1048576) (hv : Vg w w.heap.size a vs) (hu : Vg w w.heap.size a' us) :
    Calls Tryz.prog 116 #[.slice a n c, .slice a' n c'] w fun e w' => e = .returned (.bool true) ∧ Below w.heap.size w w' := by
  have HN := hide hvn
  have HU := hide hun
  have HK := hide hlike
  have HM := hide hm
  clear hvn hun hlike hm
  go_enter Tryz.func116, Tryz.ntmps116
  go_wp2
  go_loopw [5] (fun i wr => ∃ k : Nat, k ≤ n ∧ i = .int .i64 (k : Int) ∧ Below w.heap.size w wr) (fun i _ => n - (intOf i).toNat)
  case atStart => exact ⟨0, Nat.zero_le _, rfl, Below.refl _ _⟩
  case round =>
    obtain ⟨k, hk, rfl, hL⟩ := hrel
    by_cases hlt : k < n
    · rcases hv with e0 | ⟨b, off, rfl, hb, hx⟩
      · have := HN.out; subst e0; simp at this; omega
      · rcases hu with e0 | ⟨b', off', rfl, hb', hx'⟩
        · have := HU.out; subst e0; simp at this; omega
        · have hkl : k < vs.length := by have := HN.out; omega
          have hkl' : k < us.length := by have := HU.out; omega
          obtain ⟨hS, hT⟩ := hx k _ (List.getElem?_eq_getElem hkl)
          obtain ⟨hS2, hT2⟩ := hx' k _ (List.getElem?_eq_getElem hkl')
          have HX := hide (List.getElem?_eq_getElem hkl)
          have HY := hide (List.getElem?_eq_getElem hkl')
          generalize vs[k] = v at hS hT HX
          generalize us[k] = v' at hS2 hT2 HY
          have hli := HK.out k v v' HX.out HY.out
          have HB := hide (HM.out v (List.mem_of_getElem? HX.out))
          obtain ⟨vk, vt, vu, va, vc, vts, vs', vg⟩ := v
          obtain ⟨uk, ut, uu, ua, uc, uts, us', ug⟩ := v'
          obtain ⟨e1, e2, e3, e4, e5, e6⟩ := hli
          simp only at e1 e2 e3 e4 e5 e6 hS hS2 hT hT2
          subst e1 e2 e3 e4 e5 e6
          have Q1 := hide hS
          have Q2 := hide hS2
          have T1 := hide hT
          have T2 := hide hT2
          clear hS hS2 hT hT2 hx hx'
          have i1 : (0 : Int) ≤ (k : Int) := by omega
          have i2 : (k : Int) < (n : Int) := by omega
          go_wp2_with fail
          refine wp_region_noPanic ?_
          refine wp_region_held_drew (S := (fun w' => Six w' b (off + k * 6) ⟨vk, vt, vu, va, vc, vts, vs', vg⟩ ∧ Six w' b' (off' + k * 6) ⟨vk, vt, vu, ua, uc, vts, vs', vg⟩ ∧ Below w.heap.size w w')) (by kernel_rfl) (by exact ⟨Q1.out.keep hb fun _ hp => hL.cell hp, Q2.out.keep hb' fun _ hp => hL.cell hp, hL.drew⟩) (fun hHeld => ?_)
          refine take_run 0 (some 17) (v := ?_) rfl rfl (by kernel_rfl) (by kernel_rfl) (by kernel_rfl) (fun _ _ _ h => h) (by rfl) ?_ hHeld ?_
          rotate_left
          · ((intro w hSw); (try dsimp only at hSw); go_simp <;> with_reducible rfl)
          simp only [Act.put, List.setIfInBounds_toArray, List.set_cons_zero, List.set_cons_succ]
          refine take_run 1 (some 18) (v := ?_) rfl rfl (by kernel_rfl) (by kernel_rfl) (by kernel_rfl) (fun _ _ _ h => h) (by rfl) ?_ hHeld ?_
          rotate_left
          · ((intro w hSw); (try dsimp only at hSw); go_simp <;> with_reducible rfl)
          simp only [Act.put, List.setIfInBounds_toArray, List.set_cons_zero, List.set_cons_succ]
          refine take_run 2 (some 19) (v := ?_) rfl rfl (by kernel_rfl) (by kernel_rfl) (by kernel_rfl) (fun _ _ _ h => h) (by rfl) ?_ hHeld ?_
          rotate_left
          · ((intro w hSw); (try dsimp only at hSw); go_simp <;> with_reducible rfl)
          simp only [Act.put, List.setIfInBounds_toArray, List.set_cons_zero, List.set_cons_succ]
          refine take_run 3 (some 20) (v := ?_) rfl rfl (by kernel_rfl) (by kernel_rfl) (by kernel_rfl) (fun _ _ _ h => h) (by rfl) ?_ hHeld ?_
          rotate_left
          · ((intro w hSw); (try dsimp only at hSw); go_simp <;> with_reducible rfl)
          simp only [Act.put, List.setIfInBounds_toArray, List.set_cons_zero, List.set_cons_succ]
          refine take_run 4 (some 21) (v := ?_) rfl rfl (by kernel_rfl) (by kernel_rfl) (by kernel_rfl) (fun _ _ _ h => h) (by rfl) ?_ hHeld ?_
          rotate_left
          · ((intro w hSw); (try dsimp only at hSw); go_simp <;> with_reducible rfl)
          simp only [Act.put, List.setIfInBounds_toArray, List.set_cons_zero, List.set_cons_succ]
          refine take_run 5 (some 22) (v := ?_) rfl rfl (by kernel_rfl) (by kernel_rfl) (by kernel_rfl) (fun _ _ _ h => h) (by rfl) ?_ hHeld ?_
          rotate_left
          · ((intro w hSw); (try dsimp only at hSw); go_simp <;> with_reducible rfl)
          simp only [Act.put, List.setIfInBounds_toArray, List.set_cons_zero, List.set_cons_succ]
          refine take_run 6 (some 23) (v := ?_) rfl rfl (by kernel_rfl) (by kernel_rfl) (by kernel_rfl) (fun _ _ _ h => h) (by rfl) ?_ hHeld ?_
          rotate_left
          · ((intro w hSw); (try dsimp only at hSw); go_simp <;> with_reducible rfl)
          simp only [Act.put, List.setIfInBounds_toArray, List.set_cons_zero, List.set_cons_succ]
          refine take_run 7 (some 24) (v := ?_) rfl rfl (by kernel_rfl) (by kernel_rfl) (by kernel_rfl) (fun _ _ _ h => h) (by rfl) ?_ hHeld ?_
          rotate_left
          · ((intro w hSw); (try dsimp only at hSw); go_simp <;> with_reducible rfl)
          simp only [Act.put, List.setIfInBounds_toArray, List.set_cons_zero, List.set_cons_succ]
          refine take_one 8 (by kernel_rfl) rfl (fun K hK => ?_)
          go_simp
          (refine (eqVer_same _ _ _ _ _ _ _ vts _ _ _ HB.out ((T1.out.on hHeld.2.2).up hHeld.2.2.size) ((T2.out.on hHeld.2.2).up hHeld.2.2.size)).mono ?_; rintro e w1 ⟨rfl, hb1⟩)
          try go_wp2_with fail
          refine hK.out _ _ (by exact ⟨Q1.out.keep hb fun _ hp => (hHeld.2.2.trans (hb1.mono hHeld.2.2.size)).cell hp, Q2.out.keep hb' fun _ hp => (hHeld.2.2.trans (hb1.mono hHeld.2.2.size)).cell hp, hHeld.2.2.trans (hb1.mono hHeld.2.2.size)⟩) (fun hHeld => ?_)
          clear hK K
          refine take_run 9 (some 26) (v := ?_) rfl rfl (by kernel_rfl) (by kernel_rfl) (by kernel_rfl) (fun _ _ _ h => h) (by rfl) ?_ hHeld ?_
          rotate_left
          · ((intro w hSw); (try dsimp only at hSw); go_simp <;> with_reducible rfl)
          simp only [Act.put, List.setIfInBounds_toArray, List.set_cons_zero, List.set_cons_succ]
          refine wpAnyH_done (by kernel_rfl) ?_ _
          refine NoPanic.normal ?_
          have hL2 := hHeld.2.2
          clear hHeld hL
          go_wp2
          exact ⟨⟨k + 1, by omega, by go_num, hL2⟩, by simp [intOf]; omega⟩
    · have hkn : k = n := by omega
      subst hkn
      clear hlt
      go_wp2
      go_ret
      exact ⟨rfl, hL⟩
set_option maxHeartbeats 1000000 in
theorem eqStore_same (a a' : Option Addr) (c c' n : Nat) (vs us : List V) (w : World) (hn : n ≤ 1048576) (hvn : vs.length = n) (hun : us.length = n)
    (hlike : Like vs us) (hm : ∀ v ∈ vs, v.ts.length ≤ 1048576) (hv : Vg w w.heap.size a vs) (hu : Vg w w.heap.size a' us) :
    Calls Tryz.prog 115 #[.agg #[.slice a n c], .agg #[.slice a' n c']] w fun e w' => e = .returned (.bool true) ∧ Below w.heap.size w w' := by
  have S0 := ((Inv.start w).box 35 #[.slice a n c]).box 35 #[.slice a' n c']
  simp only [World.size_alloc] at S0
  go_enter Tryz.func115, Tryz.ntmps115
  go_wp2_with fail
  refine (eqVerS_same a a' c c' n vs us _ hn hvn hun hlike hm ((hv.on S0.below).up S0.base) ((hu.on S0.below).up S0.base)).mono ?_
  rintro e w1 ⟨rfl, hb1⟩
  have S1 := S0.on hb1
  clear S0
  go_wp2
  go_ret
  exact ⟨rfl, S1.below⟩

theorem ver_info : (Tryz.prog.info? 51).map (fun i => (i.zero, i.size, i.bytes)) = some (some (.agg (verC 0 0 0 none 0 0 ⟨#[]⟩ false)), 6, 72) := by kernel_rfl

/-- The six cells of the version at place i of a row of cells. -/
def VerAt (cur : Array Value) (i : Nat) (v : V) : Prop :=
  cur[i * 6]? = some (.int .i64 v.k) ∧ cur[i * 6 + 1]? = some (.int .i64 v.t) ∧ cur[i * 6 + 2]? = some (.int .i64 v.u) ∧ cur[i * 6 + 3]? = some (.slice v.a v.ts.length v.c) ∧ cur[i * 6 + 4]? = some (.string v.s) ∧ cur[i * 6 + 5]? = some (.bool v.g)
/-- Cells with the version at place k turned. -/
abbrev put6 (cur : Array Value) (k : Nat) (v : V) : Array Value :=
  (((((cur.setIfInBounds (k * 6) (.int .i64 v.k)).setIfInBounds (k * 6 + 1) (.int .i64 v.t)).setIfInBounds (k * 6 + 2) (.int .i64 v.u)).setIfInBounds (k * 6 + 3) (.slice v.a v.ts.length v.c)).setIfInBounds (k * 6 + 4) (.string v.s)).setIfInBounds (k * 6 + 5) (.bool v.g)
theorem verAt_put {cur : Array Value} {k : Nat} {v : V} (h : k * 6 + 5 < cur.size) : VerAt (put6 cur k v) k v := by
  refine ⟨?_, ?_, ?_, ?_, ?_, ?_⟩ <;> simp [put6, Array.getElem?_setIfInBounds] <;> omega
theorem verAt_other {cur : Array Value} {j k : Nat} {v v' : V} (hj : j ≠ k) (h : VerAt cur j v) : VerAt (put6 cur k v') j v := by
  obtain ⟨h0, h1, h2, h3, h4, h5⟩ := h
  refine ⟨?_, ?_, ?_, ?_, ?_, ?_⟩
  all_goals
    unfold put6
    rw [Array.getElem?_setIfInBounds_ne (by omega), Array.getElem?_setIfInBounds_ne (by omega), Array.getElem?_setIfInBounds_ne (by omega), Array.getElem?_setIfInBounds_ne (by omega), Array.getElem?_setIfInBounds_ne (by omega), Array.getElem?_setIfInBounds_ne (by omega)]
    assumption
/-- A version whose causes lie in a block of their own, numbered above G. -/
def Own (w : World) (G : Nat) (v : V) : Prop :=
  ∃ (g : Nat) (cur : Array Value), v.a = some ⟨g, 0, none⟩ ∧ G < g ∧ Blk w g 49 cur ∧ cur.size = v.ts.length * 2 ∧ ∀ i x, v.ts[i]? = some x → TagAt cur i x
theorem Own.on {w w' : World} {G : Nat} {v : V} (h : Own w G v) (hb : Below w.heap.size w w') : Own w' G v := by
  obtain ⟨g, cur, h1, h2, h3, h4, h5⟩ := h
  exact ⟨g, cur, h1, h2, h3.on hb, h4, h5⟩
theorem Own.aside {w : World} {G : Nat} {v : V} (h : Own w G v) (i : Nat) (x : Value) : Own (w.setCell ⟨G, i, none⟩ x) G v := by
  obtain ⟨g, cur, h1, h2, h3, h4, h5⟩ := h
  exact ⟨g, cur, h1, h2, h3.aside (by simp; omega) x, h4, h5⟩
theorem Own.tg {w : World} {G : Nat} {v : V} (h : Own w G v) : Tg w w.heap.size v.a v.ts := by
  obtain ⟨g, cur, h1, h2, h3, h4, h5⟩ := h
  rw [h1]
  exact Tg.of h3 h3.inside h5
/-- A row of versions in one block, each with its causes in a block of its own. -/
def Row (w : World) (G : Nat) (us : List V) (cur : Array Value) : Prop := Blk w G 51 cur ∧ ∀ i v, us[i]? = some v → VerAt cur i v ∧ Own w G v
theorem Row.on {w w' : World} {G : Nat} {us : List V} {cur : Array Value} (h : Row w G us cur) (hb : Below w.heap.size w w') : Row w' G us cur := ⟨h.1.on hb, fun i v hi => ⟨(h.2 i v hi).1, (h.2 i v hi).2.on hb⟩⟩
theorem Row.vg {w : World} {G : Nat} {us : List V} {cur : Array Value} (h : Row w G us cur) : Vg w w.heap.size (some ⟨G, 0, none⟩) us :=
  .inr ⟨G, 0, rfl, h.1.inside, fun i v hi => by
    obtain ⟨⟨h0, h1, h2, h3, h4, h5⟩, ho⟩ := h.2 i v hi
    refine ⟨⟨?_, ?_, ?_, ?_, ?_, ?_⟩, ho.tg⟩
    all_goals
      rw [Nat.zero_add, h.1.at]
      assumption⟩
theorem like_step {us vs : List V} {k : Nat} {v v' : V} (h : Like us vs) (hk : us.length = k) (hv : vs[k]? = some v') (hl : V.like v v') : Like (us ++ [v]) vs := fun i x x' hi hi' => by
  by_cases e : i < us.length
  · rw [List.getElem?_append_left e] at hi
    exact h i x x' hi hi'
  · rw [List.getElem?_append_right (by omega)] at hi
    have h0 : i - us.length = 0 := by
      have := (List.getElem?_eq_some_iff.1 hi).1
      simp at this
      omega
    have hik : i = k := by omega
    rw [h0] at hi
    subst hik
    simp at hi
    rw [hv] at hi'
    injection hi' with hi'
    subst hi hi'
    exact hl
/-- What toVerS leaves. -/
def CopiedVS (w : World) (vs : List V) (e : Ending) (w' : World) : Prop :=
  ∃ (g : Nat) (us : List V) (cur : Array Value), e = .returned (.slice (some ⟨g, 0, none⟩) vs.length vs.length) ∧ w.heap.size ≤ g ∧ us.length = vs.length ∧ (Like us vs) ∧ Row w' g us cur ∧ cur.size = vs.length * 6 ∧ Below w.heap.size w w'

/-- What toStore leaves. -/
def CopiedSt (w : World) (vs : List V) (e : Ending) (w' : World) : Prop :=
  ∃ (g : Nat) (us : List V) (cur : Array Value), e = .returned (.agg #[.slice (some ⟨g, 0, none⟩) vs.length vs.length]) ∧ w.heap.size ≤ g ∧ us.length = vs.length ∧ (Like us vs) ∧ Row w' g us cur ∧ cur.size = vs.length * 6 ∧ Below w.heap.size w w'
theorem Row.aside {w : World} {G : Nat} {us : List V} {cur : Array Value} (h : Row w G us cur) {p : Addr} (hp : p.block < G) (x : Value) : Row (w.setCell p x) G us cur :=
  ⟨h.1.aside (by omega) x, fun i v hi => ⟨(h.2 i v hi).1, by
    obtain ⟨g, c, h1, h2, h3, h4, h5⟩ := (h.2 i v hi).2
    exact ⟨g, c, h1, h2, h3.aside (by omega) x, h4, h5⟩⟩⟩

set_option maxHeartbeats 1000000 in
theorem szStore_fits (a : Option Addr) (c : Nat) (vs : List V) (left : Int) (w : World) (h0 : left ≤ 1048576) (hf : (vs.length : Int) + tot vs ≤ left) (hv : Vg w w.heap.size a vs) :
    Calls Tryz.prog 111 #[.agg #[.slice a vs.length c], .int .i64 left] w fun e w' => e = .returned (.int .i64 (left - vs.length - tot vs)) ∧ Below w.heap.size w w' := by
  have h1 : ¬ (left - (vs.length : Int) - (tot vs : Int) < 0) := by omega
  have S0 := (Inv.start w).box 118 #[.slice a vs.length c]
  go_enter Tryz.func111, Tryz.ntmps111
  go_wp2_with fail
  refine (szVerS_fits a c vs left _ h0 hf ((hv.on S0.below).up S0.base)).mono ?_
  rintro e w1 ⟨rfl, hb1⟩
  have S1 := S0.on hb1
  clear S0
  go_wp2
  go_ret
  exact ⟨rfl, S1.below⟩
set_option maxHeartbeats 1000000 in
theorem szStore_not (a : Option Addr) (c : Nat) (vs : List V) (left : Int) (w : World) (h0 : left ≤ 1048576) (h00 : 0 ≤ left) (hl : vs.length ≤ 9223372036854775807) (hm0 : ∀ v ∈ vs, v.ts.length ≤ 9223372036854775807 ∧ v.s.size ≤ 9223372036854775807) (hf : left < (vs.length : Int) + tot vs) (hv : Vg w w.heap.size a vs) :
    Calls Tryz.prog 111 #[.agg #[.slice a vs.length c], .int .i64 left] w fun e w' => e = .returned (.int .i64 (-1)) ∧ Below w.heap.size w w' := by
  have S0 := (Inv.start w).box 118 #[.slice a vs.length c]
  have HM := hide hm0
  clear hm0
  go_enter Tryz.func111, Tryz.ntmps111
  go_wp2_with fail
  refine (szVerS_not a c vs left _ h0 h00 hl HM.out hf ((hv.on S0.below).up S0.base)).mono ?_
  rintro e w1 ⟨rfl, hb1⟩
  have S1 := S0.on hb1
  clear S0
  go_wp2
  go_ret
  exact ⟨rfl, S1.below⟩
end Go.Proofs.YtjnloillcgeodaaGreat
/- Contracts of the functions that say whether a text is valid, in the program and in the model. No condition. -/
namespace Go.Proofs.YtjnloillcgeodaaGreat
open Go.RowKit Go.Joins

/-- Whether this byte may stand in a text. -/
def byteB (s : ByteArray) (i : Nat) : Bool := if h : i < s.size then decide (33 ≤ s[i].toNat ∧ s[i].toNat ≤ 126) else true
theorem byteB_lo {s : ByteArray} {i : Nat} (h : i < s.size) (h1 : ((s[i].toNat : Nat) : Int) < 33) : byteB s i = false := by
  unfold byteB
  rw [dif_pos h]
  exact decide_eq_false (by omega)
theorem byteB_hi {s : ByteArray} {i : Nat} (h : i < s.size) (h1 : (126 : Int) < ((s[i].toNat : Nat) : Int)) : byteB s i = false := by
  unfold byteB
  rw [dif_pos h]
  exact decide_eq_false (by omega)
theorem byteB_t {s : ByteArray} {i : Nat} (h : i < s.size) (h1 : ¬ ((s[i].toNat : Nat) : Int) < 33) (h2 : ¬ (126 : Int) < ((s[i].toNat : Nat) : Int)) : byteB s i = true := by
  unfold byteB
  rw [dif_pos h]
  exact decide_eq_true (by omega)
theorem byteB_step {s : ByteArray} {k : Nat} (h : byteB s k = true) (hA : ∀ j, j < k → byteB s j = true) : ∀ j, j < k + 1 → byteB s j = true := fun j hj => by
  by_cases e : j = k
  · rw [e]; exact h
  · exact hA j (by omega)
/-- Whether these bytes are a text. -/
def textB (s : ByteArray) : Bool := decide (s.size ≤ 8) && (List.range s.size).all (byteB s)
theorem textB_bad {s : ByteArray} {i : Nat} (hi : i < s.size) (h : byteB s i = false) : textB s = false := by
  unfold textB
  have : (List.range s.size).all (byteB s) = false := by
    rw [List.all_eq_false]
    exact ⟨i, by simpa using hi, by simp [h]⟩
  simp [this]
theorem textB_long {s : ByteArray} (h : 8 < s.size) : textB s = false := by
  unfold textB
  have : ¬ s.size ≤ 8 := by omega
  simp [this]
theorem textB_ok {s : ByteArray} (h : s.size ≤ 8) (hall : ∀ i, i < s.size → byteB s i = true) : textB s = true := by
  unfold textB
  have : (List.range s.size).all (byteB s) = true := by
    rw [List.all_eq_true]
    intro i hi
    exact hall i (by simpa using hi)
  simp [this, h]

set_option maxRecDepth 100000 in
set_option maxHeartbeats 1000000 in
theorem l2TextOk_any (s : ByteArray) (w : World) (hs : s.size ≤ 9223372036854775807) :
    Calls Tryz.prog 98 #[.string s] w fun e w' => e = .returned (.bool (textB s)) ∧ Below w.heap.size w w' := by
  go_enter Tryz.func98, Tryz.ntmps98
  go_wp2
  go_loopw [3] (fun i wr => ∃ k : Nat, k ≤ s.size ∧ i = .int .i64 (k : Int) ∧ Hid (∀ j, j < k → byteB s j = true) ∧ Below w.heap.size w wr) (fun i _ => s.size - (intOf i).toNat)
  case atStart => exact ⟨0, Nat.zero_le _, rfl, fun j hj => absurd hj (by omega), Below.refl _ _⟩
  case round =>
    obtain ⟨k, hk, rfl, hA, hL⟩ := hrel
    by_cases hlt : k < s.size
    · by_cases b1 : ((s[k].toNat : Nat) : Int) < 33
      · have hf := hide (textB_bad hlt (byteB_lo hlt b1))
        go_wp2
        go_ret
        exact ⟨ret_bool hf.out.symm, hL⟩
      · by_cases b2 : (126 : Int) < ((s[k].toNat : Nat) : Int)
        · have hf := hide (textB_bad hlt (byteB_hi hlt b2))
          go_wp2
          go_ret
          exact ⟨ret_bool hf.out.symm, hL⟩
        · have hf := hide (byteB_step (byteB_t hlt b1 b2) hA.out)
          go_wp2
          exact ⟨⟨k + 1, by omega, by go_num, hf, hL⟩, by simp [intOf]; omega⟩
    · have hkn : k = s.size := by omega
      subst hkn
      clear hlt
      by_cases h8 : (s.size : Int) ≤ 8
      · have hf := hide (textB_ok (by omega) hA.out)
        go_wp2
        go_ret
        exact ⟨ret_bool hf.out.symm, hL⟩
      · have hf := hide (textB_long (s := s) (by omega))
        go_wp2
        go_ret
        exact ⟨ret_bool hf.out.symm, hL⟩

set_option maxRecDepth 100000 in
set_option maxHeartbeats 1000000 in
theorem valueOk_any (s : ByteArray) (w : World) (hs : s.size ≤ 9223372036854775807) :
    Calls Tryz.prog 177 #[.agg #[.string s]] w fun e w' => e = .returned (.bool (textB s)) ∧ Below w.heap.size w w' := by
  have S0 := (Inv.start w).box 167 #[.string s]
  by_cases h8 : s.size ≤ 8
  · have h8' : ¬ ((s.size : Int) > 8) := by omega
    go_enter Tryz.func177, Tryz.ntmps177
    go_wp2
    go_loopw [3] (fun i wr => ∃ k : Nat, k ≤ s.size ∧ i = .int .i64 (k : Int) ∧ Hid (∀ j, j < k → byteB s j = true) ∧ Inv w (w.alloc (.cells #[.string s] 167)).heap.size [(w.heap.size, 167, #[.string s])] wr) (fun i _ => s.size - (intOf i).toNat)
    case atStart => exact ⟨0, Nat.zero_le _, rfl, fun j hj => absurd hj (by omega), S0⟩
    case round =>
      obtain ⟨k, hk, rfl, hA, hL⟩ := hrel
      have k0 := (hL.nth 0 rfl).one.1
      by_cases hlt : k < s.size
      · by_cases b1 : ((s[k].toNat : Nat) : Int) < 33
        · have hf := hide (textB_bad hlt (byteB_lo hlt b1))
          go_wp2
          go_ret
          exact ⟨ret_bool hf.out.symm, hL.below⟩
        · by_cases b2 : (126 : Int) < ((s[k].toNat : Nat) : Int)
          · have hf := hide (textB_bad hlt (byteB_hi hlt b2))
            go_wp2
            go_ret
            exact ⟨ret_bool hf.out.symm, hL.below⟩
          · have hf := hide (byteB_step (byteB_t hlt b1 b2) hA.out)
            go_wp2
            exact ⟨⟨k + 1, by omega, by go_num, hf, hL⟩, by simp [intOf]; omega⟩
      · have hkn : k = s.size := by omega
        subst hkn
        clear hlt
        have hf := hide (textB_ok h8 hA.out)
        go_wp2
        go_ret
        exact ⟨ret_bool hf.out.symm, hL.below⟩
  · have h8' : ((s.size : Int) > 8) := by omega
    have hf := hide (textB_long (s := s) (by omega))
    go_enter Tryz.func177, Tryz.ntmps177
    go_wp2
    go_ret
    exact ⟨ret_bool hf.out.symm, S0.below⟩
set_option maxRecDepth 100000 in
set_option maxHeartbeats 1000000 in
theorem tombstoneOk_any (s : ByteArray) (w : World) :
    Calls Tryz.prog 174 #[.agg #[.string s]] w fun e w' => e = .returned (.bool s.toList.isEmpty) ∧ Below w.heap.size w w' := by
  have S0 := (Inv.start w).box 166 #[.string s]
  go_enter Tryz.func174, Tryz.ntmps174
  go_wp2
  go_ret
  exact ⟨rfl, S0.below⟩
end Go.Proofs.YtjnloillcgeodaaGreat
/- Contracts of the program's fold over times. Condition: at most 1048576 tags. -/
namespace Go.Proofs.YtjnloillcgeodaaGreat
open Go.RowKit Go.Joins

/-- The latest time of these tags, or 0. -/
def lastT (ts : List (Int × Int)) : Int := ts.foldl (fun m x => max m x.1) 0
theorem lastT_step {ts : List (Int × Int)} {k : Nat} {x : Int × Int} (hx : ts[k]? = some x) : lastT (ts.take (k + 1)) = max (lastT (ts.take k)) x.1 := by
  unfold lastT
  rw [List.take_add_one, hx, List.foldl_append]
  rfl
theorem foldl_max (t : Int) : ∀ (ts : List (Int × Int)) (m : Int), ts.foldl (fun m x => max m x.1) m < t ↔ m < t ∧ ∀ x ∈ ts, x.1 < t
  | [], m => by simp
  | y :: ts, m => by
    rw [List.foldl_cons, foldl_max t ts]
    simp only [List.mem_cons, forall_eq_or_imp]
    constructor
    · rintro ⟨h1, h2⟩
      exact ⟨by omega, by omega, h2⟩
    · rintro ⟨h1, h2, h3⟩
      exact ⟨by omega, h3⟩
theorem lastT_lt {t : Int} {ts : List (Int × Int)} : lastT ts < t ↔ 0 < t ∧ ∀ x ∈ ts, x.1 < t := foldl_max t ts 0

set_option maxRecDepth 100000 in
set_option maxHeartbeats 1000000 in
theorem laterTime_any (m t u : Int) (w : World) :
    Calls Tryz.prog 109 #[.int .i64 m, .agg #[.int .i64 t, .int .i64 u]] w fun e w' => e = .returned (.int .i64 (max m t)) ∧ Below w.heap.size w w' := by
  have S0 := (Inv.start w).box 49 #[.int .i64 t, .int .i64 u]
  by_cases h : m < t
  · have hf := hide (show max m t = t by omega)
    go_enter Tryz.func109, Tryz.ntmps109
    go_wp2
    go_ret
    exact ⟨ret_int hf.out.symm, S0.below⟩
  · have hf := hide (show max m t = m by omega)
    go_enter Tryz.func109, Tryz.ntmps109
    go_wp2
    go_ret
    exact ⟨ret_int hf.out.symm, S0.below⟩

set_option maxRecDepth 100000 in
set_option maxHeartbeats 1000000 in
theorem foldTimes_any (a : Option Addr) (c : Nat) (ts : List (Int × Int)) (w : World) (hn : ts.length ≤ 1048576) (ht : Tg w w.heap.size a ts) :
    Calls Tryz.prog 108 #[.slice a ts.length c, .int .i64 0, .func (.func 109) #[] #[]] w fun e w' => e = .returned (.int .i64 (lastT ts)) ∧ Below w.heap.size w w' := by
  have HT : Hid (lastT (ts.take ts.length) = lastT ts) := by unfold Hid; rw [List.take_length]
  generalize hnn : ts.length = n at *
  have HN := hide hnn
  clear hnn
  go_enter Tryz.func108, Tryz.ntmps108
  go_wp2
  go_loopw [1, 11] (fun r i wr => ∃ (k : Nat) (m : Int), k ≤ n ∧ i = .int .i64 (k : Int) ∧ r = .int .i64 m ∧ Hid (m = lastT (ts.take k)) ∧ Below w.heap.size w wr) (fun _ i _ => n - (intOf i).toNat)
  case atStart => exact ⟨0, 0, Nat.zero_le _, rfl, rfl, rfl, Below.refl _ _⟩
  case round =>
    obtain ⟨k, m, hk, rfl, rfl, hm, hL⟩ := hrel
    by_cases hlt : k < n
    · rcases ht with h0 | ⟨b, off, rfl, hb, hx⟩
      · have := HN.out; subst h0; simp at this; omega
      · have hkl : k < ts.length := by have := HN.out; omega
        obtain ⟨hc0, hc1⟩ := hx k _ (List.getElem?_eq_getElem hkl)
        have c0 := (hL.cell (p := ⟨b, off + k * 2, none⟩) hb).trans hc0
        have c1 := (hL.cell (p := ⟨b, off + k * 2 + 1, none⟩) hb).trans hc1
        have HX := hide (List.getElem?_eq_getElem hkl)
        generalize ts[k] = x at c0 c1 HX
        obtain ⟨x1, x2⟩ := x
        simp only at c0 c1
        clear hc0 hc1 hx
        have i1 : (0 : Int) ≤ (k : Int) := by omega
        have i2 : (k : Int) < (n : Int) := by omega
        have L1 := hL.alloc hL.size (.cells #[.int .i64 x1, .int .i64 x2] 49)
        go_wp2_with fail
        refine (laterTime_any _ _ _ _).mono ?_
        rintro e w1 ⟨rfl, hb1⟩
        have hL1 := L1.trans (hb1.mono L1.size)
        have HM : Hid (max m x1 = lastT (ts.take (k + 1))) := by
          unfold Hid
          rw [lastT_step HX.out, ← hm.out]
        go_wp2
        exact ⟨⟨k + 1, _, by omega, by go_num, rfl, HM, hL1⟩, by simp [intOf]; omega⟩
    · have hkn : k = n := by omega
      subst hkn
      clear hlt
      go_wp2
      go_ret
      exact ⟨ret_int (hm.out.trans HT.out), hL⟩

end Go.Proofs.YtjnloillcgeodaaGreat
/- Whether a version is valid, said plainly; contracts of the program's fold over times. Condition: at most 1048576 tags. -/
namespace Go.Proofs.YtjnloillcgeodaaGreat
open Go.RowKit Go.Joins

/-- Whether this is a valid version. -/
def verB (k t u : Int) (ts : List (Int × Int)) (s : ByteArray) (g : Bool) : Bool :=
  decide (0 ≤ k ∧ k ≤ 3) && textB s && okB t u && decide (t ≠ 0) && !(g && !s.toList.isEmpty) && pastB ts && ts.all fun x => decide (x.1 < t)

theorem verB_f {k t u : Int} {ts : List (Int × Int)} {s : ByteArray} {g : Bool} (h : ¬ (0 ≤ k ∧ k ≤ 3) ∨ textB s = false ∨ okB t u = false ∨ t = 0 ∨ (g = true ∧ s.toList.isEmpty = false) ∨ pastB ts = false ∨ ∃ x ∈ ts, ¬ x.1 < t) : verB k t u ts s g = false := by
  unfold verB
  rcases h with h | h | h | h | ⟨h, h'⟩ | h | ⟨x, hx, h⟩
  · rw [decide_eq_false h]; rfl
  · rw [h]; simp
  · rw [h]; simp
  · rw [h]; simp
  · rw [h, h']; simp
  · rw [h]; simp
  · have : (ts.all fun x => decide (x.1 < t)) = false := by
      rw [List.all_eq_false]
      exact ⟨x, hx, by simpa using h⟩
    rw [this]; simp
theorem verB_t {k t u : Int} {ts : List (Int × Int)} {s : ByteArray} {g : Bool} (h1 : 0 ≤ k ∧ k ≤ 3) (h2 : textB s = true) (h3 : okB t u = true) (h4 : ¬ t = 0) (h5 : g = true → s.toList.isEmpty = true) (h6 : pastB ts = true) (h7 : ∀ x ∈ ts, x.1 < t) : verB k t u ts s g = true := by
  unfold verB
  have e7 : (ts.all fun x => decide (x.1 < t)) = true := by
    rw [List.all_eq_true]
    intro x hx
    simpa using h7 x hx
  have e5 : (g && !s.toList.isEmpty) = false := by
    cases g
    · rfl
    · rw [h5 rfl]; rfl
  rw [decide_eq_true h1, h2, h3, h6, e7, e5]
  simp [h4]
end Go.Proofs.YtjnloillcgeodaaGreat
