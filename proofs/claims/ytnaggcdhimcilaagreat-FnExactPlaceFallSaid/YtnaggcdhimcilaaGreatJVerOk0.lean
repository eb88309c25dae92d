/- Contracts of the laws' small functions on versions: their size, their copy, whether two are the same. Condition: at most 1048576 tags where memory is made. -/
import Derived.Test.YtnaggcdhimcilaaGreatJPastOk
namespace Go.Proofs.YtnaggcdhimcilaaGreat
open Go.RowKit Go.Joins

/-- The six cells of a version. -/
abbrev verC (k t u : Int) (a : Option Addr) (n c : Nat) (s : ByteArray) (g : Bool) : Array Value := #[.int .i64 k, .int .i64 t, .int .i64 u, .slice a n c, .string s, .bool g]
theorem Blk.six {w : World} {g : Nat} {T : TypeId} {a b c d e f : Value} (h : Blk w g T #[a, b, c, d, e, f]) :
    (w.cell? ⟨g, 0, none⟩ = some a ∧ w.cell? ⟨g, 1, none⟩ = some b ∧ w.cell? ⟨g, 2, none⟩ = some c ∧ w.cell? ⟨g, 3, none⟩ = some d ∧ w.cell? ⟨g, 4, none⟩ = some e ∧ w.cell? ⟨g, 5, none⟩ = some f) ∧
    (w.frozen? ⟨g, 0, none⟩ = false ∧ w.frozen? ⟨g, 1, none⟩ = false ∧ w.frozen? ⟨g, 2, none⟩ = false ∧ w.frozen? ⟨g, 3, none⟩ = false ∧ w.frozen? ⟨g, 4, none⟩ = false ∧ w.frozen? ⟨g, 5, none⟩ = false) :=
  ⟨⟨h.at 0, h.at 1, h.at 2, h.at 3, h.at 4, h.at 5⟩, h.loose 0, h.loose 1, h.loose 2, h.loose 3, h.loose 4, h.loose 5⟩
theorem below_set6 {w w' : World} {n g : Nat} (h : Below n w w') (hg : n ≤ g) (a b c d e f : Value) :
    Below n w ((((((w'.setCell ⟨g, 0, none⟩ a).setCell ⟨g, 1, none⟩ b).setCell ⟨g, 2, none⟩ c).setCell ⟨g, 3, none⟩ d).setCell ⟨g, 4, none⟩ e).setCell ⟨g, 5, none⟩ f) :=
  (((((h.setCell hg a).setCell hg b).setCell hg c).setCell hg d).setCell hg e).setCell hg f

set_option maxHeartbeats 1000000 in
theorem szVer_fits (k t u : Int) (a : Option Addr) (n c : Nat) (s : ByteArray) (g : Bool) (left : Int) (w : World) (h0 : left ≤ 1048576) (hn : (n : Int) + s.size ≤ left) :
    Calls Tryz.prog 52 #[.agg (verC k t u a n c s g), .int .i64 left] w fun e w' => e = .returned (.int .i64 (left - n - s.size)) ∧ Below w.heap.size w w' := by
  have S0 := (Inv.start w).box 83 (verC k t u a n c s g)
  have h1 : ¬ (left - (n : Int) < 0) := by omega
  have h2 : ¬ (left - (n : Int) - (s.size : Int) < 0) := by omega
  have h3 : 0 ≤ left := by omega
  go_enter Tryz.func52, Tryz.ntmps52
  go_wp2_with fail
  refine (szPast_fits a n c left _ h0 (by omega)).mono ?_
  rintro e w1 ⟨rfl, hb1⟩
  have S1 := S0.on hb1
  have k1 := (S1.nth 0 rfl).six.1
  clear S0
  go_wp2
  go_ret
  exact ⟨rfl, S1.below⟩
set_option maxHeartbeats 1000000 in
theorem szVer_not (k t u : Int) (a : Option Addr) (n c : Nat) (s : ByteArray) (g : Bool) (left : Int) (w : World) (h0 : left ≤ 1048576) (h00 : 0 ≤ left) (hm : n ≤ 9223372036854775807) (hs : s.size ≤ 9223372036854775807) (hn : left < (n : Int) + s.size) :
    Calls Tryz.prog 52 #[.agg (verC k t u a n c s g), .int .i64 left] w fun e w' => e = .returned (.int .i64 (-1)) ∧ Below w.heap.size w w' := by
  have S0 := (Inv.start w).box 83 (verC k t u a n c s g)
  by_cases hp : (n : Int) ≤ left
  · have h1 : ¬ (left - (n : Int) < 0) := by omega
    have h2 : left - (n : Int) - (s.size : Int) < 0 := by omega
    go_enter Tryz.func52, Tryz.ntmps52
    go_wp2_with fail
    refine (szPast_fits a n c left _ h0 hp).mono ?_
    rintro e w1 ⟨rfl, hb1⟩
    have S1 := S0.on hb1
    have k1 := (S1.nth 0 rfl).six.1
    clear S0
    go_wp2
    go_ret
    exact ⟨rfl, S1.below⟩
  · go_enter Tryz.func52, Tryz.ntmps52
    go_wp2_with fail
    refine (szPast_not a n c left _ h0 h00 hm (by omega)).mono ?_
    rintro e w1 ⟨rfl, hb1⟩
    have S1 := S0.on hb1
    clear S0
    go_wp2
    go_ret
    exact ⟨rfl, S1.below⟩

/-- What toVer leaves. -/
def CopiedV (w : World) (k t u : Int) (ts : List (Int × Int)) (s : ByteArray) (b : Bool) (e : Ending) (w' : World) : Prop :=
  ∃ (g : Nat) (cur : Array Value), e = .returned (.agg (verC k t u (some ⟨g, 0, none⟩) ts.length ts.length s b)) ∧ w.heap.size ≤ g ∧ Blk w' g 91 cur ∧ cur.size = ts.length * 2 ∧ (∀ i x, ts[i]? = some x → TagAt cur i x) ∧ Below w.heap.size w w'

theorem Inv.put0 {w w1 : World} {n g i : Nat} {t : TypeId} {cs : Array Value} {bs : List (Nat × TypeId × Array Value)} (h : Inv w n ((g, t, cs) :: bs) w1) (hd : ∀ x ∈ bs, x.1 ≠ g) (u : Value) : Inv w n ((g, t, cs.setIfInBounds i u) :: bs) (w1.setCell ⟨g, i, none⟩ u) :=
  ⟨h.below.setCell (h.blk _ (List.mem_cons_self ..)).1 u, by simpa [World.setCell] using h.room, fun x hx => by
    rcases List.mem_cons.1 hx with rfl | hx
    · exact ⟨(h.blk _ (List.mem_cons_self ..)).1, (h.blk _ (List.mem_cons_self ..)).2.1, (h.blk _ (List.mem_cons_self ..)).2.2.put i u⟩
    · have := h.blk x (List.mem_cons_of_mem _ hx)
      exact ⟨this.1, this.2.1, this.2.2.aside (hd x hx) u⟩⟩

set_option maxRecDepth 100000 in
set_option maxHeartbeats 2000000 in
theorem toVer_any (k t u : Int) (a : Option Addr) (c : Nat) (ts : List (Int × Int)) (s : ByteArray) (b : Bool) (w : World) (hn : ts.length ≤ 1048576) (ht : Tg w w.heap.size a ts) :
    Calls Tryz.prog 63 #[.agg (verC k t u a ts.length c s b)] w (CopiedV w k t u ts s b) := by
  have S0 := (((Inv.start w).box 83 (verC k t u a ts.length c s b)).box 96 (verC 0 0 0 none 0 0 ⟨#[]⟩ false)).box 96 (verC k 0 0 none 0 0 ⟨#[]⟩ false)
  simp only [World.size_alloc] at S0
  have hd : ∀ x ∈ [(w.heap.size + 1, 96, verC 0 0 0 none 0 0 ⟨#[]⟩ false), (w.heap.size, 83, verC k t u a ts.length c s b)], x.1 ≠ w.heap.size + 1 + 1 := by simp; omega
  go_enter Tryz.func63, Tryz.ntmps63
  go_wp2_with fail
  generalize (((w.alloc (.cells (verC k t u a ts.length c s b) 83)).alloc (.cells (verC 0 0 0 none 0 0 ⟨#[]⟩ false) 96)).alloc (.cells (verC k 0 0 none 0 0 ⟨#[]⟩ false) 96)) = W at S0 ⊢
  refine (toTag_any _ _ _).mono ?_
  rintro e w1 ⟨rfl, hb1⟩
  have S1 := S0.on hb1
  have k1 := (S1.nth 0 rfl).six
  have k2 := (S1.nth 2 rfl).six
  have S2 := ((S1.put0 (i := 1) hd (.int .i64 t)).put0 (i := 2) hd (.int .i64 u))
  simp only [List.setIfInBounds_toArray, List.set_cons_zero, List.set_cons_succ] at S2
  clear S0 S1 hb1
  go_wp2_with fail
  generalize ((w1.setCell ⟨w.heap.size + 1 + 1, 1, none⟩ (.int .i64 t)).setCell ⟨w.heap.size + 1 + 1, 2, none⟩ (.int .i64 u)) = W2 at S2 ⊢
  clear k1 k2
  refine (toPast_any a c ts W2 hn ((ht.on S2.below).up S2.base)).mono ?_
  rintro e w3 ⟨g, cur, rfl, hg, hB, hsz, hcur, hb3⟩
  have hr := S2.room
  have hbase := S2.base
  have S3 := S2.on hb3
  have k1 := (S3.nth 0 rfl).six
  have k2 := (S3.nth 1 rfl).six
  have k3 := (S3.nth 2 rfl).six
  have hl := S3.below
  have HC := hide hcur
  clear hcur S2 S3 ht
  go_wp2
  refine bodyPost_ret (v := .agg (verC k t u (some ⟨g, 0, none⟩) ts.length ts.length s b)) (by simp [results, Tryz.results63, go_sem, k2]) rfl ?_
  exact ⟨g, cur, rfl, by omega, (((((((((hB.aside (by simp; omega) _).aside (by simp; omega) _).aside (by simp; omega) _).aside (by simp; omega) _).aside (by simp; omega) _).aside (by simp; omega) _).aside (by simp; omega) _).aside (by simp; omega) _).aside (by simp; omega) _), hsz, HC.out, below_set6 (((hl.setCell (by simp; omega) _).setCell (by simp; omega) _).setCell (by simp; omega) _) (by omega) _ _ _ _ _ _⟩

set_option maxRecDepth 100000 in
set_option maxHeartbeats 2000000 in
theorem eqVer_same (k t u : Int) (a a' : Option Addr) (c c' : Nat) (ts : List (Int × Int)) (s : ByteArray) (b : Bool) (w : World) (hn : ts.length ≤ 1048576) (ht : Tg w w.heap.size a ts) (hu : Tg w w.heap.size a' ts) :
    Calls Tryz.prog 79 #[.agg (verC k t u a ts.length c s b), .agg (verC k t u a' ts.length c' s b)] w fun e w' => e = .returned (.bool true) ∧ Below w.heap.size w w' := by
  have S0 := ((Inv.start w).box 96 (verC k t u a ts.length c s b)).box 96 (verC k t u a' ts.length c' s b)
  simp only [World.size_alloc] at S0
  have he : eqB t u t u = true := by simp [eqB]
  go_enter Tryz.func79, Tryz.ntmps79
  go_wp2_with fail
  refine (eqTag_any _ _ _ _ _).mono ?_
  rintro e w1 ⟨rfl, hb1⟩
  rw [he]
  have S1 := S0.on hb1
  have k1 := (S1.nth 0 rfl).six.1
  have k2 := (S1.nth 1 rfl).six.1
  clear S0 hb1
  go_wp2_with fail
  refine (eqPast_any _ _ _ _ ts ts _ hn hn ((ht.on S1.below).up S1.base) ((hu.on S1.below).up S1.base)).mono ?_
  rintro e w2 ⟨rfl, hb2⟩
  rw [decide_eq_true rfl]
  have S2 := S1.on hb2
  clear k1 k2 S1 hb2
  have k1 := (S2.nth 0 rfl).six.1
  have k2 := (S2.nth 1 rfl).six.1
  go_wp2
  go_ret
  exact ⟨rfl, S2.below⟩
end Go.Proofs.YtnaggcdhimcilaaGreat
/- Versions in a row: how they are read, their size, whether two rows are the same. Condition: what is said of each. -/
namespace Go.Proofs.YtnaggcdhimcilaaGreat
open Go.RowKit Go.Joins

/-- A version as it lies in memory. -/
structure V where
  k : Int
  t : Int
  u : Int
  a : Option Addr
  c : Nat
  ts : List (Int × Int)
  s : ByteArray
  g : Bool
/-- Two versions say the same. -/
def V.like (v v' : V) : Prop := v.k = v'.k ∧ v.t = v'.t ∧ v.u = v'.u ∧ v.ts = v'.ts ∧ v.s = v'.s ∧ v.g = v'.g
/-- The six cells of a version from here on. -/
abbrev Six (w : World) (b o : Nat) (v : V) : Prop :=
  w.cell? ⟨b, o, none⟩ = some (.int .i64 v.k) ∧ w.cell? ⟨b, o + 1, none⟩ = some (.int .i64 v.t) ∧ w.cell? ⟨b, o + 2, none⟩ = some (.int .i64 v.u) ∧ w.cell? ⟨b, o + 3, none⟩ = some (.slice v.a v.ts.length v.c) ∧ w.cell? ⟨b, o + 4, none⟩ = some (.string v.s) ∧ w.cell? ⟨b, o + 5, none⟩ = some (.bool v.g)
theorem Six.keep {w w' : World} {b o B : Nat} {v : V} (h : Six w b o v) (hb : b < B) (hk : ∀ p : Addr, p.block < B → w'.cell? p = w.cell? p) : Six w' b o v :=
  ⟨(hk ⟨b, o, none⟩ hb).trans h.1, (hk ⟨b, o + 1, none⟩ hb).trans h.2.1, (hk ⟨b, o + 2, none⟩ hb).trans h.2.2.1, (hk ⟨b, o + 3, none⟩ hb).trans h.2.2.2.1, (hk ⟨b, o + 4, none⟩ hb).trans h.2.2.2.2.1, (hk ⟨b, o + 5, none⟩ hb).trans h.2.2.2.2.2⟩
/-- A slice that reads as these versions, in old memory (below block B). -/
def Vg (w : World) (B : Nat) (a : Option Addr) (vs : List V) : Prop :=
  vs = [] ∨ ∃ b off : Nat, a = some ⟨b, off, none⟩ ∧ b < B ∧ ∀ i v, vs[i]? = some v → Six w b (off + i * 6) v ∧ Tg w B v.a v.ts
theorem Vg.on {w w' : World} {B : Nat} {a : Option Addr} {vs : List V} (h : Vg w B a vs) (hb : Below B w w') : Vg w' B a vs := by
  rcases h with h | ⟨b, off, ha, hlt, hx⟩
  · exact .inl h
  · exact .inr ⟨b, off, ha, hlt, fun i v hi => ⟨(hx i v hi).1.keep hlt fun _ hp => hb.cell hp, (hx i v hi).2.on hb⟩⟩
theorem Vg.up {w : World} {B B' : Nat} {a : Option Addr} {vs : List V} (h : Vg w B a vs) (hB : B ≤ B') : Vg w B' a vs := by
  rcases h with h | ⟨b, off, ha, hlt, hx⟩
  · exact .inl h
  · exact .inr ⟨b, off, ha, by omega, fun i v hi => ⟨(hx i v hi).1, (hx i v hi).2.up hB⟩⟩

/-- How much these versions weigh beside their number. -/
def tot (vs : List V) : Nat := (vs.map fun v => v.ts.length + v.s.size).sum
theorem tot_step {vs : List V} {k : Nat} {v : V} (h : vs[k]? = some v) : tot (vs.take (k + 1)) = tot (vs.take k) + (v.ts.length + v.s.size) := by
  unfold tot
  rw [List.take_add_one, h]
  simp
theorem tot_all (vs : List V) : tot (vs.take vs.length) = tot vs := by rw [List.take_length]
theorem tot_le (vs : List V) (k : Nat) : tot (vs.take k) ≤ tot vs := by
  have h : vs = vs.take k ++ vs.drop k := (List.take_append_drop k vs).symm
  have e : tot vs = tot (vs.take k) + tot (vs.drop k) := by
    unfold tot
    rw [← List.sum_append, ← List.map_append, ← h]
  omega
theorem tot_mem {vs : List V} {v : V} (h : v ∈ vs) : v.ts.length + v.s.size ≤ tot vs := by
  obtain ⟨k, hk⟩ := List.getElem?_of_mem h
  have h1 := tot_step hk
  have h2 := tot_le vs (k + 1)
  omega

set_option maxRecDepth 100000 in
set_option maxHeartbeats 2000000 in
theorem szVerS_fits (a : Option Addr) (c : Nat) (vs : List V) (left : Int) (w : World) (h0 : left ≤ 1048576) (hf : (vs.length : Int) + tot vs ≤ left) (hv : Vg w w.heap.size a vs) :
    Calls Tryz.prog 18 #[.slice a vs.length c, .int .i64 left] w fun e w' => e = .returned (.int .i64 (left - vs.length - tot vs)) ∧ Below w.heap.size w w' := by
  have HF := hide hf
  have HT : Hid (tot (vs.take vs.length) = tot vs) := tot_all vs
  generalize hnn : vs.length = n at *
  have HN := hide hnn
  have h1 : ¬ (left - (n : Int) < 0) := by omega
  have h2 : 0 ≤ left := by omega
  have h3 : (n : Int) ≤ left := by omega
  clear hnn hf
  go_enter Tryz.func18, Tryz.ntmps18
  go_wp2
  go_loopw [1, 5] (fun r i wr => ∃ (k : Nat) (m : Int), k ≤ n ∧ i = .int .i64 (k : Int) ∧ r = .int .i64 m ∧ Hid (m = left - n - tot (vs.take k)) ∧ Below w.heap.size w wr) (fun _ i _ => n - (intOf i).toNat)
  case atStart => exact ⟨0, _, Nat.zero_le _, rfl, rfl, by unfold Hid tot; simp, Below.refl _ _⟩
  case round =>
    obtain ⟨k, m, hk, rfl, rfl, hm, hL⟩ := hrel
    by_cases hlt : k < n
    · rcases hv with e0 | ⟨b, off, rfl, hb, hx⟩
      · have := HN.out; subst e0; simp at this; omega
      · have hkl : k < vs.length := by have := HN.out; omega
        obtain ⟨hS, -⟩ := hx k _ (List.getElem?_eq_getElem hkl)
        have HX := hide (List.getElem?_eq_getElem hkl)
        have hS' := hS.keep hb fun _ hp => hL.cell hp
        generalize vs[k] = v at hS' HX
        obtain ⟨vk, vt, vu, va, vc, vts, vs', vg⟩ := v
        have st := tot_step HX.out
        have le := tot_le vs (k + 1)
        simp only at st hS'
        have H1 : Hid ((vts.length : Int) + vs'.size ≤ m ∧ m ≤ 1048576) := by
          have := hm.out; have := HF.out; unfold Hid; omega
        have H2 : Hid (m - vts.length - vs'.size = left - n - tot (vs.take (k + 1))) := by
          have := hm.out; unfold Hid; omega
        have h5 : ¬ (m - (vts.length : Int) - (vs'.size : Int) < 0) := by have := H1.out; omega
        clear st le hS hx
        have i1 : (0 : Int) ≤ (k : Int) := by omega
        have i2 : (k : Int) < (n : Int) := by omega
        go_wp2_with fail
        refine (szVer_fits _ _ _ _ _ _ _ _ _ _ H1.out.2 H1.out.1).mono ?_
        rintro e w1 ⟨rfl, hb1⟩
        have hL1 := hL.trans (hb1.mono hL.size)
        go_wp2
        exact ⟨⟨k + 1, _, by omega, by go_num, rfl, H2, hL1⟩, by simp [intOf]; omega⟩
    · have hkn : k = n := by omega
      subst hkn
      clear hlt
      go_wp2
      go_ret
      exact ⟨ret_int (by rw [hm.out, HT.out]), hL⟩

set_option maxRecDepth 100000 in
set_option maxHeartbeats 2000000 in
theorem szVerS_not (a : Option Addr) (c : Nat) (vs : List V) (left : Int) (w : World) (h0 : left ≤ 1048576) (h00 : 0 ≤ left) (hl : vs.length ≤ 9223372036854775807) (hm0 : ∀ v ∈ vs, v.ts.length ≤ 9223372036854775807 ∧ v.s.size ≤ 9223372036854775807) (hf : left < (vs.length : Int) + tot vs) (hv : Vg w w.heap.size a vs) :
    Calls Tryz.prog 18 #[.slice a vs.length c, .int .i64 left] w fun e w' => e = .returned (.int .i64 (-1)) ∧ Below w.heap.size w w' := by
  have HF := hide hf
  have HM := hide hm0
  clear hm0
  have HT : Hid (tot (vs.take vs.length) = tot vs) := tot_all vs
  generalize hnn : vs.length = n at *
  have HN := hide hnn
  clear hnn hf
  by_cases h1 : left - (n : Int) < 0
  · go_enter Tryz.func18, Tryz.ntmps18
    go_wp2
    go_ret
    exact ⟨rfl, Below.refl _ _⟩
  · have h3 : (n : Int) ≤ left := by omega
    go_enter Tryz.func18, Tryz.ntmps18
    go_wp2
    go_loopw [1, 5] (fun r i wr => ∃ (k : Nat) (m : Int), k ≤ n ∧ i = .int .i64 (k : Int) ∧ r = .int .i64 m ∧ Hid (m = left - n - tot (vs.take k) ∧ 0 ≤ m) ∧ Below w.heap.size w wr) (fun _ i _ => n - (intOf i).toNat)
    case atStart => exact ⟨0, _, Nat.zero_le _, rfl, rfl, by unfold Hid tot; simp; omega, Below.refl _ _⟩
    case round =>
      obtain ⟨k, m, hk, rfl, rfl, hm, hL⟩ := hrel
      by_cases hlt : k < n
      · rcases hv with e0 | ⟨b, off, rfl, hb, hx⟩
        · have := HN.out; subst e0; simp at this; omega
        · have hkl : k < vs.length := by have := HN.out; omega
          obtain ⟨hS, -⟩ := hx k _ (List.getElem?_eq_getElem hkl)
          have HX := hide (List.getElem?_eq_getElem hkl)
          have hS' := hS.keep hb fun _ hp => hL.cell hp
          generalize vs[k] = v at hS' HX
          have HB := hide (HM.out v (List.mem_of_getElem? HX.out))
          obtain ⟨vk, vt, vu, va, vc, vts, vs', vg⟩ := v
          have st := tot_step HX.out
          simp only at st hS'
          have H2 : Hid (m - vts.length - vs'.size = left - n - tot (vs.take (k + 1))) := by
            have := hm.out; unfold Hid; omega
          clear st hS hx
          have i1 : (0 : Int) ≤ (k : Int) := by omega
          have i2 : (k : Int) < (n : Int) := by omega
          have H3 : Hid (m ≤ 1048576) := by have := hm.out; unfold Hid; omega
          by_cases hfit : (vts.length : Int) + vs'.size ≤ m
          · have h5 : ¬ (m - (vts.length : Int) - (vs'.size : Int) < 0) := by omega
            have H4 := hide hfit
            clear hfit
            go_wp2_with fail
            refine (szVer_fits _ _ _ _ _ _ _ _ _ _ H3.out H4.out).mono ?_
            rintro e w1 ⟨rfl, hb1⟩
            have hL1 := hL.trans (hb1.mono hL.size)
            go_wp2
            exact ⟨⟨k + 1, _, by omega, by go_num, rfl, ⟨H2.out, by have := H4.out; omega⟩, hL1⟩, by simp [intOf]; omega⟩
          · have H4 := hide hfit
            clear hfit
            go_wp2_with fail
            refine (szVer_not _ _ _ _ _ _ _ _ _ _ H3.out hm.out.2 HB.out.1 HB.out.2 (by have := H4.out; omega)).mono ?_
            rintro e w1 ⟨rfl, hb1⟩
            have hL1 := hL.trans (hb1.mono hL.size)
            go_wp2
            go_ret
            exact ⟨rfl, hL1⟩
      · have hkn : k = n := by omega
        exfalso
        have := hm.out
        have := HT.out
        have := HF.out
        subst hkn
        omega
end Go.Proofs.YtnaggcdhimcilaaGreat
/- Versions in a row: whether two rows are the same; their copy. Condition: at most 1048576 versions, and tags of each. -/
namespace Go.Proofs.YtnaggcdhimcilaaGreat
open Go.RowKit Go.Joins

/-- Two rows say the same as far as both go. -/
def Like (vs us : List V) : Prop := ∀ (i : Nat) (v v' : V), vs[i]? = some v → us[i]? = some v' → V.like v v'
theorem Like.swap {vs us : List V} (h : Like vs us) : Like us vs := fun i v v' h1 h2 => by
  obtain ⟨a, b, c, d, e, f⟩ := h i v' v h2 h1
  exact ⟨a.symm, b.symm, c.symm, d.symm, e.symm, f.symm⟩
set_option maxRecDepth 100000 in
set_option maxHeartbeats 2000000 in
theorem eqVerS_same (a a' : Option Addr) (c c' n : Nat) (vs us : List V) (w : World) (hn : n ≤ 1048576) (hvn : vs.length = n) (hun : us.length = n)
    (hlike : Like vs us) (hm : ∀ v ∈ vs, v.ts.length ≤ 1048576) (hv : Vg w w.heap.size a vs) (hu : Vg w w.heap.size a' us) :
    Calls Tryz.prog 34 #[.slice a n c, .slice a' n c'] w fun e w' => e = .returned (.bool true) ∧ Below w.heap.size w w' := by
  have HN := hide hvn
  have HU := hide hun
  have HK := hide hlike
  have HM := hide hm
  clear hvn hun hlike hm
  go_enter Tryz.func34, Tryz.ntmps34
  go_wp2
  go_loopw [5] (fun i wr => ∃ k : Nat, k ≤ n ∧ i = .int .i64 (k : Int) ∧ Below w.heap.size w wr) (fun i _ => n - (intOf i).toNat)
  case atStart => exact ⟨0, Nat.zero_le _, rfl, Below.refl _ _⟩
  case round =>
    obtain ⟨k, hk, rfl, hL⟩ := hrel
    by_cases hlt : k < n
    · rcases hv with e0 | ⟨b, off, rfl, hb, hx⟩
      · have := HN.out; subst e0; simp at this; omega
      · rcases hu with e0 | ⟨b', off', rfl, hb', hx'⟩
        · have := HU.out; subst e0; simp at this; omega
        · have hkl : k < vs.length := by have := HN.out; omega
          have hkl' : k < us.length := by have := HU.out; omega
          obtain ⟨hS, hT⟩ := hx k _ (List.getElem?_eq_getElem hkl)
          obtain ⟨hS2, hT2⟩ := hx' k _ (List.getElem?_eq_getElem hkl')
          have HX := hide (List.getElem?_eq_getElem hkl)
          have HY := hide (List.getElem?_eq_getElem hkl')
          generalize vs[k] = v at hS hT HX
          generalize us[k] = v' at hS2 hT2 HY
          have hli := HK.out k v v' HX.out HY.out
          have HB := hide (HM.out v (List.mem_of_getElem? HX.out))
          obtain ⟨vk, vt, vu, va, vc, vts, vs', vg⟩ := v
          obtain ⟨uk, ut, uu, ua, uc, uts, us', ug⟩ := v'
          obtain ⟨e1, e2, e3, e4, e5, e6⟩ := hli
          simp only at e1 e2 e3 e4 e5 e6 hS hS2 hT hT2
          subst e1 e2 e3 e4 e5 e6
          have Q1 := hide hS
          have Q2 := hide hS2
          have T1 := hide hT
          have T2 := hide hT2
          clear hS hS2 hT hT2 hx hx'
          have i1 : (0 : Int) ≤ (k : Int) := by omega
          have i2 : (k : Int) < (n : Int) := by omega
          go_wp2_with fail
          refine wp_region_noPanic ?_
          refine wp_region_held_drew (S := (fun w' => Six w' b (off + k * 6) ⟨vk, vt, vu, va, vc, vts, vs', vg⟩ ∧ Six w' b' (off' + k * 6) ⟨vk, vt, vu, ua, uc, vts, vs', vg⟩ ∧ Below w.heap.size w w')) (by kernel_rfl) (by exact ⟨Q1.out.keep hb fun _ hp => hL.cell hp, Q2.out.keep hb' fun _ hp => hL.cell hp, hL.drew⟩) (fun hHeld => ?_)
          refine mvR 0 (some 17) hHeld ?_
          refine mvR 1 (some 18) hHeld ?_
          refine mvR 2 (some 19) hHeld ?_
          refine mvR 3 (some 20) hHeld ?_
          refine mvR 4 (some 21) hHeld ?_
          refine mvR 5 (some 22) hHeld ?_
          refine mvR 6 (some 23) hHeld ?_
          refine mvR 7 (some 24) hHeld ?_
          refine take_one 8 (by kernel_rfl) rfl (fun K hK => ?_)
          go_simp
          (refine (eqVer_same _ _ _ _ _ _ _ vts _ _ _ HB.out ((T1.out.on hHeld.2.2).up hHeld.2.2.size) ((T2.out.on hHeld.2.2).up hHeld.2.2.size)).mono ?_; rintro e w1 ⟨rfl, hb1⟩)
          try go_wp2_with fail
          refine hK.out _ _ (by exact ⟨Q1.out.keep hb fun _ hp => (hHeld.2.2.trans (hb1.mono hHeld.2.2.size)).cell hp, Q2.out.keep hb' fun _ hp => (hHeld.2.2.trans (hb1.mono hHeld.2.2.size)).cell hp, hHeld.2.2.trans (hb1.mono hHeld.2.2.size)⟩) (fun hHeld => ?_)
          clear hK K
          refine mvR 9 (some 26) hHeld ?_
          refine wpAnyH_done (by kernel_rfl) ?_ _
          refine NoPanic.normal ?_
          have hL2 := hHeld.2.2
          clear hHeld hL
          go_wp2
          exact ⟨⟨k + 1, by omega, by go_num, hL2⟩, by simp [intOf]; omega⟩
    · have hkn : k = n := by omega
      subst hkn
      clear hlt
      go_wp2
      go_ret
      exact ⟨rfl, hL⟩
set_option maxHeartbeats 1000000 in
theorem eqStore_same (a a' : Option Addr) (c c' n : Nat) (vs us : List V) (w : World) (hn : n ≤ 1048576) (hvn : vs.length = n) (hun : us.length = n)
    (hlike : Like vs us) (hm : ∀ v ∈ vs, v.ts.length ≤ 1048576) (hv : Vg w w.heap.size a vs) (hu : Vg w w.heap.size a' us) :
    Calls Tryz.prog 144 #[.agg #[.slice a n c], .agg #[.slice a' n c']] w fun e w' => e = .returned (.bool true) ∧ Below w.heap.size w w' := by
  have S0 := ((Inv.start w).box 88 #[.slice a n c]).box 88 #[.slice a' n c']
  simp only [World.size_alloc] at S0
  go_enter Tryz.func144, Tryz.ntmps144
  go_wp2_with fail
  refine (eqVerS_same a a' c c' n vs us _ hn hvn hun hlike hm ((hv.on S0.below).up S0.base) ((hu.on S0.below).up S0.base)).mono ?_
  rintro e w1 ⟨rfl, hb1⟩
  have S1 := S0.on hb1
  clear S0
  go_wp2
  go_ret
  exact ⟨rfl, S1.below⟩

theorem ver_info : (Tryz.prog.info? 96).map (fun i => (i.zero, i.size, i.bytes)) = some (some (.agg (verC 0 0 0 none 0 0 ⟨#[]⟩ false)), 6, 72) := by kernel_rfl

/-- The six cells of the version at place i of a row of cells. -/
def VerAt (cur : Array Value) (i : Nat) (v : V) : Prop :=
  cur[i * 6]? = some (.int .i64 v.k) ∧ cur[i * 6 + 1]? = some (.int .i64 v.t) ∧ cur[i * 6 + 2]? = some (.int .i64 v.u) ∧ cur[i * 6 + 3]? = some (.slice v.a v.ts.length v.c) ∧ cur[i * 6 + 4]? = some (.string v.s) ∧ cur[i * 6 + 5]? = some (.bool v.g)
/-- Cells with the version at place k turned. -/
abbrev put6 (cur : Array Value) (k : Nat) (v : V) : Array Value :=
  (((((cur.setIfInBounds (k * 6) (.int .i64 v.k)).setIfInBounds (k * 6 + 1) (.int .i64 v.t)).setIfInBounds (k * 6 + 2) (.int .i64 v.u)).setIfInBounds (k * 6 + 3) (.slice v.a v.ts.length v.c)).setIfInBounds (k * 6 + 4) (.string v.s)).setIfInBounds (k * 6 + 5) (.bool v.g)
theorem verAt_put {cur : Array Value} {k : Nat} {v : V} (h : k * 6 + 5 < cur.size) : VerAt (put6 cur k v) k v := by
  refine ⟨?_, ?_, ?_, ?_, ?_, ?_⟩ <;> simp [put6, Array.getElem?_setIfInBounds] <;> omega
theorem verAt_other {cur : Array Value} {j k : Nat} {v v' : V} (hj : j ≠ k) (h : VerAt cur j v) : VerAt (put6 cur k v') j v := by
  obtain ⟨h0, h1, h2, h3, h4, h5⟩ := h
  refine ⟨?_, ?_, ?_, ?_, ?_, ?_⟩
  all_goals
    unfold put6
    rw [Array.getElem?_setIfInBounds_ne (by omega), Array.getElem?_setIfInBounds_ne (by omega), Array.getElem?_setIfInBounds_ne (by omega), Array.getElem?_setIfInBounds_ne (by omega), Array.getElem?_setIfInBounds_ne (by omega), Array.getElem?_setIfInBounds_ne (by omega)]
    assumption
/-- A version whose causes lie in a block of their own, numbered above G. -/
def Own (w : World) (G : Nat) (v : V) : Prop :=
  ∃ (g : Nat) (cur : Array Value), v.a = some ⟨g, 0, none⟩ ∧ G < g ∧ Blk w g 91 cur ∧ cur.size = v.ts.length * 2 ∧ ∀ i x, v.ts[i]? = some x → TagAt cur i x
theorem Own.on {w w' : World} {G : Nat} {v : V} (h : Own w G v) (hb : Below w.heap.size w w') : Own w' G v := by
  obtain ⟨g, cur, h1, h2, h3, h4, h5⟩ := h
  exact ⟨g, cur, h1, h2, h3.on hb, h4, h5⟩
theorem Own.aside {w : World} {G : Nat} {v : V} (h : Own w G v) (i : Nat) (x : Value) : Own (w.setCell ⟨G, i, none⟩ x) G v := by
  obtain ⟨g, cur, h1, h2, h3, h4, h5⟩ := h
  exact ⟨g, cur, h1, h2, h3.aside (by simp; omega) x, h4, h5⟩
theorem Own.tg {w : World} {G : Nat} {v : V} (h : Own w G v) : Tg w w.heap.size v.a v.ts := by
  obtain ⟨g, cur, h1, h2, h3, h4, h5⟩ := h
  rw [h1]
  exact Tg.of h3 h3.inside h5
/-- A row of versions in one block, each with its causes in a block of its own. -/
def Row (w : World) (G : Nat) (us : List V) (cur : Array Value) : Prop := Blk w G 96 cur ∧ ∀ i v, us[i]? = some v → VerAt cur i v ∧ Own w G v
theorem Row.on {w w' : World} {G : Nat} {us : List V} {cur : Array Value} (h : Row w G us cur) (hb : Below w.heap.size w w') : Row w' G us cur := ⟨h.1.on hb, fun i v hi => ⟨(h.2 i v hi).1, (h.2 i v hi).2.on hb⟩⟩
theorem Row.vg {w : World} {G : Nat} {us : List V} {cur : Array Value} (h : Row w G us cur) : Vg w w.heap.size (some ⟨G, 0, none⟩) us :=
  .inr ⟨G, 0, rfl, h.1.inside, fun i v hi => by
    obtain ⟨⟨h0, h1, h2, h3, h4, h5⟩, ho⟩ := h.2 i v hi
    refine ⟨⟨?_, ?_, ?_, ?_, ?_, ?_⟩, ho.tg⟩
    all_goals
      rw [Nat.zero_add, h.1.at]
      assumption⟩
theorem like_step {us vs : List V} {k : Nat} {v v' : V} (h : Like us vs) (hk : us.length = k) (hv : vs[k]? = some v') (hl : V.like v v') : Like (us ++ [v]) vs := fun i x x' hi hi' => by
  by_cases e : i < us.length
  · rw [List.getElem?_append_left e] at hi
    exact h i x x' hi hi'
  · rw [List.getElem?_append_right (by omega)] at hi
    have h0 : i - us.length = 0 := by
      have := (List.getElem?_eq_some_iff.1 hi).1
      simp at this
      omega
    have hik : i = k := by omega
    rw [h0] at hi
    subst hik
    simp at hi
    rw [hv] at hi'
    injection hi' with hi'
    subst hi hi'
    exact hl
/-- What toVerS leaves. -/
def CopiedVS (w : World) (vs : List V) (e : Ending) (w' : World) : Prop :=
  ∃ (g : Nat) (us : List V) (cur : Array Value), e = .returned (.slice (some ⟨g, 0, none⟩) vs.length vs.length) ∧ w.heap.size ≤ g ∧ us.length = vs.length ∧ (Like us vs) ∧ Row w' g us cur ∧ cur.size = vs.length * 6 ∧ Below w.heap.size w w'

/-- What toStore leaves. -/
def CopiedSt (w : World) (vs : List V) (e : Ending) (w' : World) : Prop :=
  ∃ (g : Nat) (us : List V) (cur : Array Value), e = .returned (.agg #[.slice (some ⟨g, 0, none⟩) vs.length vs.length]) ∧ w.heap.size ≤ g ∧ us.length = vs.length ∧ (Like us vs) ∧ Row w' g us cur ∧ cur.size = vs.length * 6 ∧ Below w.heap.size w w'
theorem Row.aside {w : World} {G : Nat} {us : List V} {cur : Array Value} (h : Row w G us cur) {p : Addr} (hp : p.block < G) (x : Value) : Row (w.setCell p x) G us cur :=
  ⟨h.1.aside (by omega) x, fun i v hi => ⟨(h.2 i v hi).1, by
    obtain ⟨g, c, h1, h2, h3, h4, h5⟩ := (h.2 i v hi).2
    exact ⟨g, c, h1, h2, h3.aside (by omega) x, h4, h5⟩⟩⟩

set_option maxHeartbeats 1000000 in
theorem szStore_fits (a : Option Addr) (c : Nat) (vs : List V) (left : Int) (w : World) (h0 : left ≤ 1048576) (hf : (vs.length : Int) + tot vs ≤ left) (hv : Vg w w.heap.size a vs) :
    Calls Tryz.prog 121 #[.agg #[.slice a vs.length c], .int .i64 left] w fun e w' => e = .returned (.int .i64 (left - vs.length - tot vs)) ∧ Below w.heap.size w w' := by
  have h1 : ¬ (left - (vs.length : Int) - (tot vs : Int) < 0) := by omega
  have S0 := (Inv.start w).box 128 #[.slice a vs.length c]
  go_enter Tryz.func121, Tryz.ntmps121
  go_wp2_with fail
  refine (szVerS_fits a c vs left _ h0 hf ((hv.on S0.below).up S0.base)).mono ?_
  rintro e w1 ⟨rfl, hb1⟩
  have S1 := S0.on hb1
  clear S0
  go_wp2
  go_ret
  exact ⟨rfl, S1.below⟩
set_option maxHeartbeats 1000000 in
theorem szStore_not (a : Option Addr) (c : Nat) (vs : List V) (left : Int) (w : World) (h0 : left ≤ 1048576) (h00 : 0 ≤ left) (hl : vs.length ≤ 9223372036854775807) (hm0 : ∀ v ∈ vs, v.ts.length ≤ 9223372036854775807 ∧ v.s.size ≤ 9223372036854775807) (hf : left < (vs.length : Int) + tot vs) (hv : Vg w w.heap.size a vs) :
    Calls Tryz.prog 121 #[.agg #[.slice a vs.length c], .int .i64 left] w fun e w' => e = .returned (.int .i64 (-1)) ∧ Below w.heap.size w w' := by
  have S0 := (Inv.start w).box 128 #[.slice a vs.length c]
  have HM := hide hm0
  clear hm0
  go_enter Tryz.func121, Tryz.ntmps121
  go_wp2_with fail
  refine (szVerS_not a c vs left _ h0 h00 hl HM.out hf ((hv.on S0.below).up S0.base)).mono ?_
  rintro e w1 ⟨rfl, hb1⟩
  have S1 := S0.on hb1
  clear S0
  go_wp2
  go_ret
  exact ⟨rfl, S1.below⟩
end Go.Proofs.YtnaggcdhimcilaaGreat
/- Contracts of the functions that say whether a text is valid, in the program and in the model. No condition. -/
namespace Go.Proofs.YtnaggcdhimcilaaGreat
open Go.RowKit Go.Joins

/-- Whether this byte may stand in a text. -/
def byteB (s : ByteArray) (i : Nat) : Bool := if h : i < s.size then decide (33 ≤ s[i].toNat ∧ s[i].toNat ≤ 126) else true
theorem byteB_lo {s : ByteArray} {i : Nat} (h : i < s.size) (h1 : ((s[i].toNat : Nat) : Int) < 33) : byteB s i = false := by
  unfold byteB
  rw [dif_pos h]
  exact decide_eq_false (by omega)
theorem byteB_hi {s : ByteArray} {i : Nat} (h : i < s.size) (h1 : (126 : Int) < ((s[i].toNat : Nat) : Int)) : byteB s i = false := by
  unfold byteB
  rw [dif_pos h]
  exact decide_eq_false (by omega)
theorem byteB_t {s : ByteArray} {i : Nat} (h : i < s.size) (h1 : ¬ ((s[i].toNat : Nat) : Int) < 33) (h2 : ¬ (126 : Int) < ((s[i].toNat : Nat) : Int)) : byteB s i = true := by
  unfold byteB
  rw [dif_pos h]
  exact decide_eq_true (by omega)
theorem byteB_step {s : ByteArray} {k : Nat} (h : byteB s k = true) (hA : ∀ j, j < k → byteB s j = true) : ∀ j, j < k + 1 → byteB s j = true := fun j hj => by
  by_cases e : j = k
  · rw [e]; exact h
  · exact hA j (by omega)
/-- Whether these bytes are a text. -/
def textB (s : ByteArray) : Bool := decide (s.size ≤ 8) && (List.range s.size).all (byteB s)
theorem textB_bad {s : ByteArray} {i : Nat} (hi : i < s.size) (h : byteB s i = false) : textB s = false := by
  unfold textB
  have : (List.range s.size).all (byteB s) = false := by
    rw [List.all_eq_false]
    exact ⟨i, by simpa using hi, by simp [h]⟩
  simp [this]
theorem textB_long {s : ByteArray} (h : 8 < s.size) : textB s = false := by
  unfold textB
  have : ¬ s.size ≤ 8 := by omega
  simp [this]
theorem textB_ok {s : ByteArray} (h : s.size ≤ 8) (hall : ∀ i, i < s.size → byteB s i = true) : textB s = true := by
  unfold textB
  have : (List.range s.size).all (byteB s) = true := by
    rw [List.all_eq_true]
    intro i hi
    exact hall i (by simpa using hi)
  simp [this, h]

set_option maxRecDepth 100000 in
set_option maxHeartbeats 1000000 in
theorem l2TextOk_any (s : ByteArray) (w : World) (hs : s.size ≤ 9223372036854775807) :
    Calls Tryz.prog 123 #[.string s] w fun e w' => e = .returned (.bool (textB s)) ∧ Below w.heap.size w w' := by
  go_enter Tryz.func123, Tryz.ntmps123
  go_wp2
  go_loopw [3] (fun i wr => ∃ k : Nat, k ≤ s.size ∧ i = .int .i64 (k : Int) ∧ Hid (∀ j, j < k → byteB s j = true) ∧ Below w.heap.size w wr) (fun i _ => s.size - (intOf i).toNat)
  case atStart => exact ⟨0, Nat.zero_le _, rfl, fun j hj => absurd hj (by omega), Below.refl _ _⟩
  case round =>
    obtain ⟨k, hk, rfl, hA, hL⟩ := hrel
    by_cases hlt : k < s.size
    · by_cases b1 : ((s[k].toNat : Nat) : Int) < 33
      · have hf := hide (textB_bad hlt (byteB_lo hlt b1))
        go_wp2
        go_ret
        exact ⟨ret_bool hf.out.symm, hL⟩
      · by_cases b2 : (126 : Int) < ((s[k].toNat : Nat) : Int)
        · have hf := hide (textB_bad hlt (byteB_hi hlt b2))
          go_wp2
          go_ret
          exact ⟨ret_bool hf.out.symm, hL⟩
        · have hf := hide (byteB_step (byteB_t hlt b1 b2) hA.out)
          go_wp2
          exact ⟨⟨k + 1, by omega, by go_num, hf, hL⟩, by simp [intOf]; omega⟩
    · have hkn : k = s.size := by omega
      subst hkn
      clear hlt
      by_cases h8 : (s.size : Int) ≤ 8
      · have hf := hide (textB_ok (by omega) hA.out)
        go_wp2
        go_ret
        exact ⟨ret_bool hf.out.symm, hL⟩
      · have hf := hide (textB_long (s := s) (by omega))
        go_wp2
        go_ret
        exact ⟨ret_bool hf.out.symm, hL⟩

set_option maxRecDepth 100000 in
set_option maxHeartbeats 1000000 in
theorem valueOk_any (s : ByteArray) (w : World) (hs : s.size ≤ 9223372036854775807) :
    Calls Tryz.prog 201 #[.agg #[.string s]] w fun e w' => e = .returned (.bool (textB s)) ∧ Below w.heap.size w w' := by
  have S0 := (Inv.start w).box 197 #[.string s]
  by_cases h8 : s.size ≤ 8
  · have h8' : ¬ ((s.size : Int) > 8) := by omega
    go_enter Tryz.func201, Tryz.ntmps201
    go_wp2
    go_loopw [3] (fun i wr => ∃ k : Nat, k ≤ s.size ∧ i = .int .i64 (k : Int) ∧ Hid (∀ j, j < k → byteB s j = true) ∧ Inv w (w.alloc (.cells #[.string s] 197)).heap.size [(w.heap.size, 197, #[.string s])] wr) (fun i _ => s.size - (intOf i).toNat)
    case atStart => exact ⟨0, Nat.zero_le _, rfl, fun j hj => absurd hj (by omega), S0⟩
    case round =>
      obtain ⟨k, hk, rfl, hA, hL⟩ := hrel
      have k0 := (hL.nth 0 rfl).one.1
      by_cases hlt : k < s.size
      · by_cases b1 : ((s[k].toNat : Nat) : Int) < 33
        · have hf := hide (textB_bad hlt (byteB_lo hlt b1))
          go_wp2
          go_ret
          exact ⟨ret_bool hf.out.symm, hL.below⟩
        · by_cases b2 : (126 : Int) < ((s[k].toNat : Nat) : Int)
          · have hf := hide (textB_bad hlt (byteB_hi hlt b2))
            go_wp2
            go_ret
            exact ⟨ret_bool hf.out.symm, hL.below⟩
          · have hf := hide (byteB_step (byteB_t hlt b1 b2) hA.out)
            go_wp2
            exact ⟨⟨k + 1, by omega, by go_num, hf, hL⟩, by simp [intOf]; omega⟩
      · have hkn : k = s.size := by omega
        subst hkn
        clear hlt
        have hf := hide (textB_ok h8 hA.out)
        go_wp2
        go_ret
        exact ⟨ret_bool hf.out.symm, hL.below⟩
  · have h8' : ((s.size : Int) > 8) := by omega
    have hf := hide (textB_long (s := s) (by omega))
    go_enter Tryz.func201, Tryz.ntmps201
    go_wp2
    go_ret
    exact ⟨ret_bool hf.out.symm, S0.below⟩
set_option maxRecDepth 100000 in
set_option maxHeartbeats 1000000 in
theorem tombstoneOk_any (s : ByteArray) (w : World) :
    Calls Tryz.prog 198 #[.agg #[.string s]] w fun e w' => e = .returned (.bool s.toList.isEmpty) ∧ Below w.heap.size w w' := by
  have S0 := (Inv.start w).box 196 #[.string s]
  go_enter Tryz.func198, Tryz.ntmps198
  go_wp2
  go_ret
  exact ⟨rfl, S0.below⟩
end Go.Proofs.YtnaggcdhimcilaaGreat
/- Contracts of the program's fold over times. Condition: at most 1048576 tags. -/
namespace Go.Proofs.YtnaggcdhimcilaaGreat
open Go.RowKit Go.Joins

/-- The latest time of these tags, or 0. -/
def lastT (ts : List (Int × Int)) : Int := ts.foldl (fun m x => max m x.1) 0
theorem lastT_step {ts : List (Int × Int)} {k : Nat} {x : Int × Int} (hx : ts[k]? = some x) : lastT (ts.take (k + 1)) = max (lastT (ts.take k)) x.1 := by
  unfold lastT
  rw [List.take_add_one, hx, List.foldl_append]
  rfl
theorem foldl_max (t : Int) : ∀ (ts : List (Int × Int)) (m : Int), ts.foldl (fun m x => max m x.1) m < t ↔ m < t ∧ ∀ x ∈ ts, x.1 < t
  | [], m => by simp
  | y :: ts, m => by
    rw [List.foldl_cons, foldl_max t ts]
    simp only [List.mem_cons, forall_eq_or_imp]
    constructor
    · rintro ⟨h1, h2⟩
      exact ⟨by omega, by omega, h2⟩
    · rintro ⟨h1, h2, h3⟩
      exact ⟨by omega, h3⟩
theorem lastT_lt {t : Int} {ts : List (Int × Int)} : lastT ts < t ↔ 0 < t ∧ ∀ x ∈ ts, x.1 < t := foldl_max t ts 0

set_option maxRecDepth 100000 in
set_option maxHeartbeats 1000000 in
theorem laterTime_any (m t u : Int) (w : World) :
    Calls Tryz.prog 136 #[.int .i64 m, .agg #[.int .i64 t, .int .i64 u]] w fun e w' => e = .returned (.int .i64 (max m t)) ∧ Below w.heap.size w w' := by
  have S0 := (Inv.start w).box 91 #[.int .i64 t, .int .i64 u]
  by_cases h : m < t
  · have hf := hide (show max m t = t by omega)
    go_enter Tryz.func136, Tryz.ntmps136
    go_wp2
    go_ret
    exact ⟨ret_int hf.out.symm, S0.below⟩
  · have hf := hide (show max m t = m by omega)
    go_enter Tryz.func136, Tryz.ntmps136
    go_wp2
    go_ret
    exact ⟨ret_int hf.out.symm, S0.below⟩

set_option maxRecDepth 100000 in
set_option maxHeartbeats 1000000 in
theorem foldTimes_any (a : Option Addr) (c : Nat) (ts : List (Int × Int)) (w : World) (hn : ts.length ≤ 1048576) (ht : Tg w w.heap.size a ts) :
    Calls Tryz.prog 155 #[.slice a ts.length c, .int .i64 0, .func (.func 136) #[] #[]] w fun e w' => e = .returned (.int .i64 (lastT ts)) ∧ Below w.heap.size w w' := by
  have HT : Hid (lastT (ts.take ts.length) = lastT ts) := by unfold Hid; rw [List.take_length]
  generalize hnn : ts.length = n at *
  have HN := hide hnn
  clear hnn
  go_enter Tryz.func155, Tryz.ntmps155
  go_wp2
  go_loopw [1, 11] (fun r i wr => ∃ (k : Nat) (m : Int), k ≤ n ∧ i = .int .i64 (k : Int) ∧ r = .int .i64 m ∧ Hid (m = lastT (ts.take k)) ∧ Below w.heap.size w wr) (fun _ i _ => n - (intOf i).toNat)
  case atStart => exact ⟨0, 0, Nat.zero_le _, rfl, rfl, rfl, Below.refl _ _⟩
  case round =>
    obtain ⟨k, m, hk, rfl, rfl, hm, hL⟩ := hrel
    by_cases hlt : k < n
    · rcases ht with h0 | ⟨b, off, rfl, hb, hx⟩
      · have := HN.out; subst h0; simp at this; omega
      · have hkl : k < ts.length := by have := HN.out; omega
        obtain ⟨hc0, hc1⟩ := hx k _ (List.getElem?_eq_getElem hkl)
        have c0 := (hL.cell (p := ⟨b, off + k * 2, none⟩) hb).trans hc0
        have c1 := (hL.cell (p := ⟨b, off + k * 2 + 1, none⟩) hb).trans hc1
        have HX := hide (List.getElem?_eq_getElem hkl)
        generalize ts[k] = x at c0 c1 HX
        obtain ⟨x1, x2⟩ := x
        simp only at c0 c1
        clear hc0 hc1 hx
        have i1 : (0 : Int) ≤ (k : Int) := by omega
        have i2 : (k : Int) < (n : Int) := by omega
        have L1 := hL.alloc hL.size (.cells #[.int .i64 x1, .int .i64 x2] 91)
        go_wp2_with fail
        refine (laterTime_any _ _ _ _).mono ?_
        rintro e w1 ⟨rfl, hb1⟩
        have hL1 := L1.trans (hb1.mono L1.size)
        have HM : Hid (max m x1 = lastT (ts.take (k + 1))) := by
          unfold Hid
          rw [lastT_step HX.out, ← hm.out]
        go_wp2
        exact ⟨⟨k + 1, _, by omega, by go_num, rfl, HM, hL1⟩, by simp [intOf]; omega⟩
    · have hkn : k = n := by omega
      subst hkn
      clear hlt
      go_wp2
      go_ret
      exact ⟨ret_int (hm.out.trans HT.out), hL⟩

end Go.Proofs.YtnaggcdhimcilaaGreat
/- Whether a version is valid, said plainly; contracts of the program's fold over times. Condition: at most 1048576 tags. -/
namespace Go.Proofs.YtnaggcdhimcilaaGreat
open Go.RowKit Go.Joins

/-- Whether this is a valid version. -/
def verB (k t u : Int) (ts : List (Int × Int)) (s : ByteArray) (g : Bool) : Bool :=
  decide (0 ≤ k ∧ k ≤ 3) && textB s && okB t u && decide (t ≠ 0) && !(g && !s.toList.isEmpty) && pastB ts && ts.all fun x => decide (x.1 < t)

theorem verB_f {k t u : Int} {ts : List (Int × Int)} {s : ByteArray} {g : Bool} (h : ¬ (0 ≤ k ∧ k ≤ 3) ∨ textB s = false ∨ okB t u = false ∨ t = 0 ∨ (g = true ∧ s.toList.isEmpty = false) ∨ pastB ts = false ∨ ∃ x ∈ ts, ¬ x.1 < t) : verB k t u ts s g = false := by
  unfold verB
  rcases h with h | h | h | h | ⟨h, h'⟩ | h | ⟨x, hx, h⟩
  · rw [decide_eq_false h]; rfl
  · rw [h]; simp
  · rw [h]; simp
  · rw [h]; simp
  · rw [h, h']; simp
  · rw [h]; simp
  · have : (ts.all fun x => decide (x.1 < t)) = false := by
      rw [List.all_eq_false]
      exact ⟨x, hx, by simpa using h⟩
    rw [this]; simp
theorem verB_t {k t u : Int} {ts : List (Int × Int)} {s : ByteArray} {g : Bool} (h1 : 0 ≤ k ∧ k ≤ 3) (h2 : textB s = true) (h3 : okB t u = true) (h4 : ¬ t = 0) (h5 : g = true → s.toList.isEmpty = true) (h6 : pastB ts = true) (h7 : ∀ x ∈ ts, x.1 < t) : verB k t u ts s g = true := by
  unfold verB
  have e7 : (ts.all fun x => decide (x.1 < t)) = true := by
    rw [List.all_eq_true]
    intro x hx
    simpa using h7 x hx
  have e5 : (g && !s.toList.isEmpty) = false := by
    cases g
    · rfl
    · rw [h5 rfl]; rfl
  rw [decide_eq_true h1, h2, h3, h6, e7, e5]
  simp [h4]
end Go.Proofs.YtnaggcdhimcilaaGreat
