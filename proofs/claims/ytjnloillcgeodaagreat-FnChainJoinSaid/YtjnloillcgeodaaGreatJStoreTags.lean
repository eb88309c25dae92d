/- Contracts of the functions that copy a row of versions, of program and model. Condition: at most 1048576 versions, and causes of each. -/
import Derived.Test.YtjnloillcgeodaaGreatJVerClone
import Derived.Test.YtjnloillcgeodaaGreatJStoreOk
import Derived.Deep.AppendLies
namespace Go.Proofs.YtjnloillcgeodaaGreat
open Go.RowKit Go.Joins
attribute [local go_sem ↓] Go.wp_at_zero Go.wp_at_succ

/-- The cells of a row of versions. -/
def cells6 (v : V) : List Value := [.int .i64 v.k, .int .i64 v.t, .int .i64 v.u, .slice v.a v.ts.length v.c, .string v.s, .bool v.g]
def flat6 (us : List V) : List Value := us.flatMap cells6
theorem flat6_snoc (us : List V) (v : V) : flat6 (us ++ [v]) = flat6 us ++ cells6 v := by simp [flat6]
theorem flat6_len (us : List V) : (flat6 us).length = us.length * 6 := by
  induction us with
  | nil => rfl
  | cons x r ih => simp [flat6, cells6] at *; omega
theorem flat6_at : ∀ (us : List V) (i : Nat) (v : V) (m : Nat), us[i]? = some v → m < 6 → (flat6 us)[i * 6 + m]? = (cells6 v)[m]?
  | [], i, v, m, h, _ => by simp at h
  | x :: r, 0, v, m, h, hm => by
    simp at h
    subst h
    have e : flat6 (x :: r) = cells6 x ++ flat6 r := by simp [flat6]
    rw [e, Nat.zero_mul, Nat.zero_add, List.getElem?_append_left (by simp [cells6]; omega)]
  | x :: r, i + 1, v, m, h, hm => by
    have e : flat6 (x :: r) = cells6 x ++ flat6 r := by simp [flat6]
    have h6 : (cells6 x).length = 6 := rfl
    rw [e, List.getElem?_append_right (by omega), h6]
    have : (i + 1) * 6 + m - 6 = i * 6 + m := by omega
    rw [this]
    exact flat6_at r i v m (by simpa using h) hm
theorem verAt_of {cur : Array Value} {us : List V} {n : Nat} (h : cur.toList.take n = flat6 us) (i : Nat) (v : V) (hi : us[i]? = some v) : VerAt cur i v := by
  have key : ∀ m, m < 6 → cur[i * 6 + m]? = (cells6 v)[m]? := by
    intro m hm
    have h1 := flat6_at us i v m hi hm
    rw [← h] at h1
    have h2 : ∃ u, (cells6 v)[m]? = some u := ⟨_, List.getElem?_eq_getElem (by simp [cells6]; omega)⟩
    obtain ⟨u, hu⟩ := h2
    rw [hu] at h1 ⊢
    obtain ⟨hl, _⟩ := List.getElem?_eq_some_iff.1 h1
    rw [List.length_take] at hl
    rw [List.getElem?_take_of_lt (by omega)] at h1
    simpa using h1
  exact ⟨key 0 (by omega), key 1 (by omega), key 2 (by omega), key 3 (by omega), key 4 (by omega), key 5 (by omega)⟩

/-- A row of copies as it grows. -/
structure CRow (base : Nat) (wr : World) (x : Value) (us : List V) : Prop where
  row : wr.ownsRow base 51 6 x us.length (flat6 us)
  own : ∀ (i : Nat) v, us[i]? = some v → Own1 wr base wr.heap.size v
  apart : ∀ (i j : Nat) v v', i ≠ j → us[i]? = some v → us[j]? = some v' → v.ts ≠ [] → v'.ts ≠ [] → v.a ≠ v'.a
  lo : base ≤ wr.heap.size
theorem CRow.start (base : Nat) (w : World) (h : base ≤ w.heap.size) : CRow base w (.slice none 0 0) [] :=
  ⟨World.ownsRow_nil _ _ _ _, fun i v h => by simp at h, fun i j v v' _ h => by simp at h, h⟩
theorem CRow.typed {base : Nat} {wr : World} {x : Value} {us : List V} (h : CRow base wr x us) (r : Nat) (hr : x.ownBlock = some r) : ∃ cs, Blk wr r 51 cs ∧ base ≤ r ∧ r < wr.heap.size := by
  rcases h.row.2 with ⟨rfl, _⟩ | ⟨g', cap, cr, rfl, hg', hb', _⟩
  · simp [Value.ownBlock] at hr
  · simp [Value.ownBlock] at hr
    subst hr
    exact ⟨cr, hb', hg', Blk.inside hb'⟩
theorem CRow.form {base : Nat} {wr : World} {x : Value} {us : List V} (h : CRow base wr x us) : ∃ A n c, x = .slice A n c := by
  rcases h.row.2 with ⟨rfl, _⟩ | ⟨g', cap, cr, rfl, hg', hb', _⟩
  · exact ⟨_, _, _, rfl⟩
  · exact ⟨_, _, _, rfl⟩
theorem CRow.on {base : Nat} {wr w2 : World} {x : Value} {us : List V} (h : CRow base wr x us) (hb : Below wr.heap.size wr w2) : CRow base w2 x us :=
  ⟨World.ownsRow.kept h.row (grown_none (row := none) hb) (Classical.em _), fun i v hi => ((h.own i v hi).on hb).wide hb.size, h.apart, Nat.le_trans h.lo hb.size⟩
/-- A store into a block below the row's, that holds no tags. -/
theorem CRow.aside {base : Nat} {wr : World} {x : Value} {us : List V} (h : CRow base wr x us) {p : Addr} {T : TypeId} {cs : Array Value} (hb : Blk wr p.block T cs) (hT : T ≠ 49) (hp : p.block < base) (u : Value) : CRow base (wr.setCell p u) x us :=
  ⟨ownsRow_setCell_below h.row hp u, fun i v hi => by
    have := (h.own i v hi).tk (.set hb hT u)
    simpa [World.setCell] using this, h.apart, by simpa [World.setCell] using h.lo⟩
/-- One copy more. -/
theorem CRow.push {base : Nat} {wr w1 w2 : World} {x : Value} {us : List V} {v : V} {B g cap : Nat} (h : CRow base wr x us) (hb : Below wr.heap.size wr w1) (hB : wr.heap.size ≤ B) (ho : Own1 w1 B w1.heap.size v)
    (hown : w2.ownsRow base 51 6 (.slice (some ⟨g, 0, none⟩) (us.length + 1) cap) (us.length + 1) (flat6 us ++ cells6 v)) (hg : w1.grownBy w2 x.ownBlock) : CRow base w2 (.slice (some ⟨g, 0, none⟩) (us.length + 1) cap) (us ++ [v]) := by
  have hk : Tk w1 w2 := .grown hg fun r hr => by
    obtain ⟨cs, h1, _⟩ := h.typed r hr
    exact ⟨_, _, h1.on hb, ver_ne_tag⟩
  have zb := h.lo
  have z1 := hb.size
  have z2 := hg.size
  have hget : ∀ (i : Nat) y, (us ++ [v])[i]? = some y → (i = us.length ∧ y = v) ∨ (i < us.length ∧ us[i]? = some y) := by
    intro i y hy
    by_cases e : i < us.length
    · rw [List.getElem?_append_left e] at hy
      exact .inr ⟨e, hy⟩
    · rw [List.getElem?_append_right (by omega)] at hy
      have h0 : i - us.length = 0 := by
        have := (List.getElem?_eq_some_iff.1 hy).1
        simp at this
        omega
      rw [h0] at hy
      simp at hy
      exact .inl ⟨by omega, hy.symm⟩
  have hap : ∀ (i : Nat) y, us[i]? = some y → y.ts ≠ [] → v.ts ≠ [] → y.a ≠ v.a := by
    intro i y hy hn hn'
    rcases h.own i y hy with h0 | ⟨g1, _, e1, _, q1, _⟩
    · exact absurd h0 hn
    · rcases ho with h0 | ⟨g2, _, e2, q2, _⟩
      · exact absurd h0 hn'
      · rw [e1, e2]
        intro e
        injection e with e
        injection e with e
        omega
  refine ⟨by simpa [flat6_snoc] using hown, fun i y hy => ?_, fun i j y y' hne hy hy' hn hn' => ?_, by omega⟩
  · rcases hget i y hy with ⟨rfl, rfl⟩ | ⟨_, hy⟩
    · exact ((ho.low (by omega)).tk hk).wide z2
    · exact ((((h.own i y hy).on hb).wide z1).tk hk).wide z2
  · rcases hget i y hy with ⟨e1, e2⟩ | ⟨e, hq⟩ <;> rcases hget j y' hy' with ⟨e3, e4⟩ | ⟨e', hq'⟩
    · omega
    · rw [e2]; exact fun e => hap j y' hq' hn' (e2 ▸ hn) e.symm
    · rw [e4]; exact hap i y hq hn (e4 ▸ hn')
    · exact h.apart i j y y' hne hq hq' hn hn'

/-- A row of versions that a call has made: none, or in a block of its own. -/
def ResV (w : World) (B U : Nat) (x : Value) (us : List V) : Prop :=
  (us = [] ∧ ∃ A cap, x = .slice A 0 cap) ∨ ∃ G cap cur, x = .slice (some ⟨G, 0, none⟩) us.length cap ∧ ORow w B U G us cur
theorem CRow.res {base : Nat} {wr : World} {x : Value} {us : List V} (h : CRow base wr x us) : ResV wr base wr.heap.size x us := by
  rcases h.row.2 with ⟨rfl, e⟩ | ⟨g', cap, cr, rfl, hg', hb', hn, hm, hs, ht⟩
  · exact .inl ⟨List.length_eq_zero_iff.1 (by omega), none, 0, rfl⟩
  · exact .inr ⟨g', cap, cr, rfl, hb', hg', Blk.inside hb', by omega, verAt_of ht, h.own, h.apart⟩
/-- What a copy of a row is. -/
def CopiedR (w : World) (vs : List V) (e : Ending) (w' : World) : Prop :=
  ∃ (x : Value) (us : List V), e = .returned x ∧ us.length = vs.length ∧ Like us vs ∧ CRow w.heap.size w' x us ∧ Below w.heap.size w w'

set_option maxRecDepth 100000 in
set_option maxHeartbeats 4000000 in
theorem copyVers_any (a : Option Addr) (c : Nat) (vs : List V) (w : World) (hn : vs.length ≤ 1048576) (hm : ∀ v ∈ vs, v.ts.length ≤ 1048576) (hv : Vg w w.heap.size a vs) :
    Calls Tryz.prog 74 #[.slice a vs.length c] w (CopiedR w vs) := by
  obtain ⟨i0, hi0, hz0, hz1, hz2⟩ := info_parts ver_info
  have I0 := hide hi0
  have I1 := hide hz0
  have I2 := hide hz1
  have I3 := hide hz2
  clear hi0 hz0 hz1 hz2
  have HM := hide hm
  clear hm
  generalize hnn : vs.length = n at *
  have HN := hide hnn
  clear hnn
  go_enter Tryz.func74, Tryz.ntmps74
  go_wp2
  go_loopw [3, 8] (fun x i wr => ∃ (k : Nat) (us : List V), k ≤ n ∧ i = .int .i64 (k : Int) ∧ Hid (us.length = k) ∧ Hid (Like us vs) ∧ Hid (CRow w.heap.size wr x us) ∧ Below w.heap.size w wr) (fun _ i _ => n - (intOf i).toNat)
  case atStart => exact ⟨0, [], Nat.zero_le _, rfl, rfl, fun i v v' hi => by simp at hi, CRow.start _ w (Nat.le_refl _), Below.refl _ _⟩
  case round =>
    obtain ⟨k, us, hk, rfl, HU, HL, HC, hLL⟩ := hrel
    by_cases hlt : k < n
    · rcases hv with h0 | ⟨b, off, rfl, hb, hx⟩
      · have := HN.out; subst h0; simp at this; omega
      · have hkl : k < vs.length := by have := HN.out; omega
        obtain ⟨hS, hT⟩ := hx k _ (List.getElem?_eq_getElem hkl)
        have HX := hide (List.getElem?_eq_getElem hkl)
        generalize vs[k] = v at hS hT HX
        have HB := hide (HM.out v (List.mem_of_getElem? HX.out))
        have hL := hLL
        obtain ⟨s0, s1, s2, s3, s4, s5⟩ := hS.keep hb fun _ hp => hL.cell hp
        have hzz := hL.size
        have HT := hide (((hT.on hL).up hzz))
        have i1 : (0 : Int) ≤ (k : Int) := by omega
        have i2 : (k : Int) < (n : Int) := by omega
        have LA := below_alloc1 wr (.cells (verC v.k v.t v.u v.a v.ts.length v.c v.s v.g) 51)
        have HLA := hide LA
        have hbw : b < wr.heap.size := by omega
        clear hS hT hx hL LA
        go_wp2_with fail
        refine (clone_any v _ HB.out ((HT.out.on HLA.out).up HLA.out.size)).mono ?_
        rintro e w1 ⟨v', rfl, hlike, hown, hb1⟩
        have L1 := hide (HLA.out.trans (hb1.mono HLA.out.size))
        have CR := HC.out.on L1.out
        have HLI := hide hlike
        have HOW := hide hown
        have z1 : wr.heap.size + 1 ≤ w1.heap.size := by have := hb1.size; simpa using this
        have HR := hide (show w1.ownsRow w.heap.size 51 6 u3 k (flat6 us) by have := CR.row; rw [HU.out] at this; exact this)
        clear s0 s1 s2 s3 s4 s5 hlike hown hb1 CR
        go_wp2_with (at_builtin; (refine wpList_append_lies _ rfl (.tmp 12) (.tmp 15) 33 rfl w.heap.size 51 i0 _ 6 72 Tryz.underlying33 I0.out I1.out I2.out I3.out rfl (by omega) u3 k (flat6 us) rfl (HR.out.alloc _) ⟨w1.heap.size, 0, none⟩ 1 1 (cells6 v') rfl rfl (World.news_of_block (cs := verC v'.k v'.t v'.u v'.a v'.ts.length v'.c v'.s v'.g) (by simpa using heap_alloc_new w1 (.cells (verC v'.k v'.t v'.u v'.a v'.ts.length v'.c v'.s v'.g) 51))) (by simp [cells6, Value.oneCell']) (by omega) (by unfold maxLen; omega) (by omega) (by simp; omega) _ rfl ?_; intro g2 cap2 w2 hown2 hgrow hat hlt2; have OW := hide hown2; have GW := hide hgrow; clear hown2 hgrow hat))
        refine ⟨⟨k + 1, us ++ [v'], by omega, by go_num, ?_, like_step HL.out HU.out HX.out HLI.out, ?_, ((hLL.trans (L1.out.mono hzz)).alloc (by omega) _).grown GW.out (by simp; omega) (fun r hr => (HC.out.typed r hr).elim fun _ h => h.2.1)⟩, by simp [intOf]; omega⟩
        · unfold Hid
          rw [List.length_append, HU.out]
          rfl
        · have hp := HC.out.push (w1 := w1.alloc (.cells (verC v'.k v'.t v'.u v'.a v'.ts.length v'.c v'.s v'.g) 51)) (B := wr.heap.size + 1) (v := v') (g := g2) (cap := cap2) (w2 := w2) (L1.out.trans ((below_alloc1 w1 _).mono L1.out.size)) (by omega) (((by simpa using HOW.out : Own1 w1 (wr.heap.size + 1) w1.heap.size v').on (below_alloc1 w1 _)).wide (by simp)) (by rw [HU.out]; exact OW.out) GW.out
          rw [HU.out] at hp
          exact hp
    · have hkn : k = n := by omega
      subst hkn
      clear hlt
      go_wp2
      go_ret
      exact ⟨_, us, rfl, HU.out.trans HN.out.symm, HL.out, HC.out, hLL⟩

/-- What a copy of a store is. -/
def CopiedStR (w : World) (vs : List V) (e : Ending) (w' : World) : Prop :=
  ∃ (x : Value) (us : List V), e = .returned (.agg #[x]) ∧ us.length = vs.length ∧ Like us vs ∧ CRow w.heap.size w' x us ∧ Below w.heap.size w w'
theorem CRow.down {base base' : Nat} {wr : World} {x : Value} {us : List V} (h : CRow base wr x us) (hb : base' ≤ base) : CRow base' wr x us :=
  ⟨⟨h.row.1, by
    rcases h.row.2 with h | ⟨g, cap, cr, h1, h2, h3⟩
    · exact .inl h
    · exact .inr ⟨g, cap, cr, h1, by omega, h3⟩⟩, fun i v hi => (h.own i v hi).low hb, h.apart, by have := h.lo; omega⟩
theorem store_ne_tag : (35 : TypeId) ≠ 49 := by decide

/-- What the round of copying a store holds. -/
theorem cheld {w w' : World} {n b off k c m : Nat} {v : V} {T : TypeId} {q : Nat × TypeId × Array Value} (Q : Hid (Six w b (off + k * 6) v)) (hb : b < w.heap.size)
    (h : Inv w n [q, (w.heap.size, T, #[.slice (some ⟨b, off, none⟩) m c])] w') :
    Six w' b (off + k * 6) v ∧ w'.cell? ⟨w.heap.size, 0, none⟩ = some (.slice (some ⟨b, off, none⟩) m c) ∧ Inv w n [q, (w.heap.size, T, #[.slice (some ⟨b, off, none⟩) m c])] w' :=
  ⟨Q.out.keep hb fun _ hp => h.below.cell hp, (h.nth 1 rfl).at 0, h⟩
set_option maxRecDepth 100000 in
set_option maxHeartbeats 8000000 in
theorem l2CopyStore_any (a : Option Addr) (c : Nat) (vs : List V) (w : World) (hn : vs.length ≤ 1048576) (hm : ∀ v ∈ vs, v.ts.length ≤ 1048576) (hv : Vg w w.heap.size a vs) :
    Calls Tryz.prog 67 #[.agg #[.slice a vs.length c]] w (CopiedStR w vs) := by
  obtain ⟨i0, hi0, hz0, hz1, hz2⟩ := info_parts ver_info
  have I0 := hide hi0
  have I1 := hide hz0
  have I2 := hide hz1
  have I3 := hide hz2
  clear hi0 hz0 hz1 hz2
  have HM := hide hm
  clear hm
  generalize hnn : vs.length = n at *
  have HN := hide hnn
  clear hnn
  have S0 := ((Inv.start w).box 35 #[.slice a n c]).box 35 #[.slice none 0 0]
  have V0 := Blk.made ((w.alloc (.cells #[.slice a n c] 35)).alloc (.cells #[.slice none 0 0] 35)) 35 #[.slice none 0 0]
  have S1 := S0.alloc (.cells #[.slice none 0 0] 35)
  simp only [World.size_alloc] at S1 V0
  have HC0 := hide (CRow.start (w.heap.size + 1 + 1 + 1) (((w.alloc (.cells #[.slice a n c] 35)).alloc (.cells #[.slice none 0 0] 35)).alloc (.cells #[.slice none 0 0] 35)) (by simp))
  clear S0
  go_enter Tryz.func67, Tryz.ntmps67
  go_wp2
  go_loopw [4] (fun i wr => ∃ (k : Nat) (x : Value) (us : List V), k ≤ n ∧ i = .int .i64 (k : Int) ∧ Blk wr (w.heap.size + 1 + 1) 35 #[x] ∧ Hid (us.length = k) ∧ Hid (Like us vs) ∧ Hid (CRow (w.heap.size + 1 + 1 + 1) wr x us) ∧ Inv w (w.heap.size + 1 + 1) [(w.heap.size + 1, 35, #[.slice none 0 0]), (w.heap.size, 35, #[.slice a n c])] wr) (fun i _ => n - (intOf i).toNat)
  case atStart => exact ⟨0, _, [], Nat.zero_le _, rfl, V0, rfl, fun i v v' hi => by simp at hi, HC0.out, S1⟩
  case round =>
    obtain ⟨k, x, us, hk, rfl, hV, HU, HL, HC, hI⟩ := hrel
    clear S1 V0 HC0
    by_cases hlt : k < n
    · rcases hv with h0 | ⟨b, off, rfl, hb, hx⟩
      · have := HN.out; subst h0; simp at this; omega
      · have hkl : k < vs.length := by have := HN.out; omega
        obtain ⟨hS, hT⟩ := hx k _ (List.getElem?_eq_getElem hkl)
        have HX := hide (List.getElem?_eq_getElem hkl)
        have Q := hide hS
        have HT := hide hT
        generalize vs[k] = v at Q HX HT
        have HB := hide (HM.out v (List.mem_of_getElem? HX.out))
        have jh := fun {w' : World} {n1 m1 : Nat} {q : Nat × TypeId × Array Value} => cheld (w := w) (w' := w') (n := n1) (m := m1) (q := q) (c := c) (T := 35) Q hb
        clear hx hS hT
        have k0 := (hI.nth 1 rfl).one.1
        have i1 : (0 : Int) ≤ (k : Int) := by omega
        have i2 : (k : Int) < (n : Int) := by omega
        obtain ⟨xa, xn, xc, rfl⟩ := HC.out.form
        have HV := hide (HC.out.typed)
        have hlo := HC.out.lo
        have V1 := hV.drew
        have q1 := V1.one.1
        have C1 := hide (HC.out.on (Below.refl _ _).drew)
        go_wp2_with fail
        clear k0
        refine wp_region_noPanic ?_
        refine wp_region_held_drew (S := (fun w' => Six w' b (off + k * 6) v ∧ w'.cell? ⟨w.heap.size, 0, none⟩ = some (.slice (some ⟨b, off, none⟩) n c) ∧ Inv w (w.heap.size + 1 + 1) [(w.heap.size + 1, 35, #[.slice none 0 0]), (w.heap.size, 35, #[.slice (some ⟨b, off, none⟩) n c])] w')) (by kernel_rfl) (by exact jh hI.drew) (fun hHeld => ?_)
        refine take_run 0 (some 13) (v := ?_) rfl rfl (by kernel_rfl) (by kernel_rfl) (by kernel_rfl) (fun _ _ _ h => h) (by rfl) ?_ hHeld ?_
        rotate_left
        · ((intro w hSw); (try dsimp only at hSw); go_simp <;> with_reducible rfl)
        simp only [Act.put, List.setIfInBounds_toArray, List.set_cons_zero, List.set_cons_succ]
        refine take_run 2 (some 15) (v := ?_) rfl rfl (by kernel_rfl) (by kernel_rfl) (by kernel_rfl) (fun _ _ _ h => h) (by rfl) ?_ hHeld ?_
        rotate_left
        · ((intro w hSw); (try dsimp only at hSw); go_simp <;> with_reducible rfl)
        simp only [Act.put, List.setIfInBounds_toArray, List.set_cons_zero, List.set_cons_succ]
        refine take_run 3 (some 16) (v := ?_) rfl rfl (by kernel_rfl) (by kernel_rfl) (by kernel_rfl) (fun _ _ _ h => h) (by rfl) ?_ hHeld ?_
        rotate_left
        · ((intro w hSw); (try dsimp only at hSw); go_simp <;> with_reducible rfl)
        simp only [Act.put, List.setIfInBounds_toArray, List.set_cons_zero, List.set_cons_succ]
        refine take_run 4 (some 17) (v := ?_) rfl rfl (by kernel_rfl) (by kernel_rfl) (by kernel_rfl) (fun _ _ _ h => h) (by rfl) ?_ hHeld ?_
        rotate_left
        · ((intro w hSw); (try dsimp only at hSw); go_simp <;> with_reducible rfl)
        simp only [Act.put, List.setIfInBounds_toArray, List.set_cons_zero, List.set_cons_succ]
        refine take_run 5 (some 18) (v := ?_) rfl rfl (by kernel_rfl) (by kernel_rfl) (by kernel_rfl) (fun _ _ _ h => h) (by rfl) ?_ hHeld ?_
        rotate_left
        · ((intro w hSw); (try dsimp only at hSw); go_simp <;> with_reducible rfl)
        simp only [Act.put, List.setIfInBounds_toArray, List.set_cons_zero, List.set_cons_succ]
        refine take_run 6 (some 19) (v := ?_) rfl rfl (by kernel_rfl) (by kernel_rfl) (by kernel_rfl) (fun _ _ _ h => h) (by rfl) ?_ hHeld ?_
        rotate_left
        · ((intro w hSw); (try dsimp only at hSw); go_simp <;> with_reducible rfl)
        simp only [Act.put, List.setIfInBounds_toArray, List.set_cons_zero, List.set_cons_succ]
        refine wpAnyH_ready (rs := [1, 7]) (by kernel_rfl) (by simp) ?_
        refine AllReadyH.cons rfl (fun K hK => ?_) (AllReadyH.cons rfl (fun K hK => ?_) AllReadyH.nil)
        · skip
          go_simp
          refine hK.out _ _ (by exact hHeld) (fun hHeld => ?_)
          clear hK K
          refine take_one 7 (by kernel_rfl) rfl (fun K hK => ?_)
          go_simp
          (refine (l2Copy_any v _ HB.out ((HT.out.on hHeld.2.2.below).up hHeld.2.2.base)).mono ?_; rintro e w1 ⟨v', rfl, hlike, hown, hb1⟩; have C2 := hide (C1.out.on hb1); have V2 := V1.on hb1; have HLI := hide hlike; have HOW := hide hown; have z1 : wr.heap.size ≤ w1.heap.size := (by have := hb1.size; simpa using this); have HR := hide (show w1.ownsRow (w.heap.size + 1 + 1 + 1) 51 6 (.slice xa xn xc) k (flat6 us) by have := C2.out.row; rw [HU.out] at this; exact this); have HB1 := hide hb1; have q2 := V2.one.1; have q4 := (V2.more (.cells (verC v'.k v'.t v'.u v'.a v'.ts.length v'.c v'.s v'.g) 51)).one.1)
          try go_wp2_with fail
          refine hK.out _ _ (by exact jh (hHeld.2.2.on HB1.out)) (fun hHeld => ?_)
          clear hK K
          refine take_one 8 (by kernel_rfl) rfl (fun K hK => ?_)
          go_simp
          refine hK.out _ _ (by exact jh (hHeld.2.2.alloc _)) (fun hHeld => ?_)
          clear hK K
          refine take_one 9 (by kernel_rfl) rfl (fun K hK => ?_)
          (refine step_append_lies _ (by rfl) _ _ _ (by rfl) (w.heap.size + 1 + 1 + 1) 51 i0 _ 6 72 Tryz.underlying33 I0.out I1.out I2.out I3.out rfl (by omega) (.slice xa xn xc) k (flat6 us) (by rfl) (HR.out.alloc _) ⟨w1.heap.size, 0, none⟩ 1 1 (cells6 v') (by rfl) (by rfl) (World.news_of_block (cs := verC v'.k v'.t v'.u v'.a v'.ts.length v'.c v'.s v'.g) (t := 51) (fr := (0, 0)) (heap_alloc_new w1 _)) (by simp [cells6, Value.oneCell']) (by omega) (by unfold maxLen; omega) (by omega) (by simp; omega) _ rfl ?_; intro g cap w2 hown2 hgrow hat hlt2; have V3 := (V2.more (.cells (verC v'.k v'.t v'.u v'.a v'.ts.length v'.c v'.s v'.g) 51)).kept hgrow (by intro e; have hq := HV.out _ e; obtain ⟨_, _, h1, _⟩ := hq; omega); have q3 := V3.one; have OW := hide hown2; have GW := hide hgrow; clear hown2)
          simp only [List.getElem_toArray, List.getElem_cons_zero, List.getElem_cons_succ, Act.put, List.setIfInBounds_toArray, List.set_cons_zero, List.set_cons_succ]
          refine hK.out _ _ (by exact jh (Inv.grow hHeld.2.2 hgrow (fun g' e => by have hq := HV.out _ e; obtain ⟨_, _, h1, _⟩ := hq; omega))) (fun hHeld => ?_)
          clear hK K
          refine take_run 10 (some 23) (v := ?_) rfl rfl (by kernel_rfl) (by kernel_rfl) (by kernel_rfl) (fun _ _ _ h => h) (by rfl) ?_ hHeld ?_
          rotate_left
          · ((intro w hSw); (try dsimp only at hSw); go_simp <;> with_reducible rfl)
          simp only [Act.put, List.setIfInBounds_toArray, List.set_cons_zero, List.set_cons_succ]
          refine take_one 11 (by kernel_rfl) rfl (fun K hK => ?_)
          go_simp
          refine hK.out _ _ (by exact jh (hHeld.2.2.set (by simp) (by simp; omega) _)) (fun hHeld => ?_)
          clear hK K
          refine wpAnyH_done (by kernel_rfl) ?_ _
          refine NoPanic.normal ?_
          have I9 := hHeld.2.2
          have C9 := HC.out.push (w1 := w1.alloc (.cells (verC v'.k v'.t v'.u v'.a v'.ts.length v'.c v'.s v'.g) 51)) (B := wr.heap.size) (v := v') (g := g) (cap := cap) (w2 := w2) (((Below.refl _ _).drew.trans (HB1.out.mono (Nat.le_refl _))).trans ((below_alloc1 w1 _).mono z1)) (Nat.le_refl _) ((HOW.out.on (below_alloc1 w1 _)).wide (by simp)) (by rw [HU.out]; exact OW.out) GW.out
          rw [HU.out] at C9
          have C10 := hide (C9.aside (p := ⟨w.heap.size + 1 + 1, 0, none⟩) V3 store_ne_tag (by simp only; omega) (.slice (some ⟨g, 0, none⟩) (k + 1) cap))
          have V9 := V3.put 0 (.slice (some ⟨g, 0, none⟩) (k + 1) cap)
          have HL9 := hide (like_step HL.out HU.out HX.out HLI.out)
          have HU9 : Hid ((us ++ [v']).length = k + 1) := (by unfold Hid; rw [List.length_append, HU.out]; rfl)
          clear hHeld V3 q3 q1 q2 q4 V1 V2 C9 C1 C2 HC
          go_wp2
          exact ⟨⟨k + 1, _, _, by omega, by go_num, V9, HU9, HL9, C10, I9⟩, by simp [intOf]; omega⟩
        · skip
          go_simp
          (refine (l2Copy_any v _ HB.out ((HT.out.on hHeld.2.2.below).up hHeld.2.2.base)).mono ?_; rintro e w1 ⟨v', rfl, hlike, hown, hb1⟩; have C2 := hide (C1.out.on hb1); have V2 := V1.on hb1; have HLI := hide hlike; have HOW := hide hown; have z1 : wr.heap.size ≤ w1.heap.size := (by have := hb1.size; simpa using this); have HR := hide (show w1.ownsRow (w.heap.size + 1 + 1 + 1) 51 6 (.slice xa xn xc) k (flat6 us) by have := C2.out.row; rw [HU.out] at this; exact this); have HB1 := hide hb1; have q2 := V2.one.1; have q4 := (V2.more (.cells (verC v'.k v'.t v'.u v'.a v'.ts.length v'.c v'.s v'.g) 51)).one.1)
          try go_wp2_with fail
          refine hK.out _ _ (by exact jh (hHeld.2.2.on HB1.out)) (fun hHeld => ?_)
          clear hK K
          refine wpAnyH_ready (rs := [1, 8]) (by kernel_rfl) (by simp) ?_
          refine AllReadyH.cons rfl (fun K hK => ?_) (AllReadyH.cons rfl (fun K hK => ?_) AllReadyH.nil)
          · skip
            go_simp
            refine hK.out _ _ (by exact hHeld) (fun hHeld => ?_)
            clear hK K
            refine take_one 8 (by kernel_rfl) rfl (fun K hK => ?_)
            go_simp
            refine hK.out _ _ (by exact jh (hHeld.2.2.alloc _)) (fun hHeld => ?_)
            clear hK K
            refine take_one 9 (by kernel_rfl) rfl (fun K hK => ?_)
            (refine step_append_lies _ (by rfl) _ _ _ (by rfl) (w.heap.size + 1 + 1 + 1) 51 i0 _ 6 72 Tryz.underlying33 I0.out I1.out I2.out I3.out rfl (by omega) (.slice xa xn xc) k (flat6 us) (by rfl) (HR.out.alloc _) ⟨w1.heap.size, 0, none⟩ 1 1 (cells6 v') (by rfl) (by rfl) (World.news_of_block (cs := verC v'.k v'.t v'.u v'.a v'.ts.length v'.c v'.s v'.g) (t := 51) (fr := (0, 0)) (heap_alloc_new w1 _)) (by simp [cells6, Value.oneCell']) (by omega) (by unfold maxLen; omega) (by omega) (by simp; omega) _ rfl ?_; intro g cap w2 hown2 hgrow hat hlt2; have V3 := (V2.more (.cells (verC v'.k v'.t v'.u v'.a v'.ts.length v'.c v'.s v'.g) 51)).kept hgrow (by intro e; have hq := HV.out _ e; obtain ⟨_, _, h1, _⟩ := hq; omega); have q3 := V3.one; have OW := hide hown2; have GW := hide hgrow; clear hown2)
            simp only [List.getElem_toArray, List.getElem_cons_zero, List.getElem_cons_succ, Act.put, List.setIfInBounds_toArray, List.set_cons_zero, List.set_cons_succ]
            refine hK.out _ _ (by exact jh (Inv.grow hHeld.2.2 hgrow (fun g' e => by have hq := HV.out _ e; obtain ⟨_, _, h1, _⟩ := hq; omega))) (fun hHeld => ?_)
            clear hK K
            refine take_run 10 (some 23) (v := ?_) rfl rfl (by kernel_rfl) (by kernel_rfl) (by kernel_rfl) (fun _ _ _ h => h) (by rfl) ?_ hHeld ?_
            rotate_left
            · ((intro w hSw); (try dsimp only at hSw); go_simp <;> with_reducible rfl)
            simp only [Act.put, List.setIfInBounds_toArray, List.set_cons_zero, List.set_cons_succ]
            refine take_one 11 (by kernel_rfl) rfl (fun K hK => ?_)
            go_simp
            refine hK.out _ _ (by exact jh (hHeld.2.2.set (by simp) (by simp; omega) _)) (fun hHeld => ?_)
            clear hK K
            refine wpAnyH_done (by kernel_rfl) ?_ _
            refine NoPanic.normal ?_
            have I9 := hHeld.2.2
            have C9 := HC.out.push (w1 := w1.alloc (.cells (verC v'.k v'.t v'.u v'.a v'.ts.length v'.c v'.s v'.g) 51)) (B := wr.heap.size) (v := v') (g := g) (cap := cap) (w2 := w2) (((Below.refl _ _).drew.trans (HB1.out.mono (Nat.le_refl _))).trans ((below_alloc1 w1 _).mono z1)) (Nat.le_refl _) ((HOW.out.on (below_alloc1 w1 _)).wide (by simp)) (by rw [HU.out]; exact OW.out) GW.out
            rw [HU.out] at C9
            have C10 := hide (C9.aside (p := ⟨w.heap.size + 1 + 1, 0, none⟩) V3 store_ne_tag (by simp only; omega) (.slice (some ⟨g, 0, none⟩) (k + 1) cap))
            have V9 := V3.put 0 (.slice (some ⟨g, 0, none⟩) (k + 1) cap)
            have HL9 := hide (like_step HL.out HU.out HX.out HLI.out)
            have HU9 : Hid ((us ++ [v']).length = k + 1) := (by unfold Hid; rw [List.length_append, HU.out]; rfl)
            clear hHeld V3 q3 q1 q2 q4 V1 V2 C9 C1 C2 HC
            go_wp2
            exact ⟨⟨k + 1, _, _, by omega, by go_num, V9, HU9, HL9, C10, I9⟩, by simp [intOf]; omega⟩
          · skip
            go_simp
            refine hK.out _ _ (by exact jh (hHeld.2.2.alloc _)) (fun hHeld => ?_)
            clear hK K
            refine take_one 1 (by kernel_rfl) rfl (fun K hK => ?_)
            go_simp
            refine hK.out _ _ (by exact hHeld) (fun hHeld => ?_)
            clear hK K
            refine take_one 9 (by kernel_rfl) rfl (fun K hK => ?_)
            (refine step_append_lies _ (by rfl) _ _ _ (by rfl) (w.heap.size + 1 + 1 + 1) 51 i0 _ 6 72 Tryz.underlying33 I0.out I1.out I2.out I3.out rfl (by omega) (.slice xa xn xc) k (flat6 us) (by rfl) (HR.out.alloc _) ⟨w1.heap.size, 0, none⟩ 1 1 (cells6 v') (by rfl) (by rfl) (World.news_of_block (cs := verC v'.k v'.t v'.u v'.a v'.ts.length v'.c v'.s v'.g) (t := 51) (fr := (0, 0)) (heap_alloc_new w1 _)) (by simp [cells6, Value.oneCell']) (by omega) (by unfold maxLen; omega) (by omega) (by simp; omega) _ rfl ?_; intro g cap w2 hown2 hgrow hat hlt2; have V3 := (V2.more (.cells (verC v'.k v'.t v'.u v'.a v'.ts.length v'.c v'.s v'.g) 51)).kept hgrow (by intro e; have hq := HV.out _ e; obtain ⟨_, _, h1, _⟩ := hq; omega); have q3 := V3.one; have OW := hide hown2; have GW := hide hgrow; clear hown2)
            simp only [List.getElem_toArray, List.getElem_cons_zero, List.getElem_cons_succ, Act.put, List.setIfInBounds_toArray, List.set_cons_zero, List.set_cons_succ]
            refine hK.out _ _ (by exact jh (Inv.grow hHeld.2.2 hgrow (fun g' e => by have hq := HV.out _ e; obtain ⟨_, _, h1, _⟩ := hq; omega))) (fun hHeld => ?_)
            clear hK K
            refine take_run 10 (some 23) (v := ?_) rfl rfl (by kernel_rfl) (by kernel_rfl) (by kernel_rfl) (fun _ _ _ h => h) (by rfl) ?_ hHeld ?_
            rotate_left
            · ((intro w hSw); (try dsimp only at hSw); go_simp <;> with_reducible rfl)
            simp only [Act.put, List.setIfInBounds_toArray, List.set_cons_zero, List.set_cons_succ]
            refine take_one 11 (by kernel_rfl) rfl (fun K hK => ?_)
            go_simp
            refine hK.out _ _ (by exact jh (hHeld.2.2.set (by simp) (by simp; omega) _)) (fun hHeld => ?_)
            clear hK K
            refine wpAnyH_done (by kernel_rfl) ?_ _
            refine NoPanic.normal ?_
            have I9 := hHeld.2.2
            have C9 := HC.out.push (w1 := w1.alloc (.cells (verC v'.k v'.t v'.u v'.a v'.ts.length v'.c v'.s v'.g) 51)) (B := wr.heap.size) (v := v') (g := g) (cap := cap) (w2 := w2) (((Below.refl _ _).drew.trans (HB1.out.mono (Nat.le_refl _))).trans ((below_alloc1 w1 _).mono z1)) (Nat.le_refl _) ((HOW.out.on (below_alloc1 w1 _)).wide (by simp)) (by rw [HU.out]; exact OW.out) GW.out
            rw [HU.out] at C9
            have C10 := hide (C9.aside (p := ⟨w.heap.size + 1 + 1, 0, none⟩) V3 store_ne_tag (by simp only; omega) (.slice (some ⟨g, 0, none⟩) (k + 1) cap))
            have V9 := V3.put 0 (.slice (some ⟨g, 0, none⟩) (k + 1) cap)
            have HL9 := hide (like_step HL.out HU.out HX.out HLI.out)
            have HU9 : Hid ((us ++ [v']).length = k + 1) := (by unfold Hid; rw [List.length_append, HU.out]; rfl)
            clear hHeld V3 q3 q1 q2 q4 V1 V2 C9 C1 C2 HC
            go_wp2
            exact ⟨⟨k + 1, _, _, by omega, by go_num, V9, HU9, HL9, C10, I9⟩, by simp [intOf]; omega⟩
    · have hkn : k = n := by omega
      subst hkn
      clear hlt
      obtain ⟨xa, xn, xc, rfl⟩ := HC.out.form
      have q0 := hV.one
      have q1 := (hI.nth 0 rfl).one
      have q5 := (hI.nth 1 rfl).one
      have hL := hI.below
      have B1 := hI.nth 0 rfl
      go_wp2
      refine bodyPost_ret (v := .agg #[.slice xa xn xc]) (by simp [results, Tryz.results67, go_sem, q1]) rfl ?_
      exact ⟨_, us, rfl, HU.out.trans HN.out.symm, HL.out, (HC.out.aside (p := ⟨w.heap.size + 1, 0, none⟩) B1 store_ne_tag (by simp only; omega) _).down (by omega), hL.setCell (by simp) _⟩
end Go.Proofs.YtjnloillcgeodaaGreat
/- Contracts of the functions that gather a store's tags, in the program and in the model. Condition: a valid store. -/
namespace Go.Proofs.YtjnloillcgeodaaGreat
open Go.RowKit Go.Joins
attribute [local go_sem ↓] Go.wp_at_zero Go.wp_at_succ

/-- The tags of these versions. -/
def tagsL (vs : List V) : List (Int × Int) := vs.map fun v => (v.t, v.u)
theorem tagsL_at {vs : List V} {k : Nat} {v : V} (h : vs[k]? = some v) : (tagsL vs)[k]? = some (v.t, v.u) := by unfold tagsL; rw [List.getElem?_map, h]; rfl
theorem tagsL_len (vs : List V) : (tagsL vs).length = vs.length := by unfold tagsL; simp
theorem storeB_four {vs : List V} (h : storeB vs = true) : vs.length = 4 := by
  apply Classical.byContradiction
  intro hn
  rw [storeB_len hn] at h
  cases h

set_option maxRecDepth 100000 in
set_option maxHeartbeats 2000000 in
theorem implStoreTags_ok (a : Option Addr) (c : Nat) (vs : List V) (w : World) (hok : storeB vs = true) (hm : Small vs) (hv : Vg w w.heap.size a vs) :
    Calls Tryz.prog 45 #[.agg #[.slice a 4 c]] w (JoinedP w (tagsL vs)) := by
  have h4 := storeB_four hok
  have H4 := hide h4
  have S0 := ((Inv.start w).box 35 #[.slice a 4 c]).box 41 #[.slice none 0 0]
  simp only [World.size_alloc] at S0
  have C0 := implStoreOk_any a c vs _ (by omega) hm ((hv.on S0.below).up S0.base)
  rw [h4, hok] at C0
  have HM := hide hm
  clear hm h4 hok
  go_enter Tryz.func45, Tryz.ntmps45
  go_wp2_with fail
  refine C0.mono ?_
  rintro e w1 ⟨rfl, hb1⟩
  have S1 := (S0.on hb1).alloc (.cells zero8 84)
  have hr1 := (S0.on hb1).top
  have hz1 : w.heap.size + 1 + 1 ≤ w1.heap.size := (S0.on hb1).room
  have V0 := Blk.made w1 84 zero8
  have k0 := (S1.nth 1 rfl).one.1
  have k9 := ((S0.on hb1).nth 1 rfl).one.1
  have hlt0 : w.heap.size < w1.heap.size := by omega
  have S2 := (hr1.box 84 zero8)
  clear S0 C0 hb1 hr1
  go_wp2
  go_loopw [13] (fun i wr => ∃ (k : Nat) (cur : Array Value), k ≤ 4 ∧ i = .int .i64 (k : Int) ∧ Blk wr w1.heap.size 84 cur ∧ cur.size = 8 ∧ Hid (∀ j x, j < k → (tagsL vs)[j]? = some x → TagAt cur j x) ∧ Inv w (w.heap.size + 1 + 1) [(w.heap.size + 1, 41, #[.slice none 0 0]), (w.heap.size, 35, #[.slice a 4 c])] wr) (fun i _ => 4 - (intOf i).toNat)
  case atStart => exact ⟨0, _, Nat.zero_le _, rfl, V0, rfl, fun j x hj => absurd hj (by omega), S1⟩
  case round =>
    obtain ⟨k, cur, hk, rfl, hV, hsz, hcur, hI⟩ := hrel
    clear S1 S2 V0 k0 k9
    have hL := hI.below
    by_cases hlt : k < 4
    · rcases hv with e0 | ⟨b, off, rfl, hb, hx⟩
      · have := H4.out; subst e0; simp at this
      · have hkl : k < vs.length := by have := H4.out; omega
        obtain ⟨hS, -⟩ := hx k _ (List.getElem?_eq_getElem hkl)
        have HX := hide (List.getElem?_eq_getElem hkl)
        have hS' := hS.keep hb fun _ hp => hL.cell hp
        generalize vs[k] = v at hS' HX
        have HS := hide (tagAt_step (ts := tagsL vs) (show k * 2 + 1 < cur.size by omega) (tagsL_at HX.out) hcur.out)
        obtain ⟨vk, vt, vu, va, vc, vts, vs', vg⟩ := v
        simp only at hS' HS
        clear hS hx hcur
        have i1 : (0 : Int) ≤ (k : Int) := by omega
        have i2 : (k : Int) < 4 := by omega
        have V1 := hV.more (.cells (verC vk vt vu va vts.length vc vs' vg) 51)
        have hin := hV.inside
        have hs0 : k * 2 < cur.size := by omega
        have hs1 : k * 2 + 1 < cur.size := by omega
        have d0 : wr.cell? ⟨w1.heap.size, k * 2, none⟩ = some cur[k * 2] := by rw [hV.at]; exact Array.getElem?_eq_getElem hs0
        have d1 : wr.cell? ⟨w1.heap.size, k * 2 + 1, none⟩ = some cur[k * 2 + 1] := by rw [hV.at]; exact Array.getElem?_eq_getElem hs1
        have f0 := hV.loose (k * 2)
        have f1 := hV.loose (k * 2 + 1)
        have d0' : (wr.alloc (.cells (verC vk vt vu va vts.length vc vs' vg) 51)).cell? ⟨w1.heap.size, k * 2, none⟩ = some cur[k * 2] := by rw [V1.at]; exact Array.getElem?_eq_getElem hs0
        have d1' : (wr.alloc (.cells (verC vk vt vu va vts.length vc vs' vg) 51)).cell? ⟨w1.heap.size, k * 2 + 1, none⟩ = some cur[k * 2 + 1] := by rw [V1.at]; exact Array.getElem?_eq_getElem hs1
        have f0' := V1.loose (k * 2)
        have f1' := V1.loose (k * 2 + 1)
        go_wp2
        exact ⟨⟨k + 1, _, by omega, by go_num, ((hV.put _ _).put _ _).more _, by simp [hsz], HS, ((hI.set (by simp only; omega) (by simp only; omega) _).set (by simp only; omega) (by simp only; omega) _).alloc _⟩, by simp [intOf]; omega⟩
    · have hk4 : k = 4 := by omega
      subst hk4
      clear hlt
      have hl4 : (tagsL vs).length = 4 := (tagsL_len vs).trans H4.out
      obtain ⟨x0, x1, x2, x3, hts, hcu⟩ := cur4 hsz hl4 (fun j x hx => hcur.out j x (by have := (List.getElem?_eq_some_iff.1 hx).1; omega) hx)
      have HT := hide hts
      clear hcur hts hl4
      subst hcu
      have E1 := hV.eight
      go_wp2_with fail
      refine (past_any x0 x1 x2 x3 wr).mono ?_
      rintro e w5 ⟨g, cap, T, cu, rfl, hg, hB, hsz5, hcu5, hb5⟩
      have I5 := hI.on hb5
      have q1 := (I5.nth 0 rfl).one
      have hL5 := I5.below
      have hwr := hI.room
      have HC := hide hcu5
      clear hcu5 hI I5 E1 hV
      go_wp2
      refine bodyPost_ret (v := .agg #[.slice (some ⟨g, 0, none⟩) 4 cap]) (by simp [results, Tryz.results45, go_sem, q1]) rfl ?_
      exact ⟨g, cap, T, cu, rfl, by omega, hB.aside (by simp; omega) _, hsz5, by rw [HT.out]; exact HC.out, hL5.setCell (by simp) _⟩

end Go.Proofs.YtjnloillcgeodaaGreat
