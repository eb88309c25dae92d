/- Contracts of the functions that copy a row of versions, of program and model. Condition: at most 1048576 versions, and causes of each. -/
import Derived.Test.YtjnloillcgeodaaGreatJVerClone
import Derived.Test.YtjnloillcgeodaaGreatJStoreOk
import Derived.Deep.AppendLies
namespace Go.Proofs.YtjnloillcgeodaaGreat
open Go.RowKit Go.Joins
attribute [local go_sem ↓] Go.wp_at_zero Go.wp_at_succ

/-- The cells of a row of versions. -/
def cells6 (v : V) : List Value := [.int .i64 v.k, .int .i64 v.t, .int .i64 v.u, .slice v.a v.ts.length v.c, .string v.s, .bool v.g]
def flat6 (us : List V) : List Value := us.flatMap cells6
theorem flat6_snoc (us : List V) (v : V) : flat6 (us ++ [v]) = flat6 us ++ cells6 v := by simp [flat6]
theorem flat6_len (us : List V) : (flat6 us).length = us.length * 6 := by
  induction us with
  | nil => rfl
  | cons x r ih => simp [flat6, cells6] at *; omega
theorem flat6_at : ∀ (us : List V) (i : Nat) (v : V) (m : Nat), us[i]? = some v → m < 6 → (flat6 us)[i * 6 + m]? = (cells6 v)[m]?
  | [], i, v, m, h, _ => by simp at h
  | x :: r, 0, v, m, h, hm => by
    simp at h
    subst h
    have e : flat6 (x :: r) = cells6 x ++ flat6 r := by simp [flat6]
    rw [e, Nat.zero_mul, Nat.zero_add, List.getElem?_append_left (by simp [cells6]; omega)]
  | x :: r, i + 1, v, m, h, hm => by
    have e : flat6 (x :: r) = cells6 x ++ flat6 r := by simp [flat6]
    have h6 : (cells6 x).length = 6 := rfl
    rw [e, List.getElem?_append_right (by omega), h6]
    have : (i + 1) * 6 + m - 6 = i * 6 + m := by omega
    rw [this]
    exact flat6_at r i v m (by simpa using h) hm
theorem verAt_of {cur : Array Value} {us : List V} {n : Nat} (h : cur.toList.take n = flat6 us) (i : Nat) (v : V) (hi : us[i]? = some v) : VerAt cur i v := by
  have key : ∀ m, m < 6 → cur[i * 6 + m]? = (cells6 v)[m]? := by
    intro m hm
    have h1 := flat6_at us i v m hi hm
    rw [← h] at h1
    have h2 : ∃ u, (cells6 v)[m]? = some u := ⟨_, List.getElem?_eq_getElem (by simp [cells6]; omega)⟩
    obtain ⟨u, hu⟩ := h2
    rw [hu] at h1 ⊢
    obtain ⟨hl, _⟩ := List.getElem?_eq_some_iff.1 h1
    rw [List.length_take] at hl
    rw [List.getElem?_take_of_lt (by omega)] at h1
    simpa using h1
  exact ⟨key 0 (by omega), key 1 (by omega), key 2 (by omega), key 3 (by omega), key 4 (by omega), key 5 (by omega)⟩

/-- A row of copies as it grows. -/
structure CRow (base : Nat) (wr : World) (x : Value) (us : List V) : Prop where
  row : wr.ownsRow base 51 6 x us.length (flat6 us)
  own : ∀ (i : Nat) v, us[i]? = some v → Own1 wr base wr.heap.size v
  apart : ∀ (i j : Nat) v v', i ≠ j → us[i]? = some v → us[j]? = some v' → v.ts ≠ [] → v'.ts ≠ [] → v.a ≠ v'.a
  lo : base ≤ wr.heap.size
theorem CRow.start (base : Nat) (w : World) (h : base ≤ w.heap.size) : CRow base w (.slice none 0 0) [] :=
  ⟨World.ownsRow_nil _ _ _ _, fun i v h => by simp at h, fun i j v v' _ h => by simp at h, h⟩
theorem CRow.typed {base : Nat} {wr : World} {x : Value} {us : List V} (h : CRow base wr x us) (r : Nat) (hr : x.ownBlock = some r) : ∃ cs, Blk wr r 51 cs ∧ base ≤ r ∧ r < wr.heap.size := by
  rcases h.row.2 with ⟨rfl, _⟩ | ⟨g', cap, cr, rfl, hg', hb', _⟩
  · simp [Value.ownBlock] at hr
  · simp [Value.ownBlock] at hr
    subst hr
    exact ⟨cr, hb', hg', Blk.inside hb'⟩
theorem CRow.form {base : Nat} {wr : World} {x : Value} {us : List V} (h : CRow base wr x us) : ∃ A n c, x = .slice A n c := by
  rcases h.row.2 with ⟨rfl, _⟩ | ⟨g', cap, cr, rfl, hg', hb', _⟩
  · exact ⟨_, _, _, rfl⟩
  · exact ⟨_, _, _, rfl⟩
theorem CRow.on {base : Nat} {wr w2 : World} {x : Value} {us : List V} (h : CRow base wr x us) (hb : Below wr.heap.size wr w2) : CRow base w2 x us :=
  ⟨World.ownsRow.kept h.row (grown_none (row := none) hb) (Classical.em _), fun i v hi => ((h.own i v hi).on hb).wide hb.size, h.apart, Nat.le_trans h.lo hb.size⟩
/-- A store into a block below the row's, that holds no tags. -/
theorem CRow.aside {base : Nat} {wr : World} {x : Value} {us : List V} (h : CRow base wr x us) {p : Addr} {T : TypeId} {cs : Array Value} (hb : Blk wr p.block T cs) (hT : T ≠ 49) (hp : p.block < base) (u : Value) : CRow base (wr.setCell p u) x us :=
  ⟨ownsRow_setCell_below h.row hp u, fun i v hi => by
    have := (h.own i v hi).tk (.set hb hT u)
    simpa [World.setCell] using this, h.apart, by simpa [World.setCell] using h.lo⟩
/-- One copy more. -/
theorem CRow.push {base : Nat} {wr w1 w2 : World} {x : Value} {us : List V} {v : V} {B g cap : Nat} (h : CRow base wr x us) (hb : Below wr.heap.size wr w1) (hB : wr.heap.size ≤ B) (ho : Own1 w1 B w1.heap.size v)
    (hown : w2.ownsRow base 51 6 (.slice (some ⟨g, 0, none⟩) (us.length + 1) cap) (us.length + 1) (flat6 us ++ cells6 v)) (hg : w1.grownBy w2 x.ownBlock) : CRow base w2 (.slice (some ⟨g, 0, none⟩) (us.length + 1) cap) (us ++ [v]) := by
  have hk : Tk w1 w2 := .grown hg fun r hr => by
    obtain ⟨cs, h1, _⟩ := h.typed r hr
    exact ⟨_, _, h1.on hb, ver_ne_tag⟩
  have zb := h.lo
  have z1 := hb.size
  have z2 := hg.size
  have hget : ∀ (i : Nat) y, (us ++ [v])[i]? = some y → (i = us.length ∧ y = v) ∨ (i < us.length ∧ us[i]? = some y) := by
    intro i y hy
    by_cases e : i < us.length
    · rw [List.getElem?_append_left e] at hy
      exact .inr ⟨e, hy⟩
    · rw [List.getElem?_append_right (by omega)] at hy
      have h0 : i - us.length = 0 := by
        have := (List.getElem?_eq_some_iff.1 hy).1
        simp at this
        omega
      rw [h0] at hy
      simp at hy
      exact .inl ⟨by omega, hy.symm⟩
  have hap : ∀ (i : Nat) y, us[i]? = some y → y.ts ≠ [] → v.ts ≠ [] → y.a ≠ v.a := by
    intro i y hy hn hn'
    rcases h.own i y hy with h0 | ⟨g1, _, e1, _, q1, _⟩
    · exact absurd h0 hn
    · rcases ho with h0 | ⟨g2, _, e2, q2, _⟩
      · exact absurd h0 hn'
      · rw [e1, e2]
        intro e
        injection e with e
        injection e with e
        omega
  refine ⟨by simpa [flat6_snoc] using hown, fun i y hy => ?_, fun i j y y' hne hy hy' hn hn' => ?_, by omega⟩
  · rcases hget i y hy with ⟨rfl, rfl⟩ | ⟨_, hy⟩
    · exact ((ho.low (by omega)).tk hk).wide z2
    · exact ((((h.own i y hy).on hb).wide z1).tk hk).wide z2
  · rcases hget i y hy with ⟨e1, e2⟩ | ⟨e, hq⟩ <;> rcases hget j y' hy' with ⟨e3, e4⟩ | ⟨e', hq'⟩
    · omega
    · rw [e2]; exact fun e => hap j y' hq' hn' (e2 ▸ hn) e.symm
    · rw [e4]; exact hap i y hq hn (e4 ▸ hn')
    · exact h.apart i j y y' hne hq hq' hn hn'

/-- A row of versions that a call has made: none, or in a block of its own. -/
def ResV (w : World) (B U : Nat) (x : Value) (us : List V) : Prop :=
  (us = [] ∧ ∃ A cap, x = .slice A 0 cap) ∨ ∃ G cap cur, x = .slice (some ⟨G, 0, none⟩) us.length cap ∧ ORow w B U G us cur
theorem CRow.res {base : Nat} {wr : World} {x : Value} {us : List V} (h : CRow base wr x us) : ResV wr base wr.heap.size x us := by
  rcases h.row.2 with ⟨rfl, e⟩ | ⟨g', cap, cr, rfl, hg', hb', hn, hm, hs, ht⟩
  · exact .inl ⟨List.length_eq_zero_iff.1 (by omega), none, 0, rfl⟩
  · exact .inr ⟨g', cap, cr, rfl, hb', hg', Blk.inside hb', by omega, verAt_of ht, h.own, h.apart⟩
/-- What a copy of a row is. -/
def CopiedR (w : World) (vs : List V) (e : Ending) (w' : World) : Prop :=
  ∃ (x : Value) (us : List V), e = .returned x ∧ us.length = vs.length ∧ Like us vs ∧ CRow w.heap.size w' x us ∧ Below w.heap.size w w'

set_option maxRecDepth 100000 in
set_option maxHeartbeats 4000000 in
theorem copyVers_any (a : Option Addr) (c : Nat) (vs : List V) (w : World) (hn : vs.length ≤ 1048576) (hm : ∀ v ∈ vs, v.ts.length ≤ 1048576) (hv : Vg w w.heap.size a vs) :
    Calls Tryz.prog 74 #[.slice a vs.length c] w (CopiedR w vs) := by
  obtain ⟨i0, hi0, hz0, hz1, hz2⟩ := info_parts ver_info
  have I0 := hide hi0
  have I1 := hide hz0
  have I2 := hide hz1
  have I3 := hide hz2
  clear hi0 hz0 hz1 hz2
  have HM := hide hm
  clear hm
  generalize hnn : vs.length = n at *
  have HN := hide hnn
  clear hnn
  go_enter Tryz.func74, Tryz.ntmps74
  go_wp2
  go_loopw [3, 8] (fun x i wr => ∃ (k : Nat) (us : List V), k ≤ n ∧ i = .int .i64 (k : Int) ∧ Hid (us.length = k) ∧ Hid (Like us vs) ∧ Hid (CRow w.heap.size wr x us) ∧ Below w.heap.size w wr) (fun _ i _ => n - (intOf i).toNat)
  case atStart => exact ⟨0, [], Nat.zero_le _, rfl, rfl, fun i v v' hi => by simp at hi, CRow.start _ w (Nat.le_refl _), Below.refl _ _⟩
  case round =>
    obtain ⟨k, us, hk, rfl, HU, HL, HC, hLL⟩ := hrel
    by_cases hlt : k < n
    · rcases hv with h0 | ⟨b, off, rfl, hb, hx⟩
      · have := HN.out; subst h0; simp at this; omega
      · have hkl : k < vs.length := by have := HN.out; omega
        obtain ⟨hS, hT⟩ := hx k _ (List.getElem?_eq_getElem hkl)
        have HX := hide (List.getElem?_eq_getElem hkl)
        generalize vs[k] = v at hS hT HX
        have HB := hide (HM.out v (List.mem_of_getElem? HX.out))
        have hL := hLL
        obtain ⟨s0, s1, s2, s3, s4, s5⟩ := hS.keep hb fun _ hp => hL.cell hp
        have hzz := hL.size
        have HT := hide (((hT.on hL).up hzz))
        have i1 : (0 : Int) ≤ (k : Int) := by omega
        have i2 : (k : Int) < (n : Int) := by omega
        have LA := below_alloc1 wr (.cells (verC v.k v.t v.u v.a v.ts.length v.c v.s v.g) 51)
        have HLA := hide LA
        have hbw : b < wr.heap.size := by omega
        clear hS hT hx hL LA
        go_wp2_with fail
        refine (clone_any v _ HB.out ((HT.out.on HLA.out).up HLA.out.size)).mono ?_
        rintro e w1 ⟨v', rfl, hlike, hown, hb1⟩
        have L1 := hide (HLA.out.trans (hb1.mono HLA.out.size))
        have CR := HC.out.on L1.out
        have HLI := hide hlike
        have HOW := hide hown
        have z1 : wr.heap.size + 1 ≤ w1.heap.size := by have := hb1.size; simpa using this
        have HR := hide (show w1.ownsRow w.heap.size 51 6 u3 k (flat6 us) by have := CR.row; rw [HU.out] at this; exact this)
        clear s0 s1 s2 s3 s4 s5 hlike hown hb1 CR
        go_wp2_with (at_builtin; (refine wpList_append_lies _ rfl (.tmp 12) (.tmp 15) 33 rfl w.heap.size 51 i0 _ 6 72 Tryz.underlying33 I0.out I1.out I2.out I3.out rfl (by omega) u3 k (flat6 us) rfl (HR.out.alloc _) ⟨w1.heap.size, 0, none⟩ 1 1 (cells6 v') rfl rfl (World.news_of_block (cs := verC v'.k v'.t v'.u v'.a v'.ts.length v'.c v'.s v'.g) (by simpa using heap_alloc_new w1 (.cells (verC v'.k v'.t v'.u v'.a v'.ts.length v'.c v'.s v'.g) 51))) (by simp [cells6, Value.oneCell']) (by omega) (by unfold maxLen; omega) (by omega) (by simp; omega) _ rfl ?_; intro g2 cap2 w2 hown2 hgrow hat hlt2; have OW := hide hown2; have GW := hide hgrow; clear hown2 hgrow hat))
        refine ⟨⟨k + 1, us ++ [v'], by omega, by go_num, ?_, like_step HL.out HU.out HX.out HLI.out, ?_, ((hLL.trans (L1.out.mono hzz)).alloc (by omega) _).grown GW.out (by simp; omega) (fun r hr => (HC.out.typed r hr).elim fun _ h => h.2.1)⟩, by simp [intOf]; omega⟩
        · unfold Hid
          rw [List.length_append, HU.out]
          rfl
        · have hp := HC.out.push (w1 := w1.alloc (.cells (verC v'.k v'.t v'.u v'.a v'.ts.length v'.c v'.s v'.g) 51)) (B := wr.heap.size + 1) (v := v') (g := g2) (cap := cap2) (w2 := w2) (L1.out.trans ((below_alloc1 w1 _).mono L1.out.size)) (by omega) (((by simpa using HOW.out : Own1 w1 (wr.heap.size + 1) w1.heap.size v').on (below_alloc1 w1 _)).wide (by simp)) (by rw [HU.out]; exact OW.out) GW.out
          rw [HU.out] at hp
          exact hp
    · have hkn : k = n := by omega
      subst hkn
      clear hlt
      go_wp2
      go_ret
      exact ⟨_, us, rfl, HU.out.trans HN.out.symm, HL.out, HC.out, hLL⟩

/-- What a copy of a store is. -/
def CopiedStR (w : World) (vs : List V) (e : Ending) (w' : World) : Prop :=
  ∃ (x : Value) (us : List V), e = .returned (.agg #[x]) ∧ us.length = vs.length ∧ Like us vs ∧ CRow w.heap.size w' x us ∧ Below w.heap.size w w'
theorem CRow.down {base base' : Nat} {wr : World} {x : Value} {us : List V} (h : CRow base wr x us) (hb : base' ≤ base) : CRow base' wr x us :=
  ⟨⟨h.row.1, by
    rcases h.row.2 with h | ⟨g, cap, cr, h1, h2, h3⟩
    · exact .inl h
    · exact .inr ⟨g, cap, cr, h1, by omega, h3⟩⟩, fun i v hi => (h.own i v hi).low hb, h.apart, by have := h.lo; omega⟩
theorem store_ne_tag : (35 : TypeId) ≠ 49 := by decide

/-- What the round of copying a store holds. -/
theorem cheld {w w' : World} {n b off k c m : Nat} {v : V} {T : TypeId} {q : Nat × TypeId × Array Value} (Q : Hid (Six w b (off + k * 6) v)) (hb : b < w.heap.size)
    (h : Inv w n [q, (w.heap.size, T, #[.slice (some ⟨b, off, none⟩) m c])] w') :
    Six w' b (off + k * 6) v ∧ w'.cell? ⟨w.heap.size, 0, none⟩ = some (.slice (some ⟨b, off, none⟩) m c) ∧ Inv w n [q, (w.heap.size, T, #[.slice (some ⟨b, off, none⟩) m c])] w' :=
  ⟨Q.out.keep hb fun _ hp => h.below.cell hp, (h.nth 1 rfl).at 0, h⟩
set_option maxRecDepth 100000 in
set_option maxHeartbeats 8000000 in
theorem l2CopyStore_any (a : Option Addr) (c : Nat) (vs : List V) (w : World) (hn : vs.length ≤ 1048576) (hm : ∀ v ∈ vs, v.ts.length ≤ 1048576) (hv : Vg w w.heap.size a vs) :
    Calls Tryz.prog 67 #[.agg #[.slice a vs.length c]] w (CopiedStR w vs) := by
  obtain ⟨i0, hi0, hz0, hz1, hz2⟩ := info_parts ver_info
  have I0 := hide hi0
  have I1 := hide hz0
  have I2 := hide hz1
  have I3 := hide hz2
  clear hi0 hz0 hz1 hz2
  have HM := hide hm
  clear hm
  generalize hnn : vs.length = n at *
  have HN := hide hnn
  clear hnn
  have S0 := ((Inv.start w).box 35 #[.slice a n c]).box 35 #[.slice none 0 0]
  have V0 := Blk.made ((w.alloc (.cells #[.slice a n c] 35)).alloc (.cells #[.slice none 0 0] 35)) 35 #[.slice none 0 0]
  have S1 := S0.alloc (.cells #[.slice none 0 0] 35)
  simp only [World.size_alloc] at S1 V0
  have HC0 := hide (CRow.start (w.heap.size + 1 + 1 + 1) (((w.alloc (.cells #[.slice a n c] 35)).alloc (.cells #[.slice none 0 0] 35)).alloc (.cells #[.slice none 0 0] 35)) (by simp))
  clear S0
  go_enter Tryz.func67, Tryz.ntmps67
  go_wp2
  go_loopw [4] (fun i wr => ∃ (k : Nat) (x : Value) (us : List V), k ≤ n ∧ i = .int .i64 (k : Int) ∧ Blk wr (w.heap.size + 1 + 1) 35 #[x] ∧ Hid (us.length = k) ∧ Hid (Like us vs) ∧ Hid (CRow (w.heap.size + 1 + 1 + 1) wr x us) ∧ Inv w (w.heap.size + 1 + 1) [(w.heap.size + 1, 35, #[.slice none 0 0]), (w.heap.size, 35, #[.slice a n c])] wr) (fun i _ => n - (intOf i).toNat)
  case atStart => exact ⟨0, _, [], Nat.zero_le _, rfl, V0, rfl, fun i v v' hi => by simp at hi, HC0.out, S1⟩
  case round =>
    obtain ⟨k, x, us, hk, rfl, hV, HU, HL, HC, hI⟩ := hrel
    clear S1 V0 HC0
    by_cases hlt : k < n
    · rcases hv with h0 | ⟨b, off, rfl, hb, hx⟩
      · have := HN.out; subst h0; simp at this; omega
      · have hkl : k < vs.length := by have := HN.out; omega
        obtain ⟨hS, hT⟩ := hx k _ (List.getElem?_eq_getElem hkl)
        have HX := hide (List.getElem?_eq_getElem hkl)
        have Q := hide hS
        have HT := hide hT
        generalize vs[k] = v at Q HX HT
        have HB := hide (HM.out v (List.mem_of_getElem? HX.out))
        have jh := fun {w' : World} {n1 m1 : Nat} {q : Nat × TypeId × Array Value} => cheld (w := w) (w' := w') (n := n1) (m := m1) (q := q) (c := c) (T := 35) Q hb
        clear hx hS hT
        have k0 := (hI.nth 1 rfl).one.1
        have i1 : (0 : Int) ≤ (k : Int) := by omega
        have i2 : (k : Int) < (n : Int) := by omega
        obtain ⟨xa, xn, xc, rfl⟩ := HC.out.form
        have HV := hide (HC.out.typed)
        have hlo := HC.out.lo
        have V1 := hV.drew
        have q1 := V1.one.1
        have C1 := hide (HC.out.on (Below.refl _ _).drew)
        go_wp2_with fail
        clear k0
        refine wp_region_noPanic ?_
        refine wp_region_held_drew (S := (fun w' => Six w' b (off + k * 6) v ∧ w'.cell? ⟨w.heap.size, 0, none⟩ = some (.slice (some ⟨b, off, none⟩) n c) ∧ Inv w (w.heap.size + 1 + 1) [(w.heap.size + 1, 35, #[.slice none 0 0]), (w.heap.size, 35, #[.slice (some ⟨b, off, none⟩) n c])] w')) (by kernel_rfl) (by exact jh hI.drew) (fun hHeld => ?_)
        refine take_run 0 (some 13) (v := ?_) rfl rfl (by kernel_rfl) (by kernel_rfl) (by kernel_rfl) (fun _ _ _ h => h) (by rfl) ?_ hHeld ?_
        rotate_left
        · ((intro w hSw); (try dsimp only at hSw); go_simp <;> with_reducible rfl)
        simp only [Act.put, List.setIfInBounds_toArray, List.set_cons_zero, List.set_cons_succ]
        refine take_run 2 (some 15) (v := ?_) rfl rfl (by kernel_rfl) (by kernel_rfl) (by kernel_rfl) (fun _ _ _ h => h) (by rfl) ?_ hHeld ?_
        rotate_left
        · ((intro w hSw); (try dsimp only at hSw); go_simp <;> with_reducible rfl)
        simp only [Act.put, List.setIfInBounds_toArray, List.set_cons_zero, List.set_cons_succ]
        refine take_run 3 (some 16) (v := ?_) rfl rfl (by kernel_rfl) (by kernel_rfl) (by kernel_rfl) (fun _ _ _ h => h) (by rfl) ?_ hHeld ?_
        rotate_left
        · ((intro w hSw); (try dsimp only at hSw); go_simp <;> with_reducible rfl)
        simp only [Act.put, List.setIfInBounds_toArray, List.set_cons_zero, List.set_cons_succ]
        refine take_run 4 (some 17) (v := ?_) rfl rfl (by kernel_rfl) (by kernel_rfl) (by kernel_rfl) (fun _ _ _ h => h) (by rfl) ?_ hHeld ?_
        rotate_left
        · ((intro w hSw); (try dsimp only at hSw); go_simp <;> with_reducible rfl)
        simp only [Act.put, List.setIfInBounds_toArray, List.set_cons_zero, List.set_cons_succ]
        refine take_run 5 (some 18) (v := ?_) rfl rfl (by kernel_rfl) (by kernel_rfl) (by kernel_rfl) (fun _ _ _ h => h) (by rfl) ?_ hHeld ?_
        rotate_left
        · ((intro w hSw); (try dsimp only at hSw); go_simp <;> with_reducible rfl)
        simp only [Act.put, List.setIfInBounds_toArray, List.set_cons_zero, List.set_cons_succ]
        refine take_run 6 (some 19) (v := ?_) rfl rfl (by kernel_rfl) (by kernel_rfl) (by kernel_rfl) (fun _ _ _ h => h) (by rfl) ?_ hHeld ?_
        rotate_left
        · ((intro w hSw); (try dsimp only at hSw); go_simp <;> with_reducible rfl)
        simp only [Act.put, List.setIfInBounds_toArray, List.set_cons_zero, List.set_cons_succ]
        refine wpAnyH_ready (rs := [1, 7]) (by kernel_rfl) (by simp) ?_
        refine AllReadyH.cons rfl (fun K hK => ?_) (AllReadyH.cons rfl (fun K hK => ?_) AllReadyH.nil)
        · skip
          go_simp
          refine hK.out _ _ (by exact hHeld) (fun hHeld => ?_)
          clear hK K
          refine take_one 7 (by kernel_rfl) rfl (fun K hK => ?_)
          go_simp
          (refine (l2Copy_any v _ HB.out ((HT.out.on hHeld.2.2.below).up hHeld.2.2.base)).mono ?_; rintro e w1 ⟨v', rfl, hlike, hown, hb1⟩; have C2 := hide (C1.out.on hb1); have V2 := V1.on hb1; have HLI := hide hlike; have HOW := hide hown; have z1 : wr.heap.size ≤ w1.heap.size := (by have := hb1.size; simpa using this); have HR := hide (show w1.ownsRow (w.heap.size + 1 + 1 + 1) 51 6 (.slice xa xn xc) k (flat6 us) by have := C2.out.row; rw [HU.out] at this; exact this); have HB1 := hide hb1; have q2 := V2.one.1; have q4 := (V2.more (.cells (verC v'.k v'.t v'.u v'.a v'.ts.length v'.c v'.s v'.g) 51)).one.1)
          try go_wp2_with fail
          refine hK.out _ _ (by exact jh (hHeld.2.2.on HB1.out)) (fun hHeld => ?_)
          clear hK K
          refine take_one 8 (by kernel_rfl) rfl (fun K hK => ?_)
          go_simp
          refine hK.out _ _ (by exact jh (hHeld.2.2.alloc _)) (fun hHeld => ?_)
          clear hK K
          refine take_one 9 (by kernel_rfl) rfl (fun K hK => ?_)
          (refine step_append_lies _ (by rfl) _ _ _ (by rfl) (w.heap.size + 1 + 1 + 1) 51 i0 _ 6 72 Tryz.underlying33 I0.out I1.out I2.out I3.out rfl (by omega) (.slice xa xn xc) k (flat6 us) (by rfl) (HR.out.alloc _) ⟨w1.heap.size, 0, none⟩ 1 1 (cells6 v') (by rfl) (by rfl) (World.news_of_block (cs := verC v'.k v'.t v'.u v'.a v'.ts.length v'.c v'.s v'.g) (t := 51) (fr := (0, 0)) (heap_alloc_new w1 _)) (by simp [cells6, Value.oneCell']) (by omega) (by unfold maxLen; omega) (by omega) (by simp; omega) _ rfl ?_; intro g cap w2 hown2 hgrow hat hlt2; have V3 := (V2.more (.cells (verC v'.k v'.t v'.u v'.a v'.ts.length v'.c v'.s v'.g) 51)).kept hgrow (by intro e; have hq := HV.out _ e; obtain ⟨_, _, h1, _⟩ := hq; omega); have q3 := V3.one; have OW := hide hown2; have GW := hide hgrow; clear hown2)
          simp only [List.getElem_toArray, List.getElem_cons_zero, List.getElem_cons_succ, Act.put, List.setIfInBounds_toArray, List.set_cons_zero, List.set_cons_succ]
          refine hK.out _ _ (by exact jh (Inv.grow hHeld.2.2 hgrow (fun g' e => by have hq := HV.out _ e; obtain ⟨_, _, h1, _⟩ := hq; omega))) (fun hHeld => ?_)
          clear hK K
          refine take_run 10 (some 23) (v := ?_) rfl rfl (by kernel_rfl) (by kernel_rfl) (by kernel_rfl) (fun _ _ _ h => h) (by rfl) ?_ hHeld ?_
          rotate_left
          · ((intro w hSw); (try dsimp only at hSw); go_simp <;> with_reducible rfl)
          simp only [Act.put, List.setIfInBounds_toArray, List.set_cons_zero, List.set_cons_succ]
          refine take_one 11 (by kernel_rfl) rfl (fun K hK => ?_)
          go_simp
          refine hK.out _ _ (by exact jh (hHeld.2.2.set (by simp) (by simp; omega) _)) (fun hHeld => ?_)
          clear hK K
          refine wpAnyH_done (by kernel_rfl) ?_ _
          refine NoPanic.normal ?_
          have I9 := hHeld.2.2
          have C9 := HC.out.push (w1 := w1.alloc (.cells (verC v'.k v'.t v'.u v'.a v'.ts.length v'.c v'.s v'.g) 51)) (B := wr.heap.size) (v := v') (g := g) (cap := cap) (w2 := w2) (((Below.refl _ _).drew.trans (HB1.out.mono (Nat.le_refl _))).trans ((below_alloc1 w1 _).mono z1)) (Nat.le_refl _) ((HOW.out.on (below_alloc1 w1 _)).wide (by simp)) (by rw [HU.out]; exact OW.out) GW.out
          rw [HU.out] at C9
          have C10 := hide (C9.aside (p := ⟨w.heap.size + 1 + 1, 0, none⟩) V3 store_ne_tag (by simp only; omega) (.slice (some ⟨g, 0, none⟩) (k + 1) cap))
          have V9 := V3.put 0 (.slice (some ⟨g, 0, none⟩) (k + 1) cap)
          have HL9 := hide (like_step HL.out HU.out HX.out HLI.out)
          have HU9 : Hid ((us ++ [v']).length = k + 1) := (by unfold Hid; rw [List.length_append, HU.out]; rfl)
          clear hHeld V3 q3 q1 q2 q4 V1 V2 C9 C1 C2 HC
          go_wp2
          exact ⟨⟨k + 1, _, _, by omega, by go_num, V9, HU9, HL9, C10, I9⟩, by simp [intOf]; omega⟩
        · skip
          go_simp
          (refine (l2Copy_any v _ HB.out ((HT.out.on hHeld.2.2.below).up hHeld.2.2.base)).mono ?_; rintro e w1 ⟨v', rfl, hlike, hown, hb1⟩; have C2 := hide (C1.out.on hb1); have V2 := V1.on hb1; have HLI := hide hlike; have HOW := hide hown; have z1 : wr.heap.size ≤ w1.heap.size := (by have := hb1.size; simpa using this); have HR := hide (show w1.ownsRow (w.heap.size + 1 + 1 + 1) 51 6 (.slice xa xn xc) k (flat6 us) by have := C2.out.row; rw [HU.out] at this; exact this); have HB1 := hide hb1; have q2 := V2.one.1; have q4 := (V2.more (.cells (verC v'.k v'.t v'.u v'.a v'.ts.length v'.c v'.s v'.g) 51)).one.1)
          try go_wp2_with fail
          refine hK.out _ _ (by exact jh (hHeld.2.2.on HB1.out)) (fun hHeld => ?_)
          clear hK K
          refine wpAnyH_ready (rs := [1, 8]) (by kernel_rfl) (by simp) ?_
          refine AllReadyH.cons rfl (fun K hK => ?_) (AllReadyH.cons rfl (fun K hK => ?_) AllReadyH.nil)
          · skip
            go_simp
            refine hK.out _ _ (by exact hHeld) (fun hHeld => ?_)
            clear hK K
            refine take_one 8 (by kernel_rfl) rfl (fun K hK => ?_)
            go_simp
            refine hK.out _ _ (by exact jh (hHeld.2.2.alloc _)) (fun hHeld => ?_)
            clear hK K
            refine take_one 9 (by kernel_rfl) rfl (fun K hK => ?_)
            (refine step_append_lies _ (by rfl) _ _ _ (by rfl) (w.heap.size + 1 + 1 + 1) 51 i0 _ 6 72 Tryz.underlying33 I0.out I1.out I2.out I3.out rfl (by omega) (.slice xa xn xc) k (flat6 us) (by rfl) (HR.out.alloc _) ⟨w1.heap.size, 0, none⟩ 1 1 (cells6 v') (by rfl) (by rfl) (World.news_of_block (cs := verC v'.k v'.t v'.u v'.a v'.ts.length v'.c v'.s v'.g) (t := 51) (fr := (0, 0)) (heap_alloc_new w1 _)) (by simp [cells6, Value.oneCell']) (by omega) (by unfold maxLen; omega) (by omega) (by simp; omega) _ rfl ?_; intro g cap w2 hown2 hgrow hat hlt2; have V3 := (V2.more (.cells (verC v'.k v'.t v'.u v'.a v'.ts.length v'.c v'.s v'.g) 51)).kept hgrow (by intro e; have hq := HV.out _ e; obtain ⟨_, _, h1, _⟩ := hq; omega); have q3 := V3.one; have OW := hide hown2; have GW := hide hgrow; clear hown2)
            simp only [List.getElem_toArray, List.getElem_cons_zero, List.getElem_cons_succ, Act.put, List.setIfInBounds_toArray, List.set_cons_zero, List.set_cons_succ]
            refine hK.out _ _ (by exact jh (Inv.grow hHeld.2.2 hgrow (fun g' e => by have hq := HV.out _ e; obtain ⟨_, _, h1, _⟩ := hq; omega))) (fun hHeld => ?_)
            clear hK K
            refine take_run 10 (some 23) (v := ?_) rfl rfl (by kernel_rfl) (by kernel_rfl) (by kernel_rfl) (fun _ _ _ h => h) (by rfl) ?_ hHeld ?_
            rotate_left
            · ((intro w hSw); (try dsimp only at hSw); go_simp <;> with_reducible rfl)
            simp only [Act.put, List.setIfInBounds_toArray, List.set_cons_zero, List.set_cons_succ]
            refine take_one 11 (by kernel_rfl) rfl (fun K hK => ?_)
            go_simp
            refine hK.out _ _ (by exact jh (hHeld.2.2.set (by simp) (by simp; omega) _)) (fun hHeld => ?_)
            clear hK K
            refine wpAnyH_done (by kernel_rfl) ?_ _
            refine NoPanic.normal ?_
            have I9 := hHeld.2.2
            have C9 := HC.out.push (w1 := w1.alloc (.cells (verC v'.k v'.t v'.u v'.a v'.ts.length v'.c v'.s v'.g) 51)) (B := wr.heap.size) (v := v') (g := g) (cap := cap) (w2 := w2) (((Below.refl _ _).drew.trans (HB1.out.mono (Nat.le_refl _))).trans ((below_alloc1 w1 _).mono z1)) (Nat.le_refl _) ((HOW.out.on (below_alloc1 w1 _)).wide (by simp)) (by rw [HU.out]; exact OW.out) GW.out
            rw [HU.out] at C9
            have C10 := hide (C9.aside (p := ⟨w.heap.size + 1 + 1, 0, none⟩) V3 store_ne_tag (by simp only; omega) (.slice (some ⟨g, 0, none⟩) (k + 1) cap))
            have V9 := V3.put 0 (.slice (some ⟨g, 0, none⟩) (k + 1) cap)
            have HL9 := hide (like_step HL.out HU.out HX.out HLI.out)
            have HU9 : Hid ((us ++ [v']).length = k + 1) := (by unfold Hid; rw [List.length_append, HU.out]; rfl)
            clear hHeld V3 q3 q1 q2 q4 V1 V2 C9 C1 C2 HC
            go_wp2
            exact ⟨⟨k + 1, _, _, by omega, by go_num, V9, HU9, HL9, C10, I9⟩, by simp [intOf]; omega⟩
          · skip
            go_simp
            refine hK.out _ _ (by exact jh (hHeld.2.2.alloc _)) (fun hHeld => ?_)
            clear hK K
            refine take_one 1 (by kernel_rfl) rfl (fun K hK => ?_)
            go_simp
            refine hK.out _ _ (by exact hHeld) (fun hHeld => ?_)
            clear hK K
            refine take_one 9 (by kernel_rfl) rfl (fun K hK => ?_)
            (refine step_append_lies _ (by rfl) _ _ _ (by rfl) (w.heap.size + 1 + 1 + 1) 51 i0 _ 6 72 Tryz.underlying33 I0.out I1.out I2.out I3.out rfl (by omega) (.slice xa xn xc) k (flat6 us) (by rfl) (HR.out.alloc _) ⟨w1.heap.size, 0, none⟩ 1 1 (cells6 v') (by rfl) (by rfl) (World.news_of_block (cs := verC v'.k v'.t v'.u v'.a v'.ts.length v'.c v'.s v'.g) (t := 51) (fr := (0, 0)) (heap_alloc_new w1 _)) (by simp [cells6, Value.oneCell']) (by omega) (by unfold maxLen; omega) (by omega) (by simp; omega) _ rfl ?_; intro g cap w2 hown2 hgrow hat hlt2; have V3 := (V2.more (.cells (verC v'.k v'.t v'.u v'.a v'.ts.length v'.c v'.s v'.g) 51)).kept hgrow (by intro e; have hq := HV.out _ e; obtain ⟨_, _, h1, _⟩ := hq; omega); have q3 := V3.one; have OW := hide hown2; have GW := hide hgrow; clear hown2)
            simp only [List.getElem_toArray, List.getElem_cons_zero, List.getElem_cons_succ, Act.put, List.setIfInBounds_toArray, List.set_cons_zero, List.set_cons_succ]
            refine hK.out _ _ (by exact jh (Inv.grow hHeld.2.2 hgrow (fun g' e => by have hq := HV.out _ e; obtain ⟨_, _, h1, _⟩ := hq; omega))) (fun hHeld => ?_)
            clear hK K
            refine take_run 10 (some 23) (v := ?_) rfl rfl (by kernel_rfl) (by kernel_rfl) (by kernel_rfl) (fun _ _ _ h => h) (by rfl) ?_ hHeld ?_
            rotate_left
            · ((intro w hSw); (try dsimp only at hSw); go_simp <;> with_reducible rfl)
            simp only [Act.put, List.setIfInBounds_toArray, List.set_cons_zero, List.set_cons_succ]
            refine take_one 11 (by kernel_rfl) rfl (fun K hK => ?_)
            go_simp
            refine hK.out _ _ (by exact jh (hHeld.2.2.set (by simp) (by simp; omega) _)) (fun hHeld => ?_)
            clear hK K
            refine wpAnyH_done (by kernel_rfl) ?_ _
            refine NoPanic.normal ?_
            have I9 := hHeld.2.2
            have C9 := HC.out.push (w1 := w1.alloc (.cells (verC v'.k v'.t v'.u v'.a v'.ts.length v'.c v'.s v'.g) 51)) (B := wr.heap.size) (v := v') (g := g) (cap := cap) (w2 := w2) (((Below.refl _ _).drew.trans (HB1.out.mono (Nat.le_refl _))).trans ((below_alloc1 w1 _).mono z1)) (Nat.le_refl _) ((HOW.out.on (below_alloc1 w1 _)).wide (by simp)) (by rw [HU.out]; exact OW.out) GW.out
            rw [HU.out] at C9
            have C10 := hide (C9.aside (p := ⟨w.heap.size + 1 + 1, 0, none⟩) V3 store_ne_tag (by simp only; omega) (.slice (some ⟨g, 0, none⟩) (k + 1) cap))
            have V9 := V3.put 0 (.slice (some ⟨g, 0, none⟩) (k + 1) cap)
            have HL9 := hide (like_step HL.out HU.out HX.out HLI.out)
            have HU9 : Hid ((us ++ [v']).length = k + 1) := (by unfold Hid; rw [List.length_append, HU.out]; rfl)
            clear hHeld V3 q3 q1 q2 q4 V1 V2 C9 C1 C2 HC
            go_wp2
            exact ⟨⟨k + 1, _, _, by omega, by go_num, V9, HU9, HL9, C10, I9⟩, by simp [intOf]; omega⟩
    · have hkn : k = n := by omega
      subst hkn
      clear hlt
      obtain ⟨xa, xn, xc, rfl⟩ := HC.out.form
      have q0 := hV.one
      have q1 := (hI.nth 0 rfl).one
      have q5 := (hI.nth 1 rfl).one
      have hL := hI.below
      have B1 := hI.nth 0 rfl
      go_wp2
      refine bodyPost_ret (v := .agg #[.slice xa xn xc]) (by simp [results, Tryz.results67, go_sem, q1]) rfl ?_
      exact ⟨_, us, rfl, HU.out.trans HN.out.symm, HL.out, (HC.out.aside (p := ⟨w.heap.size + 1, 0, none⟩) B1 store_ne_tag (by simp only; omega) _).down (by omega), hL.setCell (by simp) _⟩
end Go.Proofs.YtjnloillcgeodaaGreat
/- Contracts of the functions that gather a store's tags, in the program and in the model. Condition: a valid store. -/
namespace Go.Proofs.YtjnloillcgeodaaGreat
open Go.RowKit Go.Joins
attribute [local go_sem ↓] Go.wp_at_zero Go.wp_at_succ

/-- The tags of these versions. -/
def tagsL (vs : List V) : List (Int × Int) := vs.map fun v => (v.t, v.u)
theorem storeB_four {vs : List V} (h : storeB vs = true) : vs.length = 4 := by
  apply Classical.byContradiction
  intro hn
  rw [storeB_len hn] at h
  cases h

end Go.Proofs.YtjnloillcgeodaaGreat
/- Contracts of the functions that let a version into a row, if it is later, of program and model. Condition: a row of four, a key from 0 to 3. -/
namespace Go.Proofs.YtjnloillcgeodaaGreat
open Go.RowKit Go.Joins
attribute [local go_sem ↓] Go.wp_at_zero Go.wp_at_succ

/-- A row with a version, if that is later. -/
def keepL (us : List V) (v : V) : List V := match us[v.k.toNat]? with | some x => if lessB x.t x.u v.t v.u = true then us.set v.k.toNat v else us | none => us
theorem keepL_len (us : List V) (v : V) : (keepL us v).length = us.length := by
  unfold keepL
  split
  · split <;> simp
  · rfl
theorem keepL_yes {us : List V} {v x : V} (hx : us[v.k.toNat]? = some x) (h : lessB x.t x.u v.t v.u = true) : keepL us v = us.set v.k.toNat v := by unfold keepL; rw [hx]; simp [h]
theorem keepL_no {us : List V} {v x : V} (hx : us[v.k.toNat]? = some x) (h : lessB x.t x.u v.t v.u = false) : keepL us v = us := by unfold keepL; rw [hx]; simp [h]
theorem like_refl (us : List V) : Like us us := fun i v v' h h' => by
  rw [h] at h'
  injection h' with h'
  subst h'
  exact ⟨rfl, rfl, rfl, rfl, rfl, rfl⟩
theorem like_set {us : List V} {j : Nat} {v v' : V} (h : V.like v' v) : Like (us.set j v') (us.set j v) := fun i x y hx hy => by
  by_cases e : i = j
  · subst e
    have hl := (List.getElem?_eq_some_iff.1 hx).1
    rw [List.length_set] at hl
    rw [List.getElem?_set_self hl] at hx hy
    injection hx with hx
    injection hy with hy
    subst hx hy
    exact h
  · rw [List.getElem?_set_ne (fun e' => e e'.symm)] at hx hy
    exact like_refl us i x y hx hy
/-- One version of a row put in the place of another. -/
theorem ORow.put6 {w : World} {B U G j : Nat} {us : List V} {cur : Array Value} {v : V} (h : ORow w B U G us cur) (hj : j < us.length) (ho : Own1 w B U v) (hap : ∀ (i : Nat) x, i ≠ j → us[i]? = some x → x.ts ≠ [] → v.ts ≠ [] → x.a ≠ v.a) (hG : v.ts ≠ [] → v.a ≠ some ⟨G, 0, none⟩) :
    ORow ((((((w.setCell ⟨G, j * 6, none⟩ (.int .i64 v.k)).setCell ⟨G, j * 6 + 1, none⟩ (.int .i64 v.t)).setCell ⟨G, j * 6 + 2, none⟩ (.int .i64 v.u)).setCell ⟨G, j * 6 + 3, none⟩ (.slice v.a v.ts.length v.c)).setCell ⟨G, j * 6 + 4, none⟩ (.string v.s)).setCell ⟨G, j * 6 + 5, none⟩ (.bool v.g)) B U G (us.set j v) (put6 cur j v) ∧
    Turn (fun g => g = G) w ((((((w.setCell ⟨G, j * 6, none⟩ (.int .i64 v.k)).setCell ⟨G, j * 6 + 1, none⟩ (.int .i64 v.t)).setCell ⟨G, j * 6 + 2, none⟩ (.int .i64 v.u)).setCell ⟨G, j * 6 + 3, none⟩ (.slice v.a v.ts.length v.c)).setCell ⟨G, j * 6 + 4, none⟩ (.string v.s)).setCell ⟨G, j * 6 + 5, none⟩ (.bool v.g)) := by
  have ht : Turn (fun g => g = G) w ((((((w.setCell ⟨G, j * 6, none⟩ (.int .i64 v.k)).setCell ⟨G, j * 6 + 1, none⟩ (.int .i64 v.t)).setCell ⟨G, j * 6 + 2, none⟩ (.int .i64 v.u)).setCell ⟨G, j * 6 + 3, none⟩ (.slice v.a v.ts.length v.c)).setCell ⟨G, j * 6 + 4, none⟩ (.string v.s)).setCell ⟨G, j * 6 + 5, none⟩ (.bool v.g)) :=
    ((((((Turn.refl (fun g => g = G) w).set (p := ⟨G, j * 6, none⟩) rfl _).set (p := ⟨G, j * 6 + 1, none⟩) rfl _).set (p := ⟨G, j * 6 + 2, none⟩) rfl _).set (p := ⟨G, j * 6 + 3, none⟩) rfl _).set (p := ⟨G, j * 6 + 4, none⟩) rfl _).set (p := ⟨G, j * 6 + 5, none⟩) rfl _
  have hs : j * 6 + 5 < cur.size := by have := h.size; omega
  have hget : ∀ (i : Nat) x, (us.set j v)[i]? = some x → (i = j ∧ x = v) ∨ (i ≠ j ∧ us[i]? = some x) := by
    intro i x hx
    by_cases e : i = j
    · subst e
      rw [List.getElem?_set_self hj] at hx
      injection hx with hx
      exact .inl ⟨rfl, hx.symm⟩
    · rw [List.getElem?_set_ne (fun e' => e e'.symm)] at hx
      exact .inr ⟨e, hx⟩
  refine ⟨⟨(((((h.blk.put _ _).put _ _).put _ _).put _ _).put _ _).put _ _, h.lo, h.hi, by simpa using h.size, fun i x hx => ?_, fun i x hx => ?_, fun i i' x y hne hx hy hn hn' => ?_⟩, ht⟩
  · rcases hget i x hx with ⟨rfl, rfl⟩ | ⟨e, hq⟩
    · exact verAt_put hs
    · exact verAt_other e (h.at' i x hq)
  · rcases hget i x hx with ⟨rfl, rfl⟩ | ⟨e, hq⟩
    · exact ho.turned ht (fun g hg _ _ hne e => hG hne (by rw [hg, e]))
    · exact (h.own i x hq).turned ht (fun g hg _ _ hne e => h.apartG hq hne hg e)
  · rcases hget i x hx with ⟨e1, e2⟩ | ⟨e, hq⟩ <;> rcases hget i' y hy with ⟨e3, e4⟩ | ⟨e', hq'⟩
    · omega
    · subst e1; rw [e2]; exact fun e => hap i' y e' hq' hn' (e2 ▸ hn) e.symm
    · subst e3; rw [e4]; exact hap i x e hq hn (e4 ▸ hn')
    · exact h.apart i i' x y hne hq hq' hn hn'
theorem ORow.aside {w : World} {B U G : Nat} {us : List V} {cur : Array Value} (h : ORow w B U G us cur) {p : Addr} {T : TypeId} {cs : Array Value} (hb : Blk w p.block T cs) (hT : T ≠ 49) (hp : G ≠ p.block) (u : Value) : ORow (w.setCell p u) B U G us cur :=
  ⟨h.blk.aside hp u, h.lo, h.hi, h.size, h.at', fun i v hi => (h.own i v hi).tk (.set hb hT u), h.apart⟩
theorem Turn.far {P : Nat → Prop} {w w' : World} (h : Turn P w w') {p : Addr} (hp : w.heap.size ≤ p.block) (u : Value) : Turn P w (w'.setCell p u) :=
  ⟨h.os, h.tape, h.output, by simpa [World.setCell] using h.size, fun k hk hn => (Below.heap_setCell w' p u k (by omega)).trans (h.block k hk hn)⟩
/-- What letting a version in leaves. -/
def KeptL (w : World) (B G : Nat) (us : List V) (v : V) (x : Value) (e : Ending) (w' : World) : Prop :=
  ∃ (us' : List V) (cur' : Array Value), e = .returned x ∧ us'.length = us.length ∧ Like us' (keepL us v) ∧ ORow w' B w'.heap.size G us' cur' ∧ Turn (fun g => g = G) w w'

set_option maxRecDepth 100000 in
set_option maxHeartbeats 1000000 in
theorem l2Add_any (B U G cx : Nat) (us : List V) (cur : Array Value) (v : V) (kn : Nat) (w : World) (hR : ORow w B U G us cur) (hU : U ≤ w.heap.size) (h4 : us.length = 4) (hk : v.k = (kn : Int)) (hk4 : kn < 4) (hn : v.ts.length ≤ 1048576) (ht : Tg w w.heap.size v.a v.ts) :
    Calls Tryz.prog 102 #[.agg #[.slice (some ⟨G, 0, none⟩) 4 cx], .agg (verC v.k v.t v.u v.a v.ts.length v.c v.s v.g)] w (KeptL w B G us v (.agg #[.slice (some ⟨G, 0, none⟩) 4 cx])) := by
  obtain ⟨y, hy⟩ : ∃ y, us[kn]? = some y := ⟨_, List.getElem?_eq_getElem (by omega)⟩
  have hkt : v.k.toNat = kn := by rw [hk]; simp
  have HY := hide hy
  obtain ⟨vk, vt, vu, va, vc, vts, vs, vg⟩ := v
  simp only at hk hkt hn ht ⊢
  subst hk
  have CLA : ∀ W : World, Below w.heap.size w W → Calls Tryz.prog 68 #[.agg (verC (kn : Int) vt vu va vts.length vc vs vg)] W (Cloned W ⟨(kn : Int), vt, vu, va, vc, vts, vs, vg⟩) := fun W hb => l2Copy_any ⟨(kn : Int), vt, vu, va, vc, vts, vs, vg⟩ W hn ((ht.on hb).up hb.size)
  have HCL := hide CLA
  clear CLA
  have S0 := (((Inv.start w).box 35 #[.slice (some ⟨G, 0, none⟩) 4 cx]).box 51 (verC (kn : Int) vt vu va vts.length vc vs vg)).box 35 #[.slice none 0 0]
  simp only [World.size_alloc] at S0
  have HR0 := hide (hR.on S0.below)
  obtain ⟨g0, g1, g2, g3, g4, g5⟩ := HR0.out.at' kn y hy
  have c0 := (HR0.out.blk.at (kn * 6)).trans g0
  have c1 := (HR0.out.blk.at (kn * 6 + 1)).trans g1
  have c2 := (HR0.out.blk.at (kn * 6 + 2)).trans g2
  have C1 := hide c1
  have C2 := hide c2
  have hGl := hR.hi
  have HRW := hide hR
  have i1 : (0 : Int) ≤ (kn : Int) := by omega
  have i2 : (kn : Int) < 4 := by omega
  clear g0 g1 g2 g3 g4 g5 hy c0 c1 c2 ht hR hkt
  cases hless : lessB y.t y.u vt vu
  · have HL := hide hless
    clear hless
    go_enter Tryz.func102, Tryz.ntmps102
    go_wp2_with fail
    generalize ((w.alloc (.cells #[.slice (some ⟨G, 0, none⟩) 4 cx] 35)).alloc (.cells (verC (kn : Int) vt vu va vts.length vc vs vg) 51)).alloc (.cells #[.slice none 0 0] 35) = W0 at S0 HR0 C1 C2 ⊢
    refine wp_region_noPanic ?_
    refine wp_region_held_drew (S := (fun w' => (w'.cell? ⟨G, kn * 6 + 1, none⟩ = some (.int .i64 y.t) ∧ w'.cell? ⟨G, kn * 6 + 2, none⟩ = some (.int .i64 y.u)) ∧ (w'.cell? ⟨w.heap.size, 0, none⟩ = some (.slice (some ⟨G, 0, none⟩) 4 cx) ∧ w'.cell? ⟨w.heap.size + 1, 0, none⟩ = some (.int .i64 (kn : Int)) ∧ w'.cell? ⟨w.heap.size + 1, 1, none⟩ = some (.int .i64 vt) ∧ w'.cell? ⟨w.heap.size + 1, 2, none⟩ = some (.int .i64 vu)) ∧ Inv w (w.heap.size + 1 + 1 + 1) [(w.heap.size + 1 + 1, 35, #[.slice none 0 0]), (w.heap.size + 1, 51, (verC (kn : Int) vt vu va vts.length vc vs vg)), (w.heap.size, 35, #[.slice (some ⟨G, 0, none⟩) 4 cx])] w')) (by kernel_rfl) (by exact ⟨⟨C1.out, C2.out⟩, ⟨(S0.drew.nth 2 rfl).at 0, (S0.drew.nth 1 rfl).at 0, (S0.drew.nth 1 rfl).at 1, (S0.drew.nth 1 rfl).at 2⟩, S0.drew⟩) (fun hHeld => ?_)
    refine take_run 0 (some 5) (v := ?_) rfl rfl (by kernel_rfl) (by kernel_rfl) (by kernel_rfl) (fun _ _ _ h => h) (by rfl) ?_ hHeld ?_
    rotate_left
    · ((intro w hSw); (try dsimp only at hSw); go_simp <;> with_reducible rfl)
    simp only [Act.put, List.setIfInBounds_toArray, List.set_cons_zero, List.set_cons_succ]
    refine take_run 1 (some 6) (v := ?_) rfl rfl (by kernel_rfl) (by kernel_rfl) (by kernel_rfl) (fun _ _ _ h => h) (by rfl) ?_ hHeld ?_
    rotate_left
    · ((intro w hSw); (try dsimp only at hSw); go_simp <;> with_reducible rfl)
    simp only [Act.put, List.setIfInBounds_toArray, List.set_cons_zero, List.set_cons_succ]
    refine take_run 2 (some 7) (v := ?_) rfl rfl (by kernel_rfl) (by kernel_rfl) (by kernel_rfl) (fun _ _ _ h => h) (by rfl) ?_ hHeld ?_
    rotate_left
    · ((intro w hSw); (try dsimp only at hSw); go_simp <;> with_reducible rfl)
    simp only [Act.put, List.setIfInBounds_toArray, List.set_cons_zero, List.set_cons_succ]
    refine take_run 3 (some 8) (v := ?_) rfl rfl (by kernel_rfl) (by kernel_rfl) (by kernel_rfl) (fun _ _ _ h => h) (by rfl) ?_ hHeld ?_
    rotate_left
    · ((intro w hSw); (try dsimp only at hSw); go_simp <;> with_reducible rfl)
    simp only [Act.put, List.setIfInBounds_toArray, List.set_cons_zero, List.set_cons_succ]
    refine take_run 4 (some 9) (v := ?_) rfl rfl (by kernel_rfl) (by kernel_rfl) (by kernel_rfl) (fun _ _ _ h => h) (by rfl) ?_ hHeld ?_
    rotate_left
    · ((intro w hSw); (try dsimp only at hSw); go_simp <;> with_reducible rfl)
    simp only [Act.put, List.setIfInBounds_toArray, List.set_cons_zero, List.set_cons_succ]
    refine take_run 5 (some 10) (v := ?_) rfl rfl (by kernel_rfl) (by kernel_rfl) (by kernel_rfl) (fun _ _ _ h => h) (by rfl) ?_ hHeld ?_
    rotate_left
    · ((intro w hSw); (try dsimp only at hSw); go_simp <;> with_reducible rfl)
    simp only [Act.put, List.setIfInBounds_toArray, List.set_cons_zero, List.set_cons_succ]
    refine take_run 6 (some 11) (v := ?_) rfl rfl (by kernel_rfl) (by kernel_rfl) (by kernel_rfl) (fun _ _ _ h => h) (by rfl) ?_ hHeld ?_
    rotate_left
    · ((intro w hSw); (try dsimp only at hSw); go_simp <;> with_reducible rfl)
    simp only [Act.put, List.setIfInBounds_toArray, List.set_cons_zero, List.set_cons_succ]
    refine take_run 7 (some 12) (v := ?_) rfl rfl (by kernel_rfl) (by kernel_rfl) (by kernel_rfl) (fun _ _ _ h => h) (by rfl) ?_ hHeld ?_
    rotate_left
    · ((intro w hSw); (try dsimp only at hSw); go_simp <;> with_reducible rfl)
    simp only [Act.put, List.setIfInBounds_toArray, List.set_cons_zero, List.set_cons_succ]
    refine take_run 8 (some 13) (v := ?_) rfl rfl (by kernel_rfl) (by kernel_rfl) (by kernel_rfl) (fun _ _ _ h => h) (by rfl) ?_ hHeld ?_
    rotate_left
    · ((intro w hSw); (try dsimp only at hSw); go_simp <;> with_reducible rfl)
    simp only [Act.put, List.setIfInBounds_toArray, List.set_cons_zero, List.set_cons_succ]
    refine take_one 9 (by kernel_rfl) rfl (fun K hK => ?_)
    go_simp
    ((with_reducible refine (l1Less_any y.t y.u vt vu _).mono ?_); rintro e w1 ⟨rfl, hb1⟩; have HR1 := hide (HRW.out.on (hHeld.2.2.on hb1).below); have tc := HR1.out.at' kn y HY.out)
    try go_wp2_with fail
    refine hK.out _ _ (by exact ⟨⟨(HR1.out.blk.at (kn * 6 + 1)).trans tc.2.1, (HR1.out.blk.at (kn * 6 + 2)).trans tc.2.2.1⟩, ⟨((hHeld.2.2.on hb1).nth 2 rfl).at 0, ((hHeld.2.2.on hb1).nth 1 rfl).at 0, ((hHeld.2.2.on hb1).nth 1 rfl).at 1, ((hHeld.2.2.on hb1).nth 1 rfl).at 2⟩, hHeld.2.2.on hb1⟩) (fun hHeld => ?_)
    clear hK K
    refine wpAnyH_done (by kernel_rfl) ?_ _
    refine NoPanic.normal ?_
    have S1 := hHeld.2.2
    clear hHeld S0 HR0 C1 C2 tc
    rw [HL.out]
    have q1 := (S1.nth 0 rfl).one
    have q3 := (S1.nth 2 rfl).one
    go_wp2
    refine bodyPost_ret (v := .agg #[.slice (some ⟨G, 0, none⟩) 4 cx]) (by simp [results, Tryz.results102, go_sem, q1]) rfl ?_
    have hL := S1.below.setCell (p := ⟨w.heap.size + 1 + 1, 0, none⟩) (by simp; omega) (.slice (some ⟨G, 0, none⟩) 4 cx)
    exact ⟨us, cur, rfl, rfl, by rw [keepL_no (by simpa using HY.out) HL.out]; exact like_refl us, (HR1.out.aside (p := ⟨w.heap.size + 1 + 1, 0, none⟩) (S1.nth 0 rfl) store_ne_tag (by show G ≠ w.heap.size + 1 + 1; omega) _).wide (by have := hL.size; omega), ⟨hL.os, hL.tape, hL.output, hL.size, fun i hi _ => hL.block i hi⟩⟩
  · have HL := hide hless
    clear hless
    go_enter Tryz.func102, Tryz.ntmps102
    go_wp2_with fail
    generalize ((w.alloc (.cells #[.slice (some ⟨G, 0, none⟩) 4 cx] 35)).alloc (.cells (verC (kn : Int) vt vu va vts.length vc vs vg) 51)).alloc (.cells #[.slice none 0 0] 35) = W0 at S0 HR0 C1 C2 ⊢
    refine wp_region_noPanic ?_
    refine wp_region_held_drew (S := (fun w' => (w'.cell? ⟨G, kn * 6 + 1, none⟩ = some (.int .i64 y.t) ∧ w'.cell? ⟨G, kn * 6 + 2, none⟩ = some (.int .i64 y.u)) ∧ (w'.cell? ⟨w.heap.size, 0, none⟩ = some (.slice (some ⟨G, 0, none⟩) 4 cx) ∧ w'.cell? ⟨w.heap.size + 1, 0, none⟩ = some (.int .i64 (kn : Int)) ∧ w'.cell? ⟨w.heap.size + 1, 1, none⟩ = some (.int .i64 vt) ∧ w'.cell? ⟨w.heap.size + 1, 2, none⟩ = some (.int .i64 vu)) ∧ Inv w (w.heap.size + 1 + 1 + 1) [(w.heap.size + 1 + 1, 35, #[.slice none 0 0]), (w.heap.size + 1, 51, (verC (kn : Int) vt vu va vts.length vc vs vg)), (w.heap.size, 35, #[.slice (some ⟨G, 0, none⟩) 4 cx])] w')) (by kernel_rfl) (by exact ⟨⟨C1.out, C2.out⟩, ⟨(S0.drew.nth 2 rfl).at 0, (S0.drew.nth 1 rfl).at 0, (S0.drew.nth 1 rfl).at 1, (S0.drew.nth 1 rfl).at 2⟩, S0.drew⟩) (fun hHeld => ?_)
    refine take_run 0 (some 5) (v := ?_) rfl rfl (by kernel_rfl) (by kernel_rfl) (by kernel_rfl) (fun _ _ _ h => h) (by rfl) ?_ hHeld ?_
    rotate_left
    · ((intro w hSw); (try dsimp only at hSw); go_simp <;> with_reducible rfl)
    simp only [Act.put, List.setIfInBounds_toArray, List.set_cons_zero, List.set_cons_succ]
    refine take_run 1 (some 6) (v := ?_) rfl rfl (by kernel_rfl) (by kernel_rfl) (by kernel_rfl) (fun _ _ _ h => h) (by rfl) ?_ hHeld ?_
    rotate_left
    · ((intro w hSw); (try dsimp only at hSw); go_simp <;> with_reducible rfl)
    simp only [Act.put, List.setIfInBounds_toArray, List.set_cons_zero, List.set_cons_succ]
    refine take_run 2 (some 7) (v := ?_) rfl rfl (by kernel_rfl) (by kernel_rfl) (by kernel_rfl) (fun _ _ _ h => h) (by rfl) ?_ hHeld ?_
    rotate_left
    · ((intro w hSw); (try dsimp only at hSw); go_simp <;> with_reducible rfl)
    simp only [Act.put, List.setIfInBounds_toArray, List.set_cons_zero, List.set_cons_succ]
    refine take_run 3 (some 8) (v := ?_) rfl rfl (by kernel_rfl) (by kernel_rfl) (by kernel_rfl) (fun _ _ _ h => h) (by rfl) ?_ hHeld ?_
    rotate_left
    · ((intro w hSw); (try dsimp only at hSw); go_simp <;> with_reducible rfl)
    simp only [Act.put, List.setIfInBounds_toArray, List.set_cons_zero, List.set_cons_succ]
    refine take_run 4 (some 9) (v := ?_) rfl rfl (by kernel_rfl) (by kernel_rfl) (by kernel_rfl) (fun _ _ _ h => h) (by rfl) ?_ hHeld ?_
    rotate_left
    · ((intro w hSw); (try dsimp only at hSw); go_simp <;> with_reducible rfl)
    simp only [Act.put, List.setIfInBounds_toArray, List.set_cons_zero, List.set_cons_succ]
    refine take_run 5 (some 10) (v := ?_) rfl rfl (by kernel_rfl) (by kernel_rfl) (by kernel_rfl) (fun _ _ _ h => h) (by rfl) ?_ hHeld ?_
    rotate_left
    · ((intro w hSw); (try dsimp only at hSw); go_simp <;> with_reducible rfl)
    simp only [Act.put, List.setIfInBounds_toArray, List.set_cons_zero, List.set_cons_succ]
    refine take_run 6 (some 11) (v := ?_) rfl rfl (by kernel_rfl) (by kernel_rfl) (by kernel_rfl) (fun _ _ _ h => h) (by rfl) ?_ hHeld ?_
    rotate_left
    · ((intro w hSw); (try dsimp only at hSw); go_simp <;> with_reducible rfl)
    simp only [Act.put, List.setIfInBounds_toArray, List.set_cons_zero, List.set_cons_succ]
    refine take_run 7 (some 12) (v := ?_) rfl rfl (by kernel_rfl) (by kernel_rfl) (by kernel_rfl) (fun _ _ _ h => h) (by rfl) ?_ hHeld ?_
    rotate_left
    · ((intro w hSw); (try dsimp only at hSw); go_simp <;> with_reducible rfl)
    simp only [Act.put, List.setIfInBounds_toArray, List.set_cons_zero, List.set_cons_succ]
    refine take_run 8 (some 13) (v := ?_) rfl rfl (by kernel_rfl) (by kernel_rfl) (by kernel_rfl) (fun _ _ _ h => h) (by rfl) ?_ hHeld ?_
    rotate_left
    · ((intro w hSw); (try dsimp only at hSw); go_simp <;> with_reducible rfl)
    simp only [Act.put, List.setIfInBounds_toArray, List.set_cons_zero, List.set_cons_succ]
    refine take_one 9 (by kernel_rfl) rfl (fun K hK => ?_)
    go_simp
    ((with_reducible refine (l1Less_any y.t y.u vt vu _).mono ?_); rintro e w1 ⟨rfl, hb1⟩; have HR1 := hide (HRW.out.on (hHeld.2.2.on hb1).below); have tc := HR1.out.at' kn y HY.out)
    try go_wp2_with fail
    refine hK.out _ _ (by exact ⟨⟨(HR1.out.blk.at (kn * 6 + 1)).trans tc.2.1, (HR1.out.blk.at (kn * 6 + 2)).trans tc.2.2.1⟩, ⟨((hHeld.2.2.on hb1).nth 2 rfl).at 0, ((hHeld.2.2.on hb1).nth 1 rfl).at 0, ((hHeld.2.2.on hb1).nth 1 rfl).at 1, ((hHeld.2.2.on hb1).nth 1 rfl).at 2⟩, hHeld.2.2.on hb1⟩) (fun hHeld => ?_)
    clear hK K
    refine wpAnyH_done (by kernel_rfl) ?_ _
    refine NoPanic.normal ?_
    have S1 := hHeld.2.2
    clear hHeld S0 HR0 C1 C2 tc
    rw [HL.out]
    have S1' := S1.top
    have zr := S1.room
    have zb := S1.base
    go_wp2_with fail
    refine wp_region_noPanic ?_
    refine wp_region_held_drew (S := (fun w' => (w'.cell? ⟨w.heap.size, 0, none⟩ = some (.slice (some ⟨G, 0, none⟩) 4 cx) ∧ w'.cell? ⟨w.heap.size + 1, 0, none⟩ = some (.int .i64 (kn : Int)) ∧ w'.cell? ⟨w.heap.size + 1, 1, none⟩ = some (.int .i64 vt) ∧ w'.cell? ⟨w.heap.size + 1, 2, none⟩ = some (.int .i64 vu) ∧ w'.cell? ⟨w.heap.size + 1, 3, none⟩ = some (.slice va vts.length vc) ∧ w'.cell? ⟨w.heap.size + 1, 4, none⟩ = some (.string vs) ∧ w'.cell? ⟨w.heap.size + 1, 5, none⟩ = some (.bool vg)) ∧ (Blk w' w.heap.size 35 #[.slice (some ⟨G, 0, none⟩) 4 cx] ∧ Blk w' (w.heap.size + 1) 51 (verC (kn : Int) vt vu va vts.length vc vs vg) ∧ Blk w' (w.heap.size + 1 + 1) 35 #[.slice none 0 0]) ∧ w1.heap.size ≤ w'.heap.size)) (by kernel_rfl) (by exact ⟨⟨(S1.drew.nth 2 rfl).at 0, (S1.drew.nth 1 rfl).six.1⟩, ⟨S1.drew.nth 2 rfl, S1.drew.nth 1 rfl, S1.drew.nth 0 rfl⟩, Nat.le_refl _⟩) (fun hHeld => ?_)
    refine take_run 0 (some 15) (v := ?_) rfl rfl (by kernel_rfl) (by kernel_rfl) (by kernel_rfl) (fun _ _ _ h => h) (by rfl) ?_ hHeld ?_
    rotate_left
    · ((intro w hSw); (try dsimp only at hSw); go_simp <;> with_reducible rfl)
    simp only [Act.put, List.setIfInBounds_toArray, List.set_cons_zero, List.set_cons_succ]
    refine take_run 1 (some 16) (v := ?_) rfl rfl (by kernel_rfl) (by kernel_rfl) (by kernel_rfl) (fun _ _ _ h => h) (by rfl) ?_ hHeld ?_
    rotate_left
    · ((intro w hSw); (try dsimp only at hSw); go_simp <;> with_reducible rfl)
    simp only [Act.put, List.setIfInBounds_toArray, List.set_cons_zero, List.set_cons_succ]
    refine take_run 2 (some 17) (v := ?_) rfl rfl (by kernel_rfl) (by kernel_rfl) (by kernel_rfl) (fun _ _ _ h => h) (by rfl) ?_ hHeld ?_
    rotate_left
    · ((intro w hSw); (try dsimp only at hSw); go_simp <;> with_reducible rfl)
    simp only [Act.put, List.setIfInBounds_toArray, List.set_cons_zero, List.set_cons_succ]
    refine take_run 3 (some 18) (v := ?_) rfl rfl (by kernel_rfl) (by kernel_rfl) (by kernel_rfl) (fun _ _ _ h => h) (by rfl) ?_ hHeld ?_
    rotate_left
    · ((intro w hSw); (try dsimp only at hSw); go_simp <;> with_reducible rfl)
    simp only [Act.put, List.setIfInBounds_toArray, List.set_cons_zero, List.set_cons_succ]
    refine take_run 4 (some 19) (v := ?_) rfl rfl (by kernel_rfl) (by kernel_rfl) (by kernel_rfl) (fun _ _ _ h => h) (by rfl) ?_ hHeld ?_
    rotate_left
    · ((intro w hSw); (try dsimp only at hSw); go_simp <;> with_reducible rfl)
    simp only [Act.put, List.setIfInBounds_toArray, List.set_cons_zero, List.set_cons_succ]
    refine take_one 5 (by kernel_rfl) rfl (fun K hK => ?_)
    go_simp
    ((with_reducible refine (HCL.out _ S1.drew.below).mono ?_); rintro e w2 ⟨v', rfl, hlike, hown, hb2⟩; have HLK := hide hlike; have HOW := hide hown; have HB2 := hide hb2; have z2 : w1.heap.size ≤ w2.heap.size := hb2.size; have HR2 := hide ((HR1.out.on (Below.refl _ _).drew).on hb2); obtain ⟨e0, e1, e2, e3, e4, e5⟩ := HR2.out.at' kn y HY.out; have d0 := (HR2.out.blk.at (kn * 6)).trans e0; have d1 := (HR2.out.blk.at (kn * 6 + 1)).trans e1; have d2 := (HR2.out.blk.at (kn * 6 + 2)).trans e2; have d3 := (HR2.out.blk.at (kn * 6 + 3)).trans e3; have d4 := (HR2.out.blk.at (kn * 6 + 4)).trans e4; have d5 := (HR2.out.blk.at (kn * 6 + 5)).trans e5; have f0 := HR2.out.blk.loose (kn * 6); have f1 := HR2.out.blk.loose (kn * 6 + 1); have f2 := HR2.out.blk.loose (kn * 6 + 2); have f3 := HR2.out.blk.loose (kn * 6 + 3); have f4 := HR2.out.blk.loose (kn * 6 + 4); have f5 := HR2.out.blk.loose (kn * 6 + 5))
    try go_wp2_with fail
    refine hK.out _ _ (by exact ⟨⟨((hHeld.2.1.1).on hb2).at 0, ((hHeld.2.1.2.1).on hb2).six.1⟩, ⟨(hHeld.2.1.1).on hb2, (hHeld.2.1.2.1).on hb2, (hHeld.2.1.2.2).on hb2⟩, z2⟩) (fun hHeld => ?_)
    clear hK K
    refine take_run 6 (some 21) (v := ?_) rfl rfl (by kernel_rfl) (by kernel_rfl) (by kernel_rfl) (fun _ _ _ h => h) (by rfl) ?_ hHeld ?_
    rotate_left
    · ((intro w hSw); (try dsimp only at hSw); go_simp <;> with_reducible rfl)
    simp only [Act.put, List.setIfInBounds_toArray, List.set_cons_zero, List.set_cons_succ]
    refine take_one 7 (by kernel_rfl) rfl (fun K hK => ?_)
    go_simp
    refine hK.out _ _ (by exact ⟨⟨(((((((hHeld.2.1.1).aside (by show w.heap.size ≠ G; omega) _).aside (by show w.heap.size ≠ G; omega) _).aside (by show w.heap.size ≠ G; omega) _).aside (by show w.heap.size ≠ G; omega) _).aside (by show w.heap.size ≠ G; omega) _).aside (by show w.heap.size ≠ G; omega) _).at 0, (((((((hHeld.2.1.2.1).aside (by show w.heap.size + 1 ≠ G; omega) _).aside (by show w.heap.size + 1 ≠ G; omega) _).aside (by show w.heap.size + 1 ≠ G; omega) _).aside (by show w.heap.size + 1 ≠ G; omega) _).aside (by show w.heap.size + 1 ≠ G; omega) _).aside (by show w.heap.size + 1 ≠ G; omega) _).six.1⟩, ⟨((((((hHeld.2.1.1).aside (by show w.heap.size ≠ G; omega) _).aside (by show w.heap.size ≠ G; omega) _).aside (by show w.heap.size ≠ G; omega) _).aside (by show w.heap.size ≠ G; omega) _).aside (by show w.heap.size ≠ G; omega) _).aside (by show w.heap.size ≠ G; omega) _, ((((((hHeld.2.1.2.1).aside (by show w.heap.size + 1 ≠ G; omega) _).aside (by show w.heap.size + 1 ≠ G; omega) _).aside (by show w.heap.size + 1 ≠ G; omega) _).aside (by show w.heap.size + 1 ≠ G; omega) _).aside (by show w.heap.size + 1 ≠ G; omega) _).aside (by show w.heap.size + 1 ≠ G; omega) _, ((((((hHeld.2.1.2.2).aside (by show w.heap.size + 1 + 1 ≠ G; omega) _).aside (by show w.heap.size + 1 + 1 ≠ G; omega) _).aside (by show w.heap.size + 1 + 1 ≠ G; omega) _).aside (by show w.heap.size + 1 + 1 ≠ G; omega) _).aside (by show w.heap.size + 1 + 1 ≠ G; omega) _).aside (by show w.heap.size + 1 + 1 ≠ G; omega) _⟩, by simpa [World.setCell] using hHeld.2.2⟩) (fun hHeld => ?_)
    clear hK K
    refine wpAnyH_done (by kernel_rfl) ?_ _
    refine NoPanic.normal ?_
    have hpt := (HR2.out.wide (show U ≤ w2.heap.size by omega)).put6 (j := kn) (v := v') (by omega) (HOW.out.low (by have := HRW.out.lo; omega)) (fun i x hi hx hne hne' => by
      rcases HRW.out.own i x hx with q | ⟨gg, _, q1, _, q2, _⟩
      · exact absurd q hne
      · rcases HOW.out with q | ⟨gg', _, q3, q4, _⟩
        · exact absurd q hne'
        · rw [q1, q3]
          intro e
          injection e with e
          injection e with e
          have q5 : w1.heap.size ≤ gg' := q4
          omega) (fun hne' => by
        rcases HOW.out with q | ⟨gg', _, q3, q4, _⟩
        · exact absurd q hne'
        · rw [q3]
          intro e
          injection e with e
          injection e with e
          have q5 : w1.heap.size ≤ gg' := q4
          omega)
    have hk0 : v'.k = (kn : Int) := HLK.out.1
    have HP := hide hpt
    have HB9 := hide hHeld.2.1
    clear hHeld d0 d1 d2 d3 d4 d5 f0 f1 f2 f3 f4 f5 e0 e1 e2 e3 e4 e5 hpt
    generalize (((((w2.setCell ⟨G, kn * 6, none⟩ (.int .i64 v'.k)).setCell ⟨G, kn * 6 + 1, none⟩ (.int .i64 v'.t)).setCell ⟨G, kn * 6 + 2, none⟩ (.int .i64 v'.u)).setCell ⟨G, kn * 6 + 3, none⟩ (.slice v'.a v'.ts.length v'.c)).setCell ⟨G, kn * 6 + 4, none⟩ (.string v'.s)).setCell ⟨G, kn * 6 + 5, none⟩ (.bool v'.g) = W9 at HP HB9 ⊢
    have q1 := HB9.out.2.2.one
    have q3 := HB9.out.1.one
    go_wp2
    refine bodyPost_ret (v := .agg #[.slice (some ⟨G, 0, none⟩) 4 cx]) (by simp [results, Tryz.results102, go_sem, q1]) rfl ?_
    have tn : ((kn : Int)).toNat = kn := by simp
    have HKL : keepL us ⟨(kn : Int), vt, vu, va, vc, vts, vs, vg⟩ = us.set kn ⟨(kn : Int), vt, vu, va, vc, vts, vs, vg⟩ := by
      have := keepL_yes (us := us) (v := ⟨(kn : Int), vt, vu, va, vc, vts, vs, vg⟩) (x := y) (by simp only; rw [tn]; exact HY.out) HL.out
      simp only [tn] at this
      exact this
    have T1 : Turn (fun g => g = G) w w1 := ⟨S1.below.os, S1.below.tape, S1.below.output, S1.below.size, fun i hi _ => S1.below.block i hi⟩
    have T2 : Turn (fun g => g = G) w W9 := ((T1.trans (.below (Below.refl _ _).drew)).trans (.below HB2.out)).trans HP.out.2
    have P9 := (HP.out.1.aside (p := ⟨w.heap.size + 1 + 1, 0, none⟩) HB9.out.2.2 store_ne_tag (by show G ≠ w.heap.size + 1 + 1; omega) (.slice (some ⟨G, 0, none⟩) 4 cx)).wide HP.out.2.size
    exact ⟨us.set kn v', _, rfl, by simp, by rw [HKL]; exact like_set HLK.out, by simpa [World.setCell] using P9, T2.far (p := ⟨w.heap.size + 1 + 1, 0, none⟩) (by simp only; omega) _⟩
end Go.Proofs.YtjnloillcgeodaaGreat
/- Contracts of StoreAdd, of program and model. Condition: as many versions and tags as a law lets by. -/
namespace Go.Proofs.YtjnloillcgeodaaGreat
open Go.RowKit Go.Joins
attribute [local go_sem ↓] Go.wp_at_zero Go.wp_at_succ

/-- A version as plain data. -/
def verV (v : V) : Bool := verB v.k v.t v.u v.ts v.s v.g
/-- What StoreAdd answers. -/
def addR (vs : List V) (v : V) : List V := if (storeB vs && verV v) = true then keepL vs v else []
/-- An answer that is a store. -/
def AnswerS (w : World) (rs : List V) (e : Ending) (w' : World) : Prop :=
  ∃ (x : Value) (us : List V), e = .returned (.agg #[x]) ∧ us.length = rs.length ∧ Like us rs ∧ ResV w' w.heap.size w'.heap.size x us ∧ Below w.heap.size w w'
theorem res_four {w : World} {B U : Nat} {x : Value} {us : List V} (h : ResV w B U x us) (h4 : us.length = 4) : ∃ G cap cur, x = .slice (some ⟨G, 0, none⟩) 4 cap ∧ ORow w B U G us cur := by
  rcases h with ⟨rfl, _⟩ | ⟨G, cap, cur, rfl, hO⟩
  · simp at h4
  · exact ⟨G, cap, cur, by rw [h4], hO⟩
theorem verV_key {v : V} (h : verV v = true) : 0 ≤ v.k ∧ v.k ≤ 3 := by
  unfold verV verB at h
  simp at h
  omega

end Go.Proofs.YtjnloillcgeodaaGreat
