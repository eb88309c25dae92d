/- Contract of slices.SortFunc by byTag over a row of versions of the call's own. Condition: at most 12 of them. -/
import Derived.Test.YtjnloillcgeodaaGreatJSortLay
import Derived.Test.YtjnloillcgeodaaGreatJChainClone
import Derived.Test.YtjnloillcgeodaaGreatJLack
import Derived.Test.YtjnloillcgeodaaGreatJFallPure
import Derived.Deep.RegionLaw
import Derived.Lib.SliceRun
namespace Go.Proofs.YtjnloillcgeodaaGreat
open Go.RowKit Go.Joins
attribute [local go_sem ↓] Go.wp_at_zero Go.wp_at_succ

theorem cells6_len (v : V) : (cells6 v).length = 6 := rfl
theorem cells6_one (v : V) : ∀ u ∈ cells6 v, u.oneCell' = true := fun u hu => by
  simp only [cells6, List.mem_cons, List.not_mem_nil, or_false] at hu
  rcases hu with rfl | rfl | rfl | rfl | rfl | rfl <;> rfl
theorem flatK6 (us : List V) : (Go.Sort.flatK cells6 6 us.toArray) = (flat6 us).toArray := by
  apply Array.ext
  · rw [Go.Sort.size_flatK]
    simp [flat6_len]
  · intro t h1 h2
    rw [Go.Sort.size_flatK] at h1
    have hl : t / 6 < us.length := by simp at h1; omega
    have e := Go.Sort.get_flatK cells6 6 us.toArray t h1
    have hb : t < (Go.Sort.flatK cells6 6 us.toArray).size := by rw [Go.Sort.size_flatK]; exact h1
    rw [getElem!_pos _ t hb] at e
    rw [e]
    have hg : us.toArray[t / 6]! = us[t / 6] := by
      rw [getElem!_pos us.toArray (t / 6) (by simpa using hl)]
      simp
    rw [hg]
    have h6 := flat6_at us (t / 6) us[t / 6] (t % 6) (List.getElem?_eq_getElem hl) (Nat.mod_lt _ (by decide))
    rw [show t / 6 * 6 + t % 6 = t by omega] at h6
    have hm : t % 6 < (cells6 us[t / 6]).length := by rw [cells6_len]; exact Nat.mod_lt _ (by decide)
    rw [List.getElem?_eq_getElem hm] at h6
    obtain ⟨q, h7⟩ := List.getElem?_eq_some_iff.1 h6
    rw [getElem!_pos (cells6 us[t / 6]) (t % 6) hm]
    simp only [List.getElem_toArray]
    exact h7.symm
theorem holdsK6 {base : Nat} {w : World} {g c : Nat} {us : List V} (h : CRow base w (.slice (some ⟨g, 0, none⟩) us.length c) us) : Go.Sort.HoldsK cells6 6 w g 0 us.toArray := by
  unfold Go.Sort.HoldsK Go.Sort.Holds
  rw [flatK6]
  intro j hj
  have hj' : j < us.length * 6 := by simpa [flat6_len] using hj
  refine ⟨?_, ?_⟩
  · rw [Nat.zero_add, World.ownsRow.cellAt (n := us.length) h.row j hj']
    have hl : j < (flat6 us).length := by rw [flat6_len]; exact hj'
    rw [List.getElem?_eq_getElem hl, getElem!_pos _ j hj]
    simp
  · obtain ⟨cs, hb, _⟩ := h.typed g rfl
    exact hb.loose _
theorem cmpLaysV (blk off size : Nat) (w : World) : Go.Proofs.CmpLays Tryz.prog 63 #[] cells6 6 cfV blk off size w :=
  fun _ _ _ _ x y => byTag_gr x y _
/-- What a sort makes of the world. -/
theorem sorted_block {w : World} {g : Nat} {cr : Array Value} (h : Blk w g 51 cr) (n : Nat) (us' : List V) (os : Array Obj) (hs : us'.length * 6 ≤ cr.size) :
    ∃ cr', Blk (Go.Proofs.sortWorldK cells6 6 w g 0 n us'.toArray os) g 51 cr' ∧ cr'.size = cr.size ∧ cr'.toList.take (us'.length * 6) = flat6 us' := by
  refine ⟨Go.Sort.putCells id 0 (flat6 us').toArray cr, ?_, ?_, ?_⟩
  · unfold Go.Proofs.sortWorldK Go.Sort.putRowK Go.Sort.putRow Go.Sort.mapBlock Go.Sort.grow Blk
    rw [flatK6]
    have hi := h.inside
    show ((Go.Sort.ahead w n).heap.modify g _ ++ os)[g]? = _
    rw [Array.getElem?_append_left (by rw [Array.size_modify]; exact hi), Array.getElem?_modify, if_pos rfl]
    show Option.map _ (w.heap[g]?) = _
    rw [show w.heap[g]? = some (.cells cr 51 (0, 0)) from h]
    rfl
  · unfold Go.Sort.putCells
    rw [Array.size_mapIdx]
  · apply List.ext_getElem?
    intro i
    by_cases hi : i < us'.length * 6
    · rw [List.getElem?_take_of_lt hi]
      have hl : i < (flat6 us').length := by rw [flat6_len]; exact hi
      unfold Go.Sort.putCells
      rw [Array.getElem?_toList, Array.getElem?_mapIdx, Array.getElem?_eq_getElem (by omega : i < cr.size), List.getElem?_eq_getElem hl]
      simp only [Option.map_some, Nat.zero_le, Nat.zero_add, true_and, List.size_toArray, Nat.sub_zero, id_eq]
      rw [if_pos hl, getElem!_pos _ i (by simpa using hl)]
      simp
    · rw [List.getElem?_eq_none (by rw [List.length_take]; omega), List.getElem?_eq_none (by rw [flat6_len]; omega)]
theorem sorted_turn (w : World) (g n : Nat) (us' : List V) (os : Array Obj) : Turn (fun y => y = g) w (Go.Proofs.sortWorldK cells6 6 w g 0 n us'.toArray os) := by
  unfold Go.Proofs.sortWorldK Go.Sort.putRowK Go.Sort.putRow Go.Sort.mapBlock Go.Sort.grow
  refine ⟨rfl, rfl, rfl, ?_, fun k hk hne => ?_⟩
  · show w.heap.size ≤ ((Go.Sort.ahead w n).heap.modify g _ ++ os).size
    rw [Array.size_append, Array.size_modify]
    exact Nat.le_add_right _ _
  · show ((Go.Sort.ahead w n).heap.modify g _ ++ os)[k]? = _
    rw [Array.getElem?_append_left (by rw [Array.size_modify]; exact hk), Array.getElem?_modify, if_neg (fun e => hne e.symm)]
    rfl
/-- A row of versions, put in another order in place. -/
theorem CRow.sorted {base : Nat} {w : World} {g c n : Nat} {us us' : List V} {os : Array Obj} (h : CRow base w (.slice (some ⟨g, 0, none⟩) us.length c) us) (hp : us'.Perm us) :
    CRow base (Go.Proofs.sortWorldK cells6 6 w g 0 n us'.toArray os) (.slice (some ⟨g, 0, none⟩) us'.length c) us' := by
  have hT := sorted_turn w g n us' os
  have hl := hp.length_eq
  have hrow : ∃ cr, Blk w g 51 cr ∧ base ≤ g ∧ us.length ≤ c ∧ c ≤ maxLen ∧ cr.size = c * 6 := by
    rcases h.row.2 with ⟨q, _⟩ | ⟨g', cap, cr, q, h1, h2, h3, h4, h5, _⟩
    · cases q
    · injection q with q1 q2 q3
      injection q1 with q1
      injection q1 with q1
      subst q1 q3
      exact ⟨cr, h2, h1, h3, h4, h5⟩
  obtain ⟨cr, hb, h1, h3, h4, h5⟩ := hrow
  obtain ⟨cr', hb', hs', ht'⟩ := sorted_block hb n us' os (by rw [h5]; omega)
  have hap : us.Pairwise (fun v v' => v.ts ≠ [] → v'.ts ≠ [] → v.a ≠ v'.a) := by
    rw [List.pairwise_iff_getElem]
    intro i j hi hj hij
    exact h.apart i j _ _ (by omega) (List.getElem?_eq_getElem hi) (List.getElem?_eq_getElem hj)
  have hap' := (List.Perm.pairwise_iff (fun {x y} q a b => fun e => q b a e.symm) hp).2 hap
  rw [List.pairwise_iff_getElem] at hap'
  refine ⟨⟨by rw [flat6_len], .inr ⟨g, c, cr', rfl, h1, hb', by omega, h4, by rw [hs', h5], ht'⟩⟩, fun i v hi => ?_, fun i j v v' hne hi hj q q' => ?_, Nat.le_trans h.lo hT.size⟩
  · obtain ⟨j, hj⟩ := List.getElem?_of_mem (hp.mem_iff.1 (List.mem_of_getElem? hi))
    have ho := h.own j v hj
    refine (ho.turned hT (fun g' hg' _ _ hnz e => ?_)).wide hT.size
    rcases ho with q | ⟨g2, cur, e2, _, _, hb2, _⟩
    · exact hnz q
    · rw [hg'] at e2
      injection e2 with e2
      injection e2 with e2
      subst e2
      rw [e] at hb2
      exact ver_ne_tag (blk_one hb hb2)
  · obtain ⟨hi1, rfl⟩ := List.getElem?_eq_some_iff.1 hi
    obtain ⟨hj1, rfl⟩ := List.getElem?_eq_some_iff.1 hj
    rcases Nat.lt_or_gt_of_ne hne with hlt | hlt
    · exact hap' i j hi1 hj1 hlt q q'
    · exact fun e => hap' j i hj1 hi1 hlt q' q e.symm
set_option maxHeartbeats 2000000 in
theorem sort_row (base g c : Nat) (us : List V) (w : World) (h : CRow base w (.slice (some ⟨g, 0, none⟩) us.length c) us) (h12 : us.length ≤ 12) :
    Calls Tryz.prog 62 #[.slice (some ⟨g, 0, none⟩) us.length c, .func (.func 63) #[] #[]] w fun e w' =>
      e = .returned (.tuple #[]) ∧ ∃ us', us'.Perm us ∧ us'.Pairwise (fun a b => ltV b a = false) ∧ CRow base w' (.slice (some ⟨g, 0, none⟩) us'.length c) us' ∧ Turn (fun y => y = g) w w' := by
  have hblk : g < w.heap.size := h.caps.2
  have C := Go.Proofs.AnyQ.slices_SortFunc_small_sorted sortVer 6 isAggV sizeOfV cells6 cells6_len cells6_one cfV 63 #[] swoV g 0 c us.toArray w enters_byTag (cmpLaysV g 0 _ w) (holdsK6 h) hblk (by simpa using h12) lenV
  change Calls Tryz.prog 62 _ _ _ at C
  simp only [List.size_toArray] at C
  refine C.mono ?_
  rintro e w' ⟨he, d', n, os, hp, hs, rfl⟩
  obtain ⟨us', rfl⟩ : ∃ us' : List V, d' = us'.toArray := ⟨d'.toList, by simp⟩
  have hsz : us'.length = us.length := by simpa using hp.1
  have hperm : us'.Perm us := by
    have := hp.2.2
    simp only [List.extract_toArray, List.extract_eq_take_drop, Nat.sub_zero, List.drop_zero] at this
    rw [List.take_of_length_le (by omega), List.take_of_length_le (Nat.le_refl _)] at this
    exact this
  refine ⟨he, us', hperm, ?_, h.sorted hperm, sorted_turn w g n us' os⟩
  rw [List.pairwise_iff_getElem]
  intro i j hi hj hij
  have := hs i j (Nat.zero_le _) hij (by omega)
  rw [getElem!_pos _ j (by simpa using hj), getElem!_pos _ i (by simpa using hi)] at this
  simpa using this
theorem sort_none (w : World) :
    Calls Tryz.prog 62 #[.slice none 0 0, .func (.func 63) #[] #[]] w fun e w' => e = .returned (.tuple #[]) ∧ w' = w :=
  Go.Proofs.AnyF.slices_SortFunc_none sortVer none 0 _ w
end Go.Proofs.YtjnloillcgeodaaGreat
/- Contract of the program's owed: what the next node lacks, sorted, in memory of its own. Condition: at most four nodes, each valid by itself. -/
namespace Go.Proofs.YtjnloillcgeodaaGreat
open Go.RowKit Go.Joins
attribute [local go_sem ↓] Go.wp_at_zero Go.wp_at_succ

theorem set_same {l : List V} {i : Nat} {v : V} (h : l[i]? = some v) : l.set i v = l := by
  apply List.ext_getElem?
  intro j
  by_cases e : j = i
  · subst e
    rw [List.getElem?_set_self (List.getElem?_eq_some_iff.1 h).1, h]
  · rw [List.getElem?_set_ne (fun q => e q.symm)]
theorem below_turnP {P : Nat → Prop} {n : Nat} {w wr w' : World} (h : Below n w wr) (hn : n ≤ wr.heap.size) (ht : Turn P wr w') (hP : ∀ y, P y → n ≤ y) : Below n w w' :=
  ⟨ht.os.trans h.os, ht.tape.trans h.tape, ht.output.trans h.output, Nat.le_trans h.size ht.size, fun k hk => (ht.block k (by omega) (fun q => by have := hP k q; omega)).trans (h.block k hk)⟩
/-- What a node owes the next one. -/
def owesL (us : List Nd) (k : Nat) (n : Nd) : List V := match us[k + 1]? with | some m => lackN n.ss m.ss 4 | none => []
def OwedP (w : World) (us : List Nd) (k : Nat) (n : Nd) (e : Ending) (w' : World) : Prop :=
  ∃ (A : Option Addr) (cap : Nat) (ws : List V), e = .returned (.slice A ws.length cap) ∧ LL ws (owesL us k n) ∧ CRow w.heap.size w' (.slice A ws.length cap) ws ∧ Below w.heap.size w w'
set_option maxRecDepth 100000 in
set_option maxHeartbeats 8000000 in
theorem owed_any (B L base G xc k : Nat) (us : List Nd) (n : Nd) (w : World) (hG : GRow base w (.slice (some ⟨G, 0, none⟩) us.length xc) us) (hL : LinkAt w B L (some ⟨G, 0, none⟩) G us.length xc k) (hk : us[k]? = some n) (hl : us.length ≤ 4) (hB : ∀ (i : Nat) m, us[i]? = some m → nodeB m = true) :
    Calls Tryz.prog 35 #[.pointer (some ⟨L, 0, none⟩)] w (OwedP w us k n) := by
  obtain ⟨i0, hi0, hz0, hz1, hz2⟩ := info_parts ver_info
  have I0 := hide hi0
  have I1 := hide hz0
  have I2 := hide hz1
  have I3 := hide hz2
  clear hi0 hz0 hz1 hz2
  have hkl := (List.getElem?_eq_some_iff.1 hk).1
  obtain ⟨cur, hcg⟩ := hG.cgs (by omega)
  obtain ⟨b1, b2, -, -, -, hL1, hL2, hL3⟩ := hL
  have CT := hide (next_any G us.length xc k b1 b2 w (by omega) (by omega) hL2 hL3)
  have q0 := hL1.two.1
  have q1 : w.cell? ⟨L, 1, none⟩ = some (.func (.func 61) #[] #[.pointer (some ⟨b1, 0, none⟩), .pointer (some ⟨b2, 0, none⟩)]) := hL1.at 1
  have HL1 := hide hL1
  have HCG := hide hcg
  have HK := hide hk
  have HB := hide hB
  clear hG hcg hk hB hL1 hL2 hL3
  go_enter Tryz.func35, Tryz.ntmps35
  go_wp2_with fail
  with_reducible refine CT.out.mono ?_
  rintro e w1 ⟨hE, hb1⟩
  have HE := hide hE
  have HB1 := hide hb1
  clear hE CT q0 q1
  by_cases hlt : k + 1 < us.length
  · have hq := HE.out
    rw [if_pos hlt] at hq
    obtain ⟨L', rfl, hL'⟩ := hq
    obtain ⟨_, _, _, _, _, hL1', _, _⟩ := hL'
    have HL' := hide hL1'
    clear hL1' HE
    obtain ⟨m, hm⟩ : ∃ m, us[k + 1]? = some m := ⟨_, List.getElem?_eq_getElem hlt⟩
    have HOE : Hid (owesL us k n = lackN n.ss m.ss 4) := by unfold Hid owesL; rw [hm]
    have hsn := (nodeB_parts (HB.out k n HK.out)).1
    have hsm := (nodeB_parts (HB.out (k + 1) m hm)).1
    have HSN := hide hsn
    have HSM := hide hsm
    have HN4 := hide (storeB_four hsn)
    have HM4 := hide (storeB_four hsm)
    have HC1 := hide (HCG.out.on HB1.out)
    have p0 : w1.cell? ⟨L, 0, none⟩ = some (.pointer (some ⟨G, k * 2, none⟩)) := (HL1.out.on HB1.out).two.1
    have n0 : w1.cell? ⟨G, k * 2, none⟩ = some (.slice n.sa 4 n.sc) := by rw [← HN4.out]; exact (HC1.out.blk.at _).trans (HC1.out.at' k n HK.out).1
    have M0 : Hid (cur[(k + 1) * 2]? = some (.slice m.sa 4 m.sc)) := by have := (HC1.out.at' (k + 1) m hm).1; rw [HM4.out] at this; exact this
    have HGN := hide HC1.out.blk
    obtain ⟨bn, on, hna, hbn, hxn⟩ : ∃ b off : Nat, n.sa = some ⟨b, off, none⟩ ∧ b < w1.heap.size ∧ ∀ i v, n.ss[i]? = some v → Six w1 b (off + i * 6) v ∧ Tg w1 w1.heap.size v.a v.ts := by
      rcases HC1.out.store k n HK.out with h0 | h0
      · have := HN4.out; rw [h0] at this; simp at this
      · exact h0
    obtain ⟨bm, om, hma, hbm, hxm⟩ : ∃ b off : Nat, m.sa = some ⟨b, off, none⟩ ∧ b < w1.heap.size ∧ ∀ i v, m.ss[i]? = some v → Six w1 b (off + i * 6) v ∧ Tg w1 w1.heap.size v.a v.ts := by
      rcases HC1.out.store (k + 1) m hm with h0 | h0
      · have := HM4.out; rw [h0] at this; simp at this
      · exact h0
    rw [hna] at n0
    have HXN := hide hxn
    have HXM := hide hxm
    have M1 : Hid (cur[(k + 1) * 2]? = some (.slice (some ⟨bm, om, none⟩) 4 m.sc)) := by rw [← hma]; exact M0.out
    have HTS : Hid (∀ v ∈ n.ss, v.ts.length ≤ 1048576) := fun v hv => by have := (few_store HSN.out).2 v hv; omega
    have z1 := hb1.size
    clear hm hsn hsm hxn hxm hna hma M0
    go_wp2_with fail
    go_loopw [4, 23] (fun x i wr => ∃ (j : Nat) (xs : List V), j ≤ 4 ∧ i = .int .i64 (j : Int) ∧ Hid (LL xs n.ss) ∧ Hid (CRow w1.heap.size wr x (filtL xs m.ss j)) ∧ Below w1.heap.size w1 wr) (fun _ i _ => 4 - (intOf i).toNat)
    case atStart => exact ⟨0, n.ss, Nat.zero_le _, rfl, ll_refl _, CRow.start _ w1 (Nat.le_refl _), Below.refl _ _⟩
    case round =>
      clear p0 n0
      obtain ⟨j, xs, hj, rfl, HLL, HC, hL⟩ := hrel
      by_cases hj4 : j < 4
      · obtain ⟨v, hv⟩ : ∃ v, n.ss[j]? = some v := ⟨_, List.getElem?_eq_getElem (by have := HN4.out; omega)⟩
        obtain ⟨y, hy⟩ : ∃ y, m.ss[j]? = some y := ⟨_, List.getElem?_eq_getElem (by have := HM4.out; omega)⟩
        obtain ⟨xv, hxv, hxl⟩ := ll_at (ll_symm HLL.out) hv
        have HV := hide hv
        have HY := hide hy
        have HXV := hide hxv
        have HXL := hide hxl
        obtain ⟨hSn, hTn⟩ := HXN.out j v hv
        obtain ⟨hSm, -⟩ := HXM.out j y hy
        obtain ⟨s0, s1, s2, s3, s4, s5⟩ := hSn.keep hbn fun _ hp => hL.cell hp
        have HTN := hide hTn
        have QM := hide hSm
        have hz := hL.size
        have i1 : (0 : Int) ≤ (j : Int) := by omega
        have i2 : (j : Int) < 4 := by omega
        have LA := below_alloc1 wr (.cells (verC v.k v.t v.u v.a v.ts.length v.c v.s v.g) 51)
        have B6 := Blk.made wr 51 (verC v.k v.t v.u v.a v.ts.length v.c v.s v.g)
        have LW := hL.trans (LA.mono hz)
        have HCA := hide (HC.out.on LA)
        clear hv hy hxv hxl hSn hTn hSm
        go_wp2_with fail
        clear s0 s1 s2 s3 s4 s5
        generalize hWa : wr.alloc (.cells (verC v.k v.t v.u v.a v.ts.length v.c v.s v.g) 51) = Wa at LA B6 LW HCA ⊢
        have za : Wa.heap.size = wr.heap.size + 1 := by rw [← hWa]; simp
        obtain ⟨p6, hp6⟩ : ∃ p6, p6 = wr.heap.size := ⟨_, rfl⟩
        rw [← hp6] at B6 ⊢
        have HP6 := hide hp6
        have HWA := hide hWa
        have LR := Below.refl Wa.heap.size Wa
        clear hWa hp6
        cases hb : lessB y.t y.u v.t v.u
        · have HLB := hide hb
          clear hb
          refine wp_region_noPanic ?_
          refine wp_region_held_drew (S := (fun w' => (w'.cell? ⟨L', 0, none⟩ = some (.pointer (some ⟨G, (k + 1) * 2, none⟩)) ∧ w'.cell? ⟨G, (k + 1) * 2, none⟩ = some (.slice (some ⟨bm, om, none⟩) 4 m.sc)) ∧ (w'.cell? ⟨bm, om + j * 6 + 1, none⟩ = some (.int .i64 y.t) ∧ w'.cell? ⟨bm, om + j * 6 + 2, none⟩ = some (.int .i64 y.u)) ∧ (w'.cell? ⟨p6, 1, none⟩ = some (.int .i64 v.t) ∧ w'.cell? ⟨p6, 2, none⟩ = some (.int .i64 v.u)) ∧ Below Wa.heap.size Wa w')) (by kernel_rfl) (by exact ⟨⟨((HL'.out.on LW).drew).two.1, (((HGN.out.on LW).drew).at _).trans M1.out⟩, ⟨(QM.out.keep hbm fun _ hp => LW.drew.cell hp).2.1, (QM.out.keep hbm fun _ hp => LW.drew.cell hp).2.2.1⟩, ⟨(B6.drew).at 1, (B6.drew).at 2⟩, LR.drew⟩) (fun hHeld => ?_)
          refine take_run 0 (some 28) (v := ?_) rfl rfl (by kernel_rfl) (by kernel_rfl) (by kernel_rfl) (fun _ _ _ h => h) (by rfl) ?_ hHeld ?_
          rotate_left
          · ((intro w hSw); (try dsimp only at hSw); go_simp <;> with_reducible rfl)
          simp only [Act.put, List.setIfInBounds_toArray, List.set_cons_zero, List.set_cons_succ]
          refine take_run 1 (some 29) (v := ?_) rfl rfl (by kernel_rfl) (by kernel_rfl) (by kernel_rfl) (fun _ _ _ h => h) (by rfl) ?_ hHeld ?_
          rotate_left
          · ((intro w hSw); (try dsimp only at hSw); go_simp <;> with_reducible rfl)
          simp only [Act.put, List.setIfInBounds_toArray, List.set_cons_zero, List.set_cons_succ]
          refine take_run 2 (some 30) (v := ?_) rfl rfl (by kernel_rfl) (by kernel_rfl) (by kernel_rfl) (fun _ _ _ h => h) (by rfl) ?_ hHeld ?_
          rotate_left
          · ((intro w hSw); (try dsimp only at hSw); go_simp <;> with_reducible rfl)
          simp only [Act.put, List.setIfInBounds_toArray, List.set_cons_zero, List.set_cons_succ]
          refine take_run 3 (some 31) (v := ?_) rfl rfl (by kernel_rfl) (by kernel_rfl) (by kernel_rfl) (fun _ _ _ h => h) (by rfl) ?_ hHeld ?_
          rotate_left
          · ((intro w hSw); (try dsimp only at hSw); go_simp <;> with_reducible rfl)
          simp only [Act.put, List.setIfInBounds_toArray, List.set_cons_zero, List.set_cons_succ]
          refine take_run 4 (some 32) (v := ?_) rfl rfl (by kernel_rfl) (by kernel_rfl) (by kernel_rfl) (fun _ _ _ h => h) (by rfl) ?_ hHeld ?_
          rotate_left
          · ((intro w hSw); (try dsimp only at hSw); go_simp <;> with_reducible rfl)
          simp only [Act.put, List.setIfInBounds_toArray, List.set_cons_zero, List.set_cons_succ]
          refine take_run 5 (some 33) (v := ?_) rfl rfl (by kernel_rfl) (by kernel_rfl) (by kernel_rfl) (fun _ _ _ h => h) (by rfl) ?_ hHeld ?_
          rotate_left
          · ((intro w hSw); (try dsimp only at hSw); go_simp <;> with_reducible rfl)
          simp only [Act.put, List.setIfInBounds_toArray, List.set_cons_zero, List.set_cons_succ]
          refine take_run 6 (some 34) (v := ?_) rfl rfl (by kernel_rfl) (by kernel_rfl) (by kernel_rfl) (fun _ _ _ h => h) (by rfl) ?_ hHeld ?_
          rotate_left
          · ((intro w hSw); (try dsimp only at hSw); go_simp <;> with_reducible rfl)
          simp only [Act.put, List.setIfInBounds_toArray, List.set_cons_zero, List.set_cons_succ]
          refine take_run 7 (some 35) (v := ?_) rfl rfl (by kernel_rfl) (by kernel_rfl) (by kernel_rfl) (fun _ _ _ h => h) (by rfl) ?_ hHeld ?_
          rotate_left
          · ((intro w hSw); (try dsimp only at hSw); go_simp <;> with_reducible rfl)
          simp only [Act.put, List.setIfInBounds_toArray, List.set_cons_zero, List.set_cons_succ]
          refine take_run 8 (some 36) (v := ?_) rfl rfl (by kernel_rfl) (by kernel_rfl) (by kernel_rfl) (fun _ _ _ h => h) (by rfl) ?_ hHeld ?_
          rotate_left
          · ((intro w hSw); (try dsimp only at hSw); go_simp <;> with_reducible rfl)
          simp only [Act.put, List.setIfInBounds_toArray, List.set_cons_zero, List.set_cons_succ]
          refine take_run 9 (some 37) (v := ?_) rfl rfl (by kernel_rfl) (by kernel_rfl) (by kernel_rfl) (fun _ _ _ h => h) (by rfl) ?_ hHeld ?_
          rotate_left
          · ((intro w hSw); (try dsimp only at hSw); go_simp <;> with_reducible rfl)
          simp only [Act.put, List.setIfInBounds_toArray, List.set_cons_zero, List.set_cons_succ]
          refine take_run 10 (some 38) (v := ?_) rfl rfl (by kernel_rfl) (by kernel_rfl) (by kernel_rfl) (fun _ _ _ h => h) (by rfl) ?_ hHeld ?_
          rotate_left
          · ((intro w hSw); (try dsimp only at hSw); go_simp <;> with_reducible rfl)
          simp only [Act.put, List.setIfInBounds_toArray, List.set_cons_zero, List.set_cons_succ]
          refine take_run 11 (some 39) (v := ?_) rfl rfl (by kernel_rfl) (by kernel_rfl) (by kernel_rfl) (fun _ _ _ h => h) (by rfl) ?_ hHeld ?_
          rotate_left
          · ((intro w hSw); (try dsimp only at hSw); go_simp <;> with_reducible rfl)
          simp only [Act.put, List.setIfInBounds_toArray, List.set_cons_zero, List.set_cons_succ]
          refine take_run 12 (some 40) (v := ?_) rfl rfl (by kernel_rfl) (by kernel_rfl) (by kernel_rfl) (fun _ _ _ h => h) (by rfl) ?_ hHeld ?_
          rotate_left
          · ((intro w hSw); (try dsimp only at hSw); go_simp <;> with_reducible rfl)
          simp only [Act.put, List.setIfInBounds_toArray, List.set_cons_zero, List.set_cons_succ]
          refine take_run 13 (some 41) (v := ?_) rfl rfl (by kernel_rfl) (by kernel_rfl) (by kernel_rfl) (fun _ _ _ h => h) (by rfl) ?_ hHeld ?_
          rotate_left
          · ((intro w hSw); (try dsimp only at hSw); go_simp <;> with_reducible rfl)
          simp only [Act.put, List.setIfInBounds_toArray, List.set_cons_zero, List.set_cons_succ]
          refine take_one 14 (by kernel_rfl) rfl (fun K hK => ?_)
          go_simp
          (refine (less_any _ _ _ _ _).mono ?_; rintro e w8 ⟨rfl, hb⟩; rw [HLB.out]; have LX := hHeld.2.2.2.trans (hb.mono hHeld.2.2.2.size))
          try go_wp2_with fail
          refine hK.out _ _ (by exact ⟨⟨((HL'.out.on LW).on LX).two.1, (((HGN.out.on LW).on LX).at _).trans M1.out⟩, ⟨(QM.out.keep hbm fun _ hp => (LW.trans (LX.mono LW.size)).cell hp).2.1, (QM.out.keep hbm fun _ hp => (LW.trans (LX.mono LW.size)).cell hp).2.2.1⟩, ⟨(B6.on LX).at 1, (B6.on LX).at 2⟩, LX⟩) (fun hHeld => ?_)
          clear hK K
          refine wpAnyH_done (by kernel_rfl) ?_ _
          refine NoPanic.normal ?_
          have LY := LW.trans (hHeld.2.2.2.mono LW.size)
          have HC8 := hide (HCA.out.on hHeld.2.2.2)
          have hff : filtL xs m.ss (j + 1) = filtL xs m.ss j := filtL_not HXV.out HY.out (by rw [← HXL.out.2.1, ← HXL.out.2.2.1]; exact HLB.out)
          clear hHeld LX
          go_wp2
          exact ⟨⟨j + 1, xs, by omega, by go_num, HLL, by rw [hff]; exact HC8.out, LY⟩, by simp [intOf]; omega⟩
        · have HLB := hide hb
          clear hb
          refine wp_region_noPanic ?_
          refine wp_region_held_drew (S := (fun w' => (w'.cell? ⟨L', 0, none⟩ = some (.pointer (some ⟨G, (k + 1) * 2, none⟩)) ∧ w'.cell? ⟨G, (k + 1) * 2, none⟩ = some (.slice (some ⟨bm, om, none⟩) 4 m.sc)) ∧ (w'.cell? ⟨bm, om + j * 6 + 1, none⟩ = some (.int .i64 y.t) ∧ w'.cell? ⟨bm, om + j * 6 + 2, none⟩ = some (.int .i64 y.u)) ∧ (w'.cell? ⟨p6, 1, none⟩ = some (.int .i64 v.t) ∧ w'.cell? ⟨p6, 2, none⟩ = some (.int .i64 v.u)) ∧ Below Wa.heap.size Wa w')) (by kernel_rfl) (by exact ⟨⟨((HL'.out.on LW).drew).two.1, (((HGN.out.on LW).drew).at _).trans M1.out⟩, ⟨(QM.out.keep hbm fun _ hp => LW.drew.cell hp).2.1, (QM.out.keep hbm fun _ hp => LW.drew.cell hp).2.2.1⟩, ⟨(B6.drew).at 1, (B6.drew).at 2⟩, LR.drew⟩) (fun hHeld => ?_)
          refine take_run 0 (some 28) (v := ?_) rfl rfl (by kernel_rfl) (by kernel_rfl) (by kernel_rfl) (fun _ _ _ h => h) (by rfl) ?_ hHeld ?_
          rotate_left
          · ((intro w hSw); (try dsimp only at hSw); go_simp <;> with_reducible rfl)
          simp only [Act.put, List.setIfInBounds_toArray, List.set_cons_zero, List.set_cons_succ]
          refine take_run 1 (some 29) (v := ?_) rfl rfl (by kernel_rfl) (by kernel_rfl) (by kernel_rfl) (fun _ _ _ h => h) (by rfl) ?_ hHeld ?_
          rotate_left
          · ((intro w hSw); (try dsimp only at hSw); go_simp <;> with_reducible rfl)
          simp only [Act.put, List.setIfInBounds_toArray, List.set_cons_zero, List.set_cons_succ]
          refine take_run 2 (some 30) (v := ?_) rfl rfl (by kernel_rfl) (by kernel_rfl) (by kernel_rfl) (fun _ _ _ h => h) (by rfl) ?_ hHeld ?_
          rotate_left
          · ((intro w hSw); (try dsimp only at hSw); go_simp <;> with_reducible rfl)
          simp only [Act.put, List.setIfInBounds_toArray, List.set_cons_zero, List.set_cons_succ]
          refine take_run 3 (some 31) (v := ?_) rfl rfl (by kernel_rfl) (by kernel_rfl) (by kernel_rfl) (fun _ _ _ h => h) (by rfl) ?_ hHeld ?_
          rotate_left
          · ((intro w hSw); (try dsimp only at hSw); go_simp <;> with_reducible rfl)
          simp only [Act.put, List.setIfInBounds_toArray, List.set_cons_zero, List.set_cons_succ]
          refine take_run 4 (some 32) (v := ?_) rfl rfl (by kernel_rfl) (by kernel_rfl) (by kernel_rfl) (fun _ _ _ h => h) (by rfl) ?_ hHeld ?_
          rotate_left
          · ((intro w hSw); (try dsimp only at hSw); go_simp <;> with_reducible rfl)
          simp only [Act.put, List.setIfInBounds_toArray, List.set_cons_zero, List.set_cons_succ]
          refine take_run 5 (some 33) (v := ?_) rfl rfl (by kernel_rfl) (by kernel_rfl) (by kernel_rfl) (fun _ _ _ h => h) (by rfl) ?_ hHeld ?_
          rotate_left
          · ((intro w hSw); (try dsimp only at hSw); go_simp <;> with_reducible rfl)
          simp only [Act.put, List.setIfInBounds_toArray, List.set_cons_zero, List.set_cons_succ]
          refine take_run 6 (some 34) (v := ?_) rfl rfl (by kernel_rfl) (by kernel_rfl) (by kernel_rfl) (fun _ _ _ h => h) (by rfl) ?_ hHeld ?_
          rotate_left
          · ((intro w hSw); (try dsimp only at hSw); go_simp <;> with_reducible rfl)
          simp only [Act.put, List.setIfInBounds_toArray, List.set_cons_zero, List.set_cons_succ]
          refine take_run 7 (some 35) (v := ?_) rfl rfl (by kernel_rfl) (by kernel_rfl) (by kernel_rfl) (fun _ _ _ h => h) (by rfl) ?_ hHeld ?_
          rotate_left
          · ((intro w hSw); (try dsimp only at hSw); go_simp <;> with_reducible rfl)
          simp only [Act.put, List.setIfInBounds_toArray, List.set_cons_zero, List.set_cons_succ]
          refine take_run 8 (some 36) (v := ?_) rfl rfl (by kernel_rfl) (by kernel_rfl) (by kernel_rfl) (fun _ _ _ h => h) (by rfl) ?_ hHeld ?_
          rotate_left
          · ((intro w hSw); (try dsimp only at hSw); go_simp <;> with_reducible rfl)
          simp only [Act.put, List.setIfInBounds_toArray, List.set_cons_zero, List.set_cons_succ]
          refine take_run 9 (some 37) (v := ?_) rfl rfl (by kernel_rfl) (by kernel_rfl) (by kernel_rfl) (fun _ _ _ h => h) (by rfl) ?_ hHeld ?_
          rotate_left
          · ((intro w hSw); (try dsimp only at hSw); go_simp <;> with_reducible rfl)
          simp only [Act.put, List.setIfInBounds_toArray, List.set_cons_zero, List.set_cons_succ]
          refine take_run 10 (some 38) (v := ?_) rfl rfl (by kernel_rfl) (by kernel_rfl) (by kernel_rfl) (fun _ _ _ h => h) (by rfl) ?_ hHeld ?_
          rotate_left
          · ((intro w hSw); (try dsimp only at hSw); go_simp <;> with_reducible rfl)
          simp only [Act.put, List.setIfInBounds_toArray, List.set_cons_zero, List.set_cons_succ]
          refine take_run 11 (some 39) (v := ?_) rfl rfl (by kernel_rfl) (by kernel_rfl) (by kernel_rfl) (fun _ _ _ h => h) (by rfl) ?_ hHeld ?_
          rotate_left
          · ((intro w hSw); (try dsimp only at hSw); go_simp <;> with_reducible rfl)
          simp only [Act.put, List.setIfInBounds_toArray, List.set_cons_zero, List.set_cons_succ]
          refine take_run 12 (some 40) (v := ?_) rfl rfl (by kernel_rfl) (by kernel_rfl) (by kernel_rfl) (fun _ _ _ h => h) (by rfl) ?_ hHeld ?_
          rotate_left
          · ((intro w hSw); (try dsimp only at hSw); go_simp <;> with_reducible rfl)
          simp only [Act.put, List.setIfInBounds_toArray, List.set_cons_zero, List.set_cons_succ]
          refine take_run 13 (some 41) (v := ?_) rfl rfl (by kernel_rfl) (by kernel_rfl) (by kernel_rfl) (fun _ _ _ h => h) (by rfl) ?_ hHeld ?_
          rotate_left
          · ((intro w hSw); (try dsimp only at hSw); go_simp <;> with_reducible rfl)
          simp only [Act.put, List.setIfInBounds_toArray, List.set_cons_zero, List.set_cons_succ]
          refine take_one 14 (by kernel_rfl) rfl (fun K hK => ?_)
          go_simp
          (refine (less_any _ _ _ _ _).mono ?_; rintro e w8 ⟨rfl, hb⟩; rw [HLB.out]; have LX := hHeld.2.2.2.trans (hb.mono hHeld.2.2.2.size))
          try go_wp2_with fail
          refine hK.out _ _ (by exact ⟨⟨((HL'.out.on LW).on LX).two.1, (((HGN.out.on LW).on LX).at _).trans M1.out⟩, ⟨(QM.out.keep hbm fun _ hp => (LW.trans (LX.mono LW.size)).cell hp).2.1, (QM.out.keep hbm fun _ hp => (LW.trans (LX.mono LW.size)).cell hp).2.2.1⟩, ⟨(B6.on LX).at 1, (B6.on LX).at 2⟩, LX⟩) (fun hHeld => ?_)
          clear hK K
          refine wpAnyH_done (by kernel_rfl) ?_ _
          refine NoPanic.normal ?_
          have LX := hHeld.2.2.2
          have LY := LW.trans (LX.mono LW.size)
          have k6 := (B6.on LX).six.1
          have HC8 := hide (HCA.out.on LX)
          have zx := LX.size
          have HTV := hide ((HTN.out.on LY).up LY.size)
          have HB8 := hide (HTS.out v (List.mem_of_getElem? HV.out))
          clear hHeld
          go_wp2_with fail
          refine (clone_any v w8 HB8.out HTV.out).mono ?_
          rintro e w9 ⟨v', rfl, hlike, hown, hb9⟩
          have HLI := hide hlike
          have HOW := hide hown
          have HB9 := hide hb9
          have z9 := hb9.size
          have CR := HC8.out.on hb9
          obtain ⟨q, hq⟩ : ∃ q, q = (filtL xs m.ss j).length := ⟨_, rfl⟩
          have hq4 : q ≤ j := by rw [hq]; exact filtL_len _ _ _
          have HR := hide (show w9.ownsRow w1.heap.size 51 6 u4 q (flat6 (filtL xs m.ss j)) by have := CR.row; rw [← hq] at this; exact this)
          have HQ := hide hq
          clear hlike hown hb9 CR k6 hq
          go_wp2_with (at_builtin; (refine wpList_append_lies _ rfl (.tmp 43) (.tmp 46) 33 rfl w1.heap.size 51 i0 _ 6 72 Tryz.underlying33 I0.out I1.out I2.out I3.out rfl (by omega) u4 q (flat6 (filtL xs m.ss j)) rfl (HR.out.alloc _) ⟨w9.heap.size, 0, none⟩ 1 1 (cells6 v') rfl rfl (World.news_of_block (cs := verC v'.k v'.t v'.u v'.a v'.ts.length v'.c v'.s v'.g) (by simpa using heap_alloc_new w9 (.cells (verC v'.k v'.t v'.u v'.a v'.ts.length v'.c v'.s v'.g) 51))) (by simp [cells6, Value.oneCell']) (by omega) (by unfold maxLen; omega) (by omega) (by simp; omega) _ rfl ?_; intro g2 cap2 w10 hown2 hgrow hat hlt2; have OW := hide hown2; have GW := hide hgrow; clear hown2 hgrow hat))
          have hp := HC8.out.push (w1 := w9.alloc (.cells (verC v'.k v'.t v'.u v'.a v'.ts.length v'.c v'.s v'.g) 51)) (B := w8.heap.size) (v := v') (g := g2) (cap := cap2) (w2 := w10) (HB9.out.trans ((below_alloc1 w9 _).mono z9)) (Nat.le_refl _) ((HOW.out.on (below_alloc1 w9 _)).wide (by simp)) (by rw [← HQ.out]; exact OW.out) GW.out
          have hff : filtL (xs.set j v') m.ss (j + 1) = filtL xs m.ss j ++ [v'] := by
            rw [filtL_yes (x := v') (List.getElem?_set_self (List.getElem?_eq_some_iff.1 HXV.out).1) HY.out (by rw [HLI.out.2.1, HLI.out.2.2.1]; exact HLB.out), filtL_set j (Nat.le_refl _)]
          have hll : LL (xs.set j v') n.ss := by
            have := ll_set HLL.out HLI.out j
            rw [set_same HV.out] at this
            exact this
          have LZ := ((LY.trans (HB9.out.mono LY.size)).alloc (by omega) (.cells (verC v'.k v'.t v'.u v'.a v'.ts.length v'.c v'.s v'.g) 51)).grown GW.out (by simp; omega) (fun r hr => (HC8.out.typed r hr).elim fun _ h => h.2.1)
          rw [← HQ.out] at hp
          exact ⟨⟨j + 1, xs.set j v', by omega, by go_num, hll, by rw [hff]; exact hp, LZ⟩, by simp [intOf]; omega⟩
      · have hj4' : j = 4 := by omega
        subst hj4'
        clear hj4 hj
        have hst : storeB xs = true := by rw [storeB_like HLL.out.1 HLL.out.2]; exact HSN.out
        have HUQ : Hid (∀ us', us'.Perm (filtL xs m.ss 4) → us'.Pairwise (fun a b => ltV b a = false) → LL us' (owesL us k n)) := fun us' h1 h2 => by
          rw [HOE.out, lack_unique hst HSM.out h1 h2]
          exact lackN_like HLL.out (ll_refl _) 4
        have HL := hide (HB1.out.trans (hL.mono z1))
        have zl := hL.size
        clear hst hL
        rcases HC.out.row.2 with ⟨e0, h0⟩ | ⟨g, cap, cr, e0, -⟩
        · have hnil := List.length_eq_zero_iff.1 h0
          subst e0
          clear h0
          go_wp2_with fail
          refine (sort_none wr).mono ?_
          rintro e w2 ⟨rfl, rfl⟩
          go_wp2
          go_ret
          exact ⟨none, 0, [], rfl, HUQ.out [] (by rw [hnil]) List.Pairwise.nil, CRow.start _ _ (Nat.le_trans z1 zl), HL.out⟩
        · subst e0
          have CS := hide (sort_row w1.heap.size g cap (filtL xs m.ss 4) wr HC.out (by have := filtL_len xs m.ss 4; omega))
          have hgl := hide (HC.out.typed g rfl)
          go_wp2_with fail
          refine CS.out.mono ?_
          rintro e w2 ⟨rfl, us', hp, hs, hc2, hT2⟩
          have hle := hp.length_eq
          have HP2 := hide hp
          have HS2 := hide hs
          have HT2 := hide hT2
          have HC2 := hide (hc2.down z1)
          obtain ⟨q, hq⟩ : ∃ q, q = (filtL xs m.ss 4).length := ⟨_, rfl⟩
          rw [← hq] at hle ⊢
          have HLE := hide hle
          clear hp hs hc2 hT2 CS hq hle
          go_wp2
          go_ret
          refine ⟨some ⟨g, 0, none⟩, cap, us', by rw [HLE.out]; rfl, HUQ.out us' HP2.out HS2.out, HC2.out, below_turnP HL.out (Nat.le_trans z1 zl) HT2.out (fun y e => ?_)⟩
          obtain ⟨_, _, h1, _⟩ := hgl.out
          omega
  · have hq := HE.out
    rw [if_neg hlt] at hq
    subst hq
    have HOE : Hid (owesL us k n = []) := by unfold Hid owesL; rw [List.getElem?_eq_none (by omega)]
    clear HE hlt hb1
    go_wp2
    go_ret
    exact ⟨none, 0, [], rfl, by rw [HOE.out]; exact ll_refl _, CRow.start _ _ HB1.out.size, HB1.out⟩
end Go.Proofs.YtjnloillcgeodaaGreat
/- Contract of slices.Delete at nodes: one node is taken out of a row of the call's own, in place. Condition: at most four nodes. -/
namespace Go.Proofs.YtjnloillcgeodaaGreat
open Go.RowKit Go.Joins
attribute [local go_sem ↓] Go.wp_at_zero Go.wp_at_succ

/-- A run of stores into one block. -/
theorem Blk.setCells {g : Nat} {T : TypeId} : ∀ (vs : List Value) (o : Nat) {w : World} {cs : Array Value}, Blk w g T cs → o + vs.length ≤ cs.size → ∃ cs', Blk (w.setCells g o vs) g T cs' ∧ cs'.size = cs.size ∧ cs'.toList = cs.toList.take o ++ vs ++ cs.toList.drop (o + vs.length)
  | [], o, w, cs, h, hs => ⟨cs, h, rfl, by simp⟩
  | v :: r, o, w, cs, h, hs => by
    simp only [List.length_cons] at hs
    obtain ⟨cs', h1, h2, h3⟩ := Blk.setCells r (o + 1) (h.put o v) (by simp; omega)
    refine ⟨cs', h1, by simpa using h2, ?_⟩
    rw [h3]
    have ho : o < cs.toList.length := by simp; omega
    rw [Array.toList_setIfInBounds, List.drop_set_of_lt (by omega)]
    have e : (cs.toList.set o v).take (o + 1) = cs.toList.take o ++ [v] := by
      rw [List.take_add_one, List.getElem?_set_self ho, List.take_set_of_le (Nat.le_refl _)]
      rfl
    rw [e, show o + 1 + r.length = o + (v :: r).length by simp; omega]
    simp
theorem turn_setCells {g : Nat} : ∀ (vs : List Value) (o : Nat) (w : World), Turn (fun y => y = g) w (w.setCells g o vs)
  | [], _, w => Turn.refl _ w
  | v :: r, o, w => ((Turn.refl (fun y => y = g) w).set (p := ⟨g, o, none⟩) rfl v).trans (turn_setCells r (o + 1) _)
theorem clear_nd (ty : TypeId) (W : World) (G o c : Nat) (cs : Array Value) (h : Blk W G 37 cs) (ho : o + 2 ≤ cs.size) :
    (Builtin.clear_ #[23] ty #[.slice (some ⟨G, o, none⟩) 1 c]).run Tryz.prog W = .ok (.tuple #[]) (W.setCells G o [.slice none 0 0, .slice none 0 0]) := by
  have hzc : (Builtin.zeroCells (Value.agg #[.slice none 0 0, .slice none 0 0]).cells 1).toList = [.slice none 0 0, .slice none 0 0] := by first | kernel_rfl | (simp [Builtin.zeroCells, Value.cells]; decide)
  have hst := run_storeCells_cells (P := Tryz.prog) G o [.slice none 0 0, .slice none 0 0] 0 W (fun j hj => by
      rw [h.at]
      simp only [List.length_cons, List.length_nil] at hj
      rw [Array.getElem?_eq_getElem (by omega)]
      rfl) (fun j _ => h.loose _) (by intro v hv; simp at hv; rw [hv]; rfl)
  simp only [Nat.add_zero] at hst
  simp [Builtin.clear_, run_underlying Tryz.underlying23, hzc, hst]
theorem erase_get {ns : List Nd} {k i : Nat} {x : Nd} (h : (ns.eraseIdx k)[i]? = some x) : ns[if i < k then i else i + 1]? = some x := by
  rw [List.getElem?_eraseIdx] at h
  split at h
  · rename_i q
    rw [if_pos q]
    exact h
  · rename_i q
    rw [if_neg q]
    exact h
/-- A row of nodes, one of them taken out in place. -/
theorem GRow.cut {base : Nat} {wr w2 : World} {G c k : Nat} {us : List Nd} {cr : Array Value} (h : GRow base wr (.slice (some ⟨G, 0, none⟩) us.length c) us) (ht : Turn (fun y => y = G) wr w2) (hk : k < us.length)
    (hB : Blk w2 G 37 cr) (hs : cr.size = c * 2) (htk : cr.toList.take ((us.length - 1) * 2) = flatN (us.take k) ++ flatN (us.drop (k + 1))) :
    GRow base w2 (.slice (some ⟨G, 0, none⟩) (us.eraseIdx k).length c) (us.eraseIdx k) := by
  obtain ⟨cs0, hb0, hlo, _⟩ := h.typed G rfl
  have hcap := h.caps.1
  have hmax : c ≤ maxLen := by
    rcases h.row.2 with ⟨q, _⟩ | ⟨g', cap, cr', q, _, _, _, h4, _⟩
    · cases q
    · injection q with _ _ q
      rw [q]
      exact h4
  have keep : ∀ {A : Option Addr} {vs : List V}, ResS wr base wr.heap.size A vs → ResS w2 base w2.heap.size A vs := fun {A vs} q => (q.turnF ht (fun y hf hp => by
    obtain ⟨T, cs, b1, b2, _⟩ := q.typed hf
    subst hp
    exact b2 (blk_one b1 hb0))).wide ht.size
  have hl := erase_len hk
  refine ⟨⟨by rw [flatN_len], .inr ⟨G, c, cr, rfl, hlo, hB, by omega, hmax, hs, ?_⟩⟩, fun i y hi => keep (h.store _ y (erase_get hi)), fun i y hi => keep (h.wait _ y (erase_get hi)), fun i y hi => h.two _ y (erase_get hi), fun i j y y' hne hi hj => h.apart _ _ y y' (fun e => hne ?_) (erase_get hi) (erase_get hj), Nat.le_trans h.lo ht.size, fun i y hi => (h.own _ y (erase_get hi)).turnedT ht (fun y e => by subst e; exact ⟨_, cs0, hb0, node_ne_ver, node_ne_tag⟩)⟩
  · rw [hl, htk, List.eraseIdx_eq_take_drop_succ, flatN_append]
  · revert e
    split <;> split <;> omega
set_option maxRecDepth 100000 in
set_option maxHeartbeats 4000000 in
theorem delete_any (base G c k m : Nat) (us : List Nd) (w : World) (hG : GRow base w (.slice (some ⟨G, 0, none⟩) us.length c) us) (hm : us.length = k + m + 1) (hl : us.length ≤ 4) :
    Calls Tryz.prog 33 #[.slice (some ⟨G, 0, none⟩) (k + m + 1) c, .int .i64 (k : Int), .int .i64 ((k : Int) + 1)] w fun e w' =>
      e = .returned (.slice (some ⟨G, 0, none⟩) (k + m) c) ∧ GRow base w' (.slice (some ⟨G, 0, none⟩) (us.eraseIdx k).length c) (us.eraseIdx k) ∧ Turn (fun y => y = G) w w' := by
  obtain ⟨j0, hj0, hy0, hy1, hy2⟩ := info_parts node_info
  have J0 := hide hj0
  have J1 := hide hy1
  have hk : k < us.length := by omega
  obtain ⟨cr, hcr, hsz, htk, hmax⟩ : ∃ cr, Blk w G 37 cr ∧ cr.size = c * 2 ∧ cr.toList.take (us.length * 2) = flatN us ∧ c ≤ maxLen := by
    rcases hG.row.2 with ⟨q, _⟩ | ⟨g', cap, cr, q, _, h2, _, h4, h5, h6⟩
    · cases q
    · injection q with q1 _ q3
      injection q1 with q1
      injection q1 with q1
      subst q1 q3
      exact ⟨cr, h2, h5, h6, h4⟩
  have hcap := hG.caps.1
  obtain ⟨ax, hax⟩ : ∃ ax : Addr, (if c = k + 1 then some (⟨G, 0, none⟩ : Addr) else some ⟨G, (k + 1) * 2, none⟩) = some ax ∧ Hid (∀ j u, (flatN (us.drop (k + 1)))[j]? = some u → w.drew.cell? (ax.add j) = some u) := by
    by_cases h : c = k + 1
    · refine ⟨⟨G, 0, none⟩, by simp [h], fun t u hu => ?_⟩
      rw [List.drop_of_length_le (by omega)] at hu
      simp [flatN] at hu
    · exact ⟨⟨G, (k + 1) * 2, none⟩, by simp [h], hG.newsDrop⟩
  obtain ⟨W1, hW1⟩ : ∃ W1, W1 = w.drew.setCells G (0 + k * 2) (flatN (us.drop (k + 1))) := ⟨_, rfl⟩
  have HNL : Hid ((flatN (us.drop (k + 1))).length = m * 2) := by unfold Hid; rw [flatN_len, List.length_drop]; omega
  -- what is there at the end
  obtain ⟨cr2, hB2, hs2, ht2⟩ := Blk.setCells (flatN (us.drop (k + 1))) (0 + k * 2) hcr.drew (by rw [HNL.out]; omega)
  have hT2 := turn_setCells (g := G) (flatN (us.drop (k + 1))) (0 + k * 2) w.drew
  rw [← hW1] at hB2 hT2
  obtain ⟨cr3, hB3, hs3, ht3⟩ := Blk.setCells [.slice none 0 0, .slice none 0 0] ((k + m) * 2) hB2 (by simp only [List.length_cons, List.length_nil]; omega)
  have hT3 := turn_setCells (g := G) [.slice none 0 0, .slice none 0 0] ((k + m) * 2) W1
  have HF : Hid (GRow base (W1.setCells G ((k + m) * 2) [.slice none 0 0, .slice none 0 0]) (.slice (some ⟨G, 0, none⟩) (us.eraseIdx k).length c) (us.eraseIdx k) ∧ Turn (fun y => y = G) w (W1.setCells G ((k + m) * 2) [.slice none 0 0, .slice none 0 0])) := by
    have hT : Turn (fun y => y = G) w (W1.setCells G ((k + m) * 2) [.slice none 0 0, .slice none 0 0]) := (show Turn (fun y => y = G) w W1 from ⟨hT2.os, hT2.tape, hT2.output, hT2.size, hT2.block⟩).trans hT3
    refine ⟨hG.cut hT hk hB3 (by rw [hs3, hs2, hsz]) ?_, hT⟩
    rw [ht3, ht2, Nat.zero_add]
    have hfd := HNL.out
    have hft : (flatN (us.take k)).length = k * 2 := by rw [flatN_len, List.length_take]; omega
    have h0 : cr.toList.take (k * 2) = flatN (us.take k) := by
      have : (cr.toList.take (us.length * 2)).take (k * 2) = (flatN us).take (k * 2) := by rw [htk]
      rw [List.take_take, Nat.min_eq_left (by omega)] at this
      rw [this]
      have e : flatN us = flatN (us.take k) ++ flatN (us.drop k) := by rw [← flatN_append, List.take_append_drop]
      rw [e, List.take_append_of_le_length (by omega), List.take_of_length_le (by omega)]
    rw [h0, show (us.length - 1) * 2 = (k + m) * 2 by omega]
    have hlen : (flatN (us.take k) ++ flatN (us.drop (k + 1))).length = (k + m) * 2 := by rw [List.length_append, hft, hfd]; omega
    have h1 : (flatN (us.take k) ++ flatN (us.drop (k + 1)) ++ cr.toList.drop (k * 2 + (flatN (us.drop (k + 1))).length)).take ((k + m) * 2) = flatN (us.take k) ++ flatN (us.drop (k + 1)) := by
      rw [List.take_append_of_le_length (by omega), List.take_of_length_le (by omega)]
    rw [h1, List.append_assoc, List.take_append_of_le_length (by omega), List.take_of_length_le (by omega)]
  have hcl : ∀ ty, (Builtin.clear_ #[23] ty #[.slice (some ⟨G, (k + m) * 2, none⟩) 1 (c - (k + m))]).run Tryz.prog W1 = .ok (.tuple #[]) (W1.setCells G ((k + m) * 2) [.slice none 0 0, .slice none 0 0]) := fun ty => clear_nd ty W1 G ((k + m) * 2) (c - (k + m)) cr2 hB2 (by omega)
  have HSP : Hid (∀ j, j < (flatN (us.drop (k + 1))).length → (w.drew.cell? ⟨G, 0 + k * 2 + j, none⟩).isSome = true ∧ w.drew.frozen? ⟨G, 0 + k * 2 + j, none⟩ = false) := fun j hj => by
    have := HNL.out
    refine ⟨?_, hcr.drew.loose _⟩
    rw [hcr.drew.at, Array.getElem?_eq_getElem (by omega)]
    rfl
  have HAX := hide hax.2
  have hax1 := hax.1
  have HW1 := hide hW1
  have hck : k + m + 1 ≤ c := by omega
  have hcne : ¬ c = k + m := by omega
  have hne : ((k : Int) == (k : Int) + 1) = false := by rw [beq_eq_false_iff_ne]; omega
  have hkc : k ≤ c := by omega
  have hk1 : (0 : Int) ≤ (k : Int) + 1 := by omega
  have hkm : (k : Int) ≤ (k : Int) + (m : Int) := by omega
  have hk4 : k + m ≤ 3 := by omega
  unfold maxLen at hmax
  clear hax hG hcr hB2 hB3 hT2 hT3 hs2 hs3 ht2 ht3 htk hsz hj0 hy0 hy1 hy2 hW1 hcap hm hl hk
  go_enter Tryz.func33, Tryz.ntmps33
  go_wp2_with fail
  refine wp_region_noPanic ?_
  refine wp_region_held_drew (S := (fun _ => True)) (by kernel_rfl) (by exact True.intro) (fun hHeld => ?_)
  refine take_run 0 (some 20) (v := ?_) rfl rfl (by kernel_rfl) (by kernel_rfl) (by kernel_rfl) (fun _ _ _ h => h) (by rfl) ?_ hHeld ?_
  rotate_left
  · ((intro w hSw); (try dsimp only at hSw); go_simp <;> with_reducible rfl)
  simp only [Act.put, List.setIfInBounds_toArray, List.set_cons_zero, List.set_cons_succ]
  refine take_run 1 (some 21) (v := ?_) rfl rfl (by kernel_rfl) (by kernel_rfl) (by kernel_rfl) (fun _ _ _ h => h) (by rfl) ?_ hHeld ?_
  rotate_left
  · ((intro w hSw); (try dsimp only at hSw); go_simp <;> with_reducible rfl)
  simp only [Act.put, List.setIfInBounds_toArray, List.set_cons_zero, List.set_cons_succ]
  refine take_run 2 (some 22) (v := ?_) rfl rfl (by kernel_rfl) (by kernel_rfl) (by kernel_rfl) (fun _ _ _ h => h) (by rfl) ?_ hHeld ?_
  rotate_left
  · ((intro w hSw); (try dsimp only at hSw); go_simp <;> with_reducible rfl)
  simp only [Act.put, List.setIfInBounds_toArray, List.set_cons_zero, List.set_cons_succ]
  refine take_run 3 (some 23) (v := ?_) rfl rfl (by kernel_rfl) (by kernel_rfl) (by kernel_rfl) (fun _ _ _ h => h) (by rfl) ?_ hHeld ?_
  rotate_left
  · ((intro w hSw); (try dsimp only at hSw); go_simp <;> with_reducible rfl)
  simp only [Act.put, List.setIfInBounds_toArray, List.set_cons_zero, List.set_cons_succ]
  refine take_run 4 (some 24) (v := ?_) rfl rfl (by kernel_rfl) (by kernel_rfl) (by kernel_rfl) (fun _ _ _ h => h) (by rfl) ?_ hHeld ?_
  rotate_left
  · ((intro w hSw); (try dsimp only at hSw); go_simp <;> with_reducible rfl)
  simp only [Act.put, List.setIfInBounds_toArray, List.set_cons_zero, List.set_cons_succ]
  refine take_run 5 (some 25) (v := ?_) rfl rfl (by kernel_rfl) (by kernel_rfl) (by kernel_rfl) (fun _ _ _ h => h) (by rfl) ?_ hHeld ?_
  rotate_left
  · ((intro w hSw); (try dsimp only at hSw); go_simp <;> with_reducible rfl)
  simp only [Act.put, List.setIfInBounds_toArray, List.set_cons_zero, List.set_cons_succ]
  refine take_one 6 (by kernel_rfl) rfl (fun K hK => ?_)
  (refine step_append_room (by rfl) _ _ _ (by rfl) 37 j0 2 Tryz.underlying23 J0.out J1.out G 0 k c (by rfl) ax m (c - (k + 1)) (flatN (us.drop (k + 1))) (by simp only [Act.eval]; first | rfl | (rw [← hax1]; simp; done)) HNL.out HAX.out (flatN_one _) (by omega) HSP.out ?_; rw [← HW1.out])
  simp only [List.getElem_toArray, List.getElem_cons_zero, List.getElem_cons_succ, Act.put, List.setIfInBounds_toArray, List.set_cons_zero, List.set_cons_succ]
  refine hK.out _ _ (by exact True.intro) (fun hHeld => ?_)
  clear hK K
  refine take_run 7 (some 0) (v := ?_) rfl rfl (by kernel_rfl) (by kernel_rfl) (by kernel_rfl) (fun _ _ _ h => h) (by rfl) ?_ hHeld ?_
  rotate_left
  · ((intro w hSw); (try dsimp only at hSw); go_simp <;> with_reducible rfl)
  simp only [Act.put, List.setIfInBounds_toArray, List.set_cons_zero]
  refine wpAnyH_done (by kernel_rfl) ?_ _
  refine NoPanic.normal ?_
  clear hHeld
  go_wp2
  go_ret
  exact ⟨rfl, HF.out.1, HF.out.2⟩
end Go.Proofs.YtjnloillcgeodaaGreat
