/- Contract of the program's owed: what the next node lacks, sorted, in memory of its own. Condition: at most four nodes, each valid by itself. -/
import Derived.Test.YtnaggcdhimcilaaGreatJSortRow
import Derived.Test.YtnaggcdhimcilaaGreatJAppendMore
import Derived.Test.YtnaggcdhimcilaaGreatJFall
import Derived.Deep.RegionLaw
import Derived.Lib.SliceRun
import Derived.Test.YtnaggcdhimcilaaGreatJNoteStep
namespace Go.Proofs.YtnaggcdhimcilaaGreat
open Go.RowKit Go.Joins
attribute [local go_sem ↓] Go.wp_at_zero Go.wp_at_succ

theorem set_same {l : List V} {i : Nat} {v : V} (h : l[i]? = some v) : l.set i v = l := by
  apply List.ext_getElem?
  intro j
  by_cases e : j = i
  · subst e
    rw [List.getElem?_set_self (List.getElem?_eq_some_iff.1 h).1, h]
  · rw [List.getElem?_set_ne (fun q => e q.symm)]
theorem below_turnP {P : Nat → Prop} {n : Nat} {w wr w' : World} (h : Below n w wr) (hn : n ≤ wr.heap.size) (ht : Turn P wr w') (hP : ∀ y, P y → n ≤ y) : Below n w w' :=
  ⟨ht.os.trans h.os, ht.tape.trans h.tape, ht.output.trans h.output, Nat.le_trans h.size ht.size, fun k hk => (ht.block k (by omega) (fun q => by have := hP k q; omega)).trans (h.block k hk)⟩
/-- What a node owes the next one. -/
def owesL (us : List Nd) (k : Nat) (n : Nd) : List V := match us[k + 1]? with | some m => lackN n.ss m.ss 4 | none => []
def OwedP (w : World) (us : List Nd) (k : Nat) (n : Nd) (e : Ending) (w' : World) : Prop :=
  ∃ (A : Option Addr) (cap : Nat) (ws : List V), e = .returned (.slice A ws.length cap) ∧ LL ws (owesL us k n) ∧ CRow w.heap.size w' (.slice A ws.length cap) ws ∧ Below w.heap.size w w'
set_option maxRecDepth 100000 in
set_option maxHeartbeats 8000000 in
theorem owed_any (B L base G xc k : Nat) (us : List Nd) (n : Nd) (w : World) (hG : GRow base w (.slice (some ⟨G, 0, none⟩) us.length xc) us) (hL : LinkAt w B L (some ⟨G, 0, none⟩) G us.length xc k) (hk : us[k]? = some n) (hl : us.length ≤ 4) (hB : ∀ (i : Nat) m, us[i]? = some m → nodeB m = true) :
    Calls Tryz.prog 87 #[.pointer (some ⟨L, 0, none⟩)] w (OwedP w us k n) := by
  obtain ⟨i0, hi0, hz0, hz1, hz2⟩ := info_parts ver_info
  have I0 := hide hi0
  have I1 := hide hz0
  have I2 := hide hz1
  have I3 := hide hz2
  clear hi0 hz0 hz1 hz2
  have hkl := (List.getElem?_eq_some_iff.1 hk).1
  obtain ⟨cur, hcg⟩ := hG.cgs (by omega)
  obtain ⟨b1, b2, -, -, -, hL1, hL2, hL3⟩ := hL
  have CT := hide (next_any G us.length xc k b1 b2 w (by omega) (by omega) hL2 hL3)
  have q0 := hL1.two.1
  have q1 : w.cell? ⟨L, 1, none⟩ = some (.func (.func 104) #[] #[.pointer (some ⟨b1, 0, none⟩), .pointer (some ⟨b2, 0, none⟩)]) := hL1.at 1
  have HL1 := hide hL1
  have HCG := hide hcg
  have HK := hide hk
  have HB := hide hB
  clear hG hcg hk hB hL1 hL2 hL3
  go_enter Tryz.func87, Tryz.ntmps87
  go_wp2_with fail
  with_reducible refine CT.out.mono ?_
  rintro e w1 ⟨hE, hb1⟩
  have HE := hide hE
  have HB1 := hide hb1
  clear hE CT q0 q1
  by_cases hlt : k + 1 < us.length
  · have hq := HE.out
    rw [if_pos hlt] at hq
    obtain ⟨L', rfl, hL'⟩ := hq
    obtain ⟨_, _, _, _, _, hL1', _, _⟩ := hL'
    have HL' := hide hL1'
    clear hL1' HE
    obtain ⟨m, hm⟩ : ∃ m, us[k + 1]? = some m := ⟨_, List.getElem?_eq_getElem hlt⟩
    have HOE : Hid (owesL us k n = lackN n.ss m.ss 4) := by unfold Hid owesL; rw [hm]
    have hsn := (nodeB_parts (HB.out k n HK.out)).1
    have hsm := (nodeB_parts (HB.out (k + 1) m hm)).1
    have HSN := hide hsn
    have HSM := hide hsm
    have HN4 := hide (storeB_four hsn)
    have HM4 := hide (storeB_four hsm)
    have HC1 := hide (HCG.out.on HB1.out)
    have p0 : w1.cell? ⟨L, 0, none⟩ = some (.pointer (some ⟨G, k * 2, none⟩)) := (HL1.out.on HB1.out).two.1
    have n0 : w1.cell? ⟨G, k * 2, none⟩ = some (.slice n.sa 4 n.sc) := by rw [← HN4.out]; exact (HC1.out.blk.at _).trans (HC1.out.at' k n HK.out).1
    have M0 : Hid (cur[(k + 1) * 2]? = some (.slice m.sa 4 m.sc)) := by have := (HC1.out.at' (k + 1) m hm).1; rw [HM4.out] at this; exact this
    have HGN := hide HC1.out.blk
    obtain ⟨bn, on, hna, hbn, hxn⟩ : ∃ b off : Nat, n.sa = some ⟨b, off, none⟩ ∧ b < w1.heap.size ∧ ∀ i v, n.ss[i]? = some v → Six w1 b (off + i * 6) v ∧ Tg w1 w1.heap.size v.a v.ts := by
      rcases HC1.out.store k n HK.out with h0 | h0
      · have := HN4.out; rw [h0] at this; simp at this
      · exact h0
    obtain ⟨bm, om, hma, hbm, hxm⟩ : ∃ b off : Nat, m.sa = some ⟨b, off, none⟩ ∧ b < w1.heap.size ∧ ∀ i v, m.ss[i]? = some v → Six w1 b (off + i * 6) v ∧ Tg w1 w1.heap.size v.a v.ts := by
      rcases HC1.out.store (k + 1) m hm with h0 | h0
      · have := HM4.out; rw [h0] at this; simp at this
      · exact h0
    rw [hna] at n0
    have HXN := hide hxn
    have HXM := hide hxm
    have M1 : Hid (cur[(k + 1) * 2]? = some (.slice (some ⟨bm, om, none⟩) 4 m.sc)) := by rw [← hma]; exact M0.out
    have HTS : Hid (∀ v ∈ n.ss, v.ts.length ≤ 1048576) := fun v hv => by have := (few_store HSN.out).2 v hv; omega
    have z1 := hb1.size
    clear hm hsn hsm hxn hxm hna hma M0
    go_wp2_with fail
    go_loopw [4, 23] (fun x i wr => ∃ (j : Nat) (xs : List V), j ≤ 4 ∧ i = .int .i64 (j : Int) ∧ Hid (LL xs n.ss) ∧ Hid (CRow w1.heap.size wr x (filtL xs m.ss j)) ∧ Below w1.heap.size w1 wr) (fun _ i _ => 4 - (intOf i).toNat)
    case atStart => exact ⟨0, n.ss, Nat.zero_le _, rfl, ll_refl _, CRow.start _ w1 (Nat.le_refl _), Below.refl _ _⟩
    case round =>
      clear p0 n0
      obtain ⟨j, xs, hj, rfl, HLL, HC, hL⟩ := hrel
      by_cases hj4 : j < 4
      · obtain ⟨v, hv⟩ : ∃ v, n.ss[j]? = some v := ⟨_, List.getElem?_eq_getElem (by have := HN4.out; omega)⟩
        obtain ⟨y, hy⟩ : ∃ y, m.ss[j]? = some y := ⟨_, List.getElem?_eq_getElem (by have := HM4.out; omega)⟩
        obtain ⟨xv, hxv, hxl⟩ := ll_at (ll_symm HLL.out) hv
        have HV := hide hv
        have HY := hide hy
        have HXV := hide hxv
        have HXL := hide hxl
        obtain ⟨hSn, hTn⟩ := HXN.out j v hv
        obtain ⟨hSm, -⟩ := HXM.out j y hy
        obtain ⟨s0, s1, s2, s3, s4, s5⟩ := hSn.keep hbn fun _ hp => hL.cell hp
        have HTN := hide hTn
        have QM := hide hSm
        have hz := hL.size
        have i1 : (0 : Int) ≤ (j : Int) := by omega
        have i2 : (j : Int) < 4 := by omega
        have LA := below_alloc1 wr (.cells (verC v.k v.t v.u v.a v.ts.length v.c v.s v.g) 96)
        have B6 := Blk.made wr 96 (verC v.k v.t v.u v.a v.ts.length v.c v.s v.g)
        have LW := hL.trans (LA.mono hz)
        have HCA := hide (HC.out.on LA)
        clear hv hy hxv hxl hSn hTn hSm
        go_wp2_with fail
        clear s0 s1 s2 s3 s4 s5
        generalize hWa : wr.alloc (.cells (verC v.k v.t v.u v.a v.ts.length v.c v.s v.g) 96) = Wa at LA B6 LW HCA ⊢
        have za : Wa.heap.size = wr.heap.size + 1 := by rw [← hWa]; simp
        obtain ⟨p6, hp6⟩ : ∃ p6, p6 = wr.heap.size := ⟨_, rfl⟩
        rw [← hp6] at B6 ⊢
        have HP6 := hide hp6
        have HWA := hide hWa
        have LR := Below.refl Wa.heap.size Wa
        clear hWa hp6
        cases hb : lessB y.t y.u v.t v.u
        · have HLB := hide hb
          clear hb
          refine wp_region_noPanic ?_
          refine wp_region_held_drew (S := (fun w' => (w'.cell? ⟨L', 0, none⟩ = some (.pointer (some ⟨G, (k + 1) * 2, none⟩)) ∧ w'.cell? ⟨G, (k + 1) * 2, none⟩ = some (.slice (some ⟨bm, om, none⟩) 4 m.sc)) ∧ (w'.cell? ⟨bm, om + j * 6 + 1, none⟩ = some (.int .i64 y.t) ∧ w'.cell? ⟨bm, om + j * 6 + 2, none⟩ = some (.int .i64 y.u)) ∧ (w'.cell? ⟨p6, 1, none⟩ = some (.int .i64 v.t) ∧ w'.cell? ⟨p6, 2, none⟩ = some (.int .i64 v.u)) ∧ Below Wa.heap.size Wa w')) (by kernel_rfl) (by exact ⟨⟨((HL'.out.on LW).drew).two.1, (((HGN.out.on LW).drew).at _).trans M1.out⟩, ⟨(QM.out.keep hbm fun _ hp => LW.drew.cell hp).2.1, (QM.out.keep hbm fun _ hp => LW.drew.cell hp).2.2.1⟩, ⟨(B6.drew).at 1, (B6.drew).at 2⟩, LR.drew⟩) (fun hHeld => ?_)
          refine mvR 0 (some 28) hHeld ?_
          refine mvR 1 (some 29) hHeld ?_
          refine mvR 2 (some 30) hHeld ?_
          refine mvR 3 (some 31) hHeld ?_
          refine mvR 4 (some 32) hHeld ?_
          refine mvR 5 (some 33) hHeld ?_
          refine mvR 6 (some 34) hHeld ?_
          refine mvR 7 (some 35) hHeld ?_
          refine mvR 8 (some 36) hHeld ?_
          refine mvR 9 (some 37) hHeld ?_
          refine mvR 10 (some 38) hHeld ?_
          refine mvR 11 (some 39) hHeld ?_
          refine mvR 12 (some 40) hHeld ?_
          refine mvR 13 (some 41) hHeld ?_
          refine take_one 14 (by kernel_rfl) rfl (fun K hK => ?_)
          go_simp
          (refine (less_any _ _ _ _ _).mono ?_; rintro e w8 ⟨rfl, hb⟩; rw [HLB.out]; have LX := hHeld.2.2.2.trans (hb.mono hHeld.2.2.2.size))
          try go_wp2_with fail
          refine hK.out _ _ (by exact ⟨⟨((HL'.out.on LW).on LX).two.1, (((HGN.out.on LW).on LX).at _).trans M1.out⟩, ⟨(QM.out.keep hbm fun _ hp => (LW.trans (LX.mono LW.size)).cell hp).2.1, (QM.out.keep hbm fun _ hp => (LW.trans (LX.mono LW.size)).cell hp).2.2.1⟩, ⟨(B6.on LX).at 1, (B6.on LX).at 2⟩, LX⟩) (fun hHeld => ?_)
          clear hK K
          refine wpAnyH_done (by kernel_rfl) ?_ _
          refine NoPanic.normal ?_
          have LY := LW.trans (hHeld.2.2.2.mono LW.size)
          have HC8 := hide (HCA.out.on hHeld.2.2.2)
          have hff : filtL xs m.ss (j + 1) = filtL xs m.ss j := filtL_not HXV.out HY.out (by rw [← HXL.out.2.1, ← HXL.out.2.2.1]; exact HLB.out)
          clear hHeld LX
          go_wp2
          exact ⟨⟨j + 1, xs, by omega, by go_num, HLL, by rw [hff]; exact HC8.out, LY⟩, by simp [intOf]; omega⟩
        · have HLB := hide hb
          clear hb
          refine wp_region_noPanic ?_
          refine wp_region_held_drew (S := (fun w' => (w'.cell? ⟨L', 0, none⟩ = some (.pointer (some ⟨G, (k + 1) * 2, none⟩)) ∧ w'.cell? ⟨G, (k + 1) * 2, none⟩ = some (.slice (some ⟨bm, om, none⟩) 4 m.sc)) ∧ (w'.cell? ⟨bm, om + j * 6 + 1, none⟩ = some (.int .i64 y.t) ∧ w'.cell? ⟨bm, om + j * 6 + 2, none⟩ = some (.int .i64 y.u)) ∧ (w'.cell? ⟨p6, 1, none⟩ = some (.int .i64 v.t) ∧ w'.cell? ⟨p6, 2, none⟩ = some (.int .i64 v.u)) ∧ Below Wa.heap.size Wa w')) (by kernel_rfl) (by exact ⟨⟨((HL'.out.on LW).drew).two.1, (((HGN.out.on LW).drew).at _).trans M1.out⟩, ⟨(QM.out.keep hbm fun _ hp => LW.drew.cell hp).2.1, (QM.out.keep hbm fun _ hp => LW.drew.cell hp).2.2.1⟩, ⟨(B6.drew).at 1, (B6.drew).at 2⟩, LR.drew⟩) (fun hHeld => ?_)
          refine mvR 0 (some 28) hHeld ?_
          refine mvR 1 (some 29) hHeld ?_
          refine mvR 2 (some 30) hHeld ?_
          refine mvR 3 (some 31) hHeld ?_
          refine mvR 4 (some 32) hHeld ?_
          refine mvR 5 (some 33) hHeld ?_
          refine mvR 6 (some 34) hHeld ?_
          refine mvR 7 (some 35) hHeld ?_
          refine mvR 8 (some 36) hHeld ?_
          refine mvR 9 (some 37) hHeld ?_
          refine mvR 10 (some 38) hHeld ?_
          refine mvR 11 (some 39) hHeld ?_
          refine mvR 12 (some 40) hHeld ?_
          refine mvR 13 (some 41) hHeld ?_
          refine take_one 14 (by kernel_rfl) rfl (fun K hK => ?_)
          go_simp
          (refine (less_any _ _ _ _ _).mono ?_; rintro e w8 ⟨rfl, hb⟩; rw [HLB.out]; have LX := hHeld.2.2.2.trans (hb.mono hHeld.2.2.2.size))
          try go_wp2_with fail
          refine hK.out _ _ (by exact ⟨⟨((HL'.out.on LW).on LX).two.1, (((HGN.out.on LW).on LX).at _).trans M1.out⟩, ⟨(QM.out.keep hbm fun _ hp => (LW.trans (LX.mono LW.size)).cell hp).2.1, (QM.out.keep hbm fun _ hp => (LW.trans (LX.mono LW.size)).cell hp).2.2.1⟩, ⟨(B6.on LX).at 1, (B6.on LX).at 2⟩, LX⟩) (fun hHeld => ?_)
          clear hK K
          refine wpAnyH_done (by kernel_rfl) ?_ _
          refine NoPanic.normal ?_
          have LX := hHeld.2.2.2
          have LY := LW.trans (LX.mono LW.size)
          have k6 := (B6.on LX).six.1
          have HC8 := hide (HCA.out.on LX)
          have zx := LX.size
          have HTV := hide ((HTN.out.on LY).up LY.size)
          have HB8 := hide (HTS.out v (List.mem_of_getElem? HV.out))
          clear hHeld
          go_wp2_with fail
          refine (clone_any v w8 HB8.out HTV.out).mono ?_
          rintro e w9 ⟨v', rfl, hlike, hown, hb9⟩
          have HLI := hide hlike
          have HOW := hide hown
          have HB9 := hide hb9
          have z9 := hb9.size
          have CR := HC8.out.on hb9
          obtain ⟨q, hq⟩ : ∃ q, q = (filtL xs m.ss j).length := ⟨_, rfl⟩
          have hq4 : q ≤ j := by rw [hq]; exact filtL_len _ _ _
          have HR := hide (show w9.ownsRow w1.heap.size 96 6 u4 q (flat6 (filtL xs m.ss j)) by have := CR.row; rw [← hq] at this; exact this)
          have HQ := hide hq
          clear hlike hown hb9 CR k6 hq
          go_wp2_with (at_builtin; (refine wpList_append_lies _ rfl (.tmp 43) (.tmp 46) 33 rfl w1.heap.size 96 i0 _ 6 72 Tryz.underlying33 I0.out I1.out I2.out I3.out rfl (by omega) u4 q (flat6 (filtL xs m.ss j)) rfl (HR.out.alloc _) ⟨w9.heap.size, 0, none⟩ 1 1 (cells6 v') rfl rfl (World.news_of_block (cs := verC v'.k v'.t v'.u v'.a v'.ts.length v'.c v'.s v'.g) (by simpa using heap_alloc_new w9 (.cells (verC v'.k v'.t v'.u v'.a v'.ts.length v'.c v'.s v'.g) 96))) (by simp [cells6, Value.oneCell']) (by omega) (by unfold maxLen; omega) (by omega) (by simp; omega) _ rfl ?_; intro g2 cap2 w10 hown2 hgrow hat hlt2; have OW := hide hown2; have GW := hide hgrow; clear hown2 hgrow hat))
          have hp := HC8.out.push (w1 := w9.alloc (.cells (verC v'.k v'.t v'.u v'.a v'.ts.length v'.c v'.s v'.g) 96)) (B := w8.heap.size) (v := v') (g := g2) (cap := cap2) (w2 := w10) (HB9.out.trans ((below_alloc1 w9 _).mono z9)) (Nat.le_refl _) ((HOW.out.on (below_alloc1 w9 _)).wide (by simp)) (by rw [← HQ.out]; exact OW.out) GW.out
          have hff : filtL (xs.set j v') m.ss (j + 1) = filtL xs m.ss j ++ [v'] := by
            rw [filtL_yes (x := v') (List.getElem?_set_self (List.getElem?_eq_some_iff.1 HXV.out).1) HY.out (by rw [HLI.out.2.1, HLI.out.2.2.1]; exact HLB.out), filtL_set j (Nat.le_refl _)]
          have hll : LL (xs.set j v') n.ss := by
            have := ll_set HLL.out HLI.out j
            rw [set_same HV.out] at this
            exact this
          have LZ := ((LY.trans (HB9.out.mono LY.size)).alloc (by omega) (.cells (verC v'.k v'.t v'.u v'.a v'.ts.length v'.c v'.s v'.g) 96)).grown GW.out (by simp; omega) (fun r hr => (HC8.out.typed r hr).elim fun _ h => h.2.1)
          rw [← HQ.out] at hp
          exact ⟨⟨j + 1, xs.set j v', by omega, by go_num, hll, by rw [hff]; exact hp, LZ⟩, by simp [intOf]; omega⟩
      · have hj4' : j = 4 := by omega
        subst hj4'
        clear hj4 hj
        have hst : storeB xs = true := by rw [storeB_like HLL.out.1 HLL.out.2]; exact HSN.out
        have HUQ : Hid (∀ us', us'.Perm (filtL xs m.ss 4) → us'.Pairwise (fun a b => ltV b a = false) → LL us' (owesL us k n)) := fun us' h1 h2 => by
          rw [HOE.out, lack_unique hst HSM.out h1 h2]
          exact lackN_like HLL.out (ll_refl _) 4
        have HL := hide (HB1.out.trans (hL.mono z1))
        have zl := hL.size
        clear hst hL
        rcases HC.out.row.2 with ⟨e0, h0⟩ | ⟨g, cap, cr, e0, -⟩
        · have hnil := List.length_eq_zero_iff.1 h0
          subst e0
          clear h0
          go_wp2_with fail
          refine (sort_none wr).mono ?_
          rintro e w2 ⟨rfl, rfl⟩
          go_wp2
          go_ret
          exact ⟨none, 0, [], rfl, HUQ.out [] (by rw [hnil]) List.Pairwise.nil, CRow.start _ _ (Nat.le_trans z1 zl), HL.out⟩
        · subst e0
          have CS := hide (sort_row w1.heap.size g cap (filtL xs m.ss 4) wr HC.out (by have := filtL_len xs m.ss 4; omega))
          have hgl := hide (HC.out.typed g rfl)
          go_wp2_with fail
          refine CS.out.mono ?_
          rintro e w2 ⟨rfl, us', hp, hs, hc2, hT2⟩
          have hle := hp.length_eq
          have HP2 := hide hp
          have HS2 := hide hs
          have HT2 := hide hT2
          have HC2 := hide (hc2.down z1)
          obtain ⟨q, hq⟩ : ∃ q, q = (filtL xs m.ss 4).length := ⟨_, rfl⟩
          rw [← hq] at hle ⊢
          have HLE := hide hle
          clear hp hs hc2 hT2 CS hq hle
          go_wp2
          go_ret
          refine ⟨some ⟨g, 0, none⟩, cap, us', by rw [HLE.out]; rfl, HUQ.out us' HP2.out HS2.out, HC2.out, below_turnP HL.out (Nat.le_trans z1 zl) HT2.out (fun y e => ?_)⟩
          obtain ⟨_, _, h1, _⟩ := hgl.out
          omega
  · have hq := HE.out
    rw [if_neg hlt] at hq
    subst hq
    have HOE : Hid (owesL us k n = []) := by unfold Hid owesL; rw [List.getElem?_eq_none (by omega)]
    clear HE hlt hb1
    go_wp2
    go_ret
    exact ⟨none, 0, [], rfl, by rw [HOE.out]; exact ll_refl _, CRow.start _ _ HB1.out.size, HB1.out⟩
end Go.Proofs.YtnaggcdhimcilaaGreat
/- Contract of slices.Delete at nodes: one node is taken out of a row of the call's own, in place. Condition: at most four nodes. -/
namespace Go.Proofs.YtnaggcdhimcilaaGreat
open Go.RowKit Go.Joins
attribute [local go_sem ↓] Go.wp_at_zero Go.wp_at_succ

/-- A run of stores into one block. -/
theorem Blk.setCells {g : Nat} {T : TypeId} : ∀ (vs : List Value) (o : Nat) {w : World} {cs : Array Value}, Blk w g T cs → o + vs.length ≤ cs.size → ∃ cs', Blk (w.setCells g o vs) g T cs' ∧ cs'.size = cs.size ∧ cs'.toList = cs.toList.take o ++ vs ++ cs.toList.drop (o + vs.length)
  | [], o, w, cs, h, hs => ⟨cs, h, rfl, by simp⟩
  | v :: r, o, w, cs, h, hs => by
    simp only [List.length_cons] at hs
    obtain ⟨cs', h1, h2, h3⟩ := Blk.setCells r (o + 1) (h.put o v) (by simp; omega)
    refine ⟨cs', h1, by simpa using h2, ?_⟩
    rw [h3]
    have ho : o < cs.toList.length := by simp; omega
    rw [Array.toList_setIfInBounds, List.drop_set_of_lt (by omega)]
    have e : (cs.toList.set o v).take (o + 1) = cs.toList.take o ++ [v] := by
      rw [List.take_add_one, List.getElem?_set_self ho, List.take_set_of_le (Nat.le_refl _)]
      rfl
    rw [e, show o + 1 + r.length = o + (v :: r).length by simp; omega]
    simp
theorem turn_setCells {g : Nat} : ∀ (vs : List Value) (o : Nat) (w : World), Turn (fun y => y = g) w (w.setCells g o vs)
  | [], _, w => Turn.refl _ w
  | v :: r, o, w => ((Turn.refl (fun y => y = g) w).set (p := ⟨g, o, none⟩) rfl v).trans (turn_setCells r (o + 1) _)
theorem clear_nd (ty : TypeId) (W : World) (G o c : Nat) (cs : Array Value) (h : Blk W G 90 cs) (ho : o + 2 ≤ cs.size) :
    (Builtin.clear_ #[30] ty #[.slice (some ⟨G, o, none⟩) 1 c]).run Tryz.prog W = .ok (.tuple #[]) (W.setCells G o [.slice none 0 0, .slice none 0 0]) := by
  have hzc : (Builtin.zeroCells (Value.agg #[.slice none 0 0, .slice none 0 0]).cells 1).toList = [.slice none 0 0, .slice none 0 0] := by first | kernel_rfl | (simp [Builtin.zeroCells, Value.cells]; decide)
  have hst := run_storeCells_cells (P := Tryz.prog) G o [.slice none 0 0, .slice none 0 0] 0 W (fun j hj => by
      rw [h.at]
      simp only [List.length_cons, List.length_nil] at hj
      rw [Array.getElem?_eq_getElem (by omega)]
      rfl) (fun j _ => h.loose _) (by intro v hv; simp at hv; rw [hv]; rfl)
  simp only [Nat.add_zero] at hst
  simp [Builtin.clear_, run_underlying Tryz.underlying30, hzc, hst]
theorem erase_get {ns : List Nd} {k i : Nat} {x : Nd} (h : (ns.eraseIdx k)[i]? = some x) : ns[if i < k then i else i + 1]? = some x := by
  rw [List.getElem?_eraseIdx] at h
  split at h
  · rename_i q
    rw [if_pos q]
    exact h
  · rename_i q
    rw [if_neg q]
    exact h
/-- A row of nodes, one of them taken out in place. -/
theorem GRow.cut {base : Nat} {wr w2 : World} {G c k : Nat} {us : List Nd} {cr : Array Value} (h : GRow base wr (.slice (some ⟨G, 0, none⟩) us.length c) us) (ht : Turn (fun y => y = G) wr w2) (hk : k < us.length)
    (hB : Blk w2 G 90 cr) (hs : cr.size = c * 2) (htk : cr.toList.take ((us.length - 1) * 2) = flatN (us.take k) ++ flatN (us.drop (k + 1))) :
    GRow base w2 (.slice (some ⟨G, 0, none⟩) (us.eraseIdx k).length c) (us.eraseIdx k) := by
  obtain ⟨cs0, hb0, hlo, _⟩ := h.typed G rfl
  have hcap := h.caps.1
  have hmax : c ≤ maxLen := by
    rcases h.row.2 with ⟨q, _⟩ | ⟨g', cap, cr', q, _, _, _, h4, _⟩
    · cases q
    · injection q with _ _ q
      rw [q]
      exact h4
  have keep : ∀ {A : Option Addr} {vs : List V}, ResS wr base wr.heap.size A vs → ResS w2 base w2.heap.size A vs := fun {A vs} q => (q.turnF ht (fun y hf hp => by
    obtain ⟨T, cs, b1, b2, _⟩ := q.typed hf
    subst hp
    exact b2 (blk_one b1 hb0))).wide ht.size
  have hl := erase_len hk
  refine ⟨⟨by rw [flatN_len], .inr ⟨G, c, cr, rfl, hlo, hB, by omega, hmax, hs, ?_⟩⟩, fun i y hi => keep (h.store _ y (erase_get hi)), fun i y hi => keep (h.wait _ y (erase_get hi)), fun i y hi => h.two _ y (erase_get hi), fun i j y y' hne hi hj => h.apart _ _ y y' (fun e => hne ?_) (erase_get hi) (erase_get hj), Nat.le_trans h.lo ht.size, fun i y hi => (h.own _ y (erase_get hi)).turnedT ht (fun y e => by subst e; exact ⟨_, cs0, hb0, node_ne_ver, node_ne_tag⟩)⟩
  · rw [hl, htk, List.eraseIdx_eq_take_drop_succ, flatN_append]
  · revert e
    split <;> split <;> omega
set_option maxRecDepth 100000 in
set_option maxHeartbeats 4000000 in
theorem delete_any (base G c k m : Nat) (us : List Nd) (w : World) (hG : GRow base w (.slice (some ⟨G, 0, none⟩) us.length c) us) (hm : us.length = k + m + 1) (hl : us.length ≤ 4) :
    Calls Tryz.prog 86 #[.slice (some ⟨G, 0, none⟩) (k + m + 1) c, .int .i64 (k : Int), .int .i64 ((k : Int) + 1)] w fun e w' =>
      e = .returned (.slice (some ⟨G, 0, none⟩) (k + m) c) ∧ GRow base w' (.slice (some ⟨G, 0, none⟩) (us.eraseIdx k).length c) (us.eraseIdx k) ∧ Turn (fun y => y = G) w w' := by
  obtain ⟨j0, hj0, hy0, hy1, hy2⟩ := info_parts node_info
  have J0 := hide hj0
  have J1 := hide hy1
  have hk : k < us.length := by omega
  obtain ⟨cr, hcr, hsz, htk, hmax⟩ : ∃ cr, Blk w G 90 cr ∧ cr.size = c * 2 ∧ cr.toList.take (us.length * 2) = flatN us ∧ c ≤ maxLen := by
    rcases hG.row.2 with ⟨q, _⟩ | ⟨g', cap, cr, q, _, h2, _, h4, h5, h6⟩
    · cases q
    · injection q with q1 _ q3
      injection q1 with q1
      injection q1 with q1
      subst q1 q3
      exact ⟨cr, h2, h5, h6, h4⟩
  have hcap := hG.caps.1
  obtain ⟨ax, hax⟩ : ∃ ax : Addr, (if c = k + 1 then some (⟨G, 0, none⟩ : Addr) else some ⟨G, (k + 1) * 2, none⟩) = some ax ∧ Hid (∀ j u, (flatN (us.drop (k + 1)))[j]? = some u → w.drew.cell? (ax.add j) = some u) := by
    by_cases h : c = k + 1
    · refine ⟨⟨G, 0, none⟩, by simp [h], fun t u hu => ?_⟩
      rw [List.drop_of_length_le (by omega)] at hu
      simp [flatN] at hu
    · exact ⟨⟨G, (k + 1) * 2, none⟩, by simp [h], hG.newsDrop⟩
  obtain ⟨W1, hW1⟩ : ∃ W1, W1 = w.drew.setCells G (0 + k * 2) (flatN (us.drop (k + 1))) := ⟨_, rfl⟩
  have HNL : Hid ((flatN (us.drop (k + 1))).length = m * 2) := by unfold Hid; rw [flatN_len, List.length_drop]; omega
  -- what is there at the end
  obtain ⟨cr2, hB2, hs2, ht2⟩ := Blk.setCells (flatN (us.drop (k + 1))) (0 + k * 2) hcr.drew (by rw [HNL.out]; omega)
  have hT2 := turn_setCells (g := G) (flatN (us.drop (k + 1))) (0 + k * 2) w.drew
  rw [← hW1] at hB2 hT2
  obtain ⟨cr3, hB3, hs3, ht3⟩ := Blk.setCells [.slice none 0 0, .slice none 0 0] ((k + m) * 2) hB2 (by simp only [List.length_cons, List.length_nil]; omega)
  have hT3 := turn_setCells (g := G) [.slice none 0 0, .slice none 0 0] ((k + m) * 2) W1
  have HF : Hid (GRow base (W1.setCells G ((k + m) * 2) [.slice none 0 0, .slice none 0 0]) (.slice (some ⟨G, 0, none⟩) (us.eraseIdx k).length c) (us.eraseIdx k) ∧ Turn (fun y => y = G) w (W1.setCells G ((k + m) * 2) [.slice none 0 0, .slice none 0 0])) := by
    have hT : Turn (fun y => y = G) w (W1.setCells G ((k + m) * 2) [.slice none 0 0, .slice none 0 0]) := (show Turn (fun y => y = G) w W1 from ⟨hT2.os, hT2.tape, hT2.output, hT2.size, hT2.block⟩).trans hT3
    refine ⟨hG.cut hT hk hB3 (by rw [hs3, hs2, hsz]) ?_, hT⟩
    rw [ht3, ht2, Nat.zero_add]
    have hfd := HNL.out
    have hft : (flatN (us.take k)).length = k * 2 := by rw [flatN_len, List.length_take]; omega
    have h0 : cr.toList.take (k * 2) = flatN (us.take k) := by
      have : (cr.toList.take (us.length * 2)).take (k * 2) = (flatN us).take (k * 2) := by rw [htk]
      rw [List.take_take, Nat.min_eq_left (by omega)] at this
      rw [this]
      have e : flatN us = flatN (us.take k) ++ flatN (us.drop k) := by rw [← flatN_append, List.take_append_drop]
      rw [e, List.take_append_of_le_length (by omega), List.take_of_length_le (by omega)]
    rw [h0, show (us.length - 1) * 2 = (k + m) * 2 by omega]
    have hlen : (flatN (us.take k) ++ flatN (us.drop (k + 1))).length = (k + m) * 2 := by rw [List.length_append, hft, hfd]; omega
    have h1 : (flatN (us.take k) ++ flatN (us.drop (k + 1)) ++ cr.toList.drop (k * 2 + (flatN (us.drop (k + 1))).length)).take ((k + m) * 2) = flatN (us.take k) ++ flatN (us.drop (k + 1)) := by
      rw [List.take_append_of_le_length (by omega), List.take_of_length_le (by omega)]
    rw [h1, List.append_assoc, List.take_append_of_le_length (by omega), List.take_of_length_le (by omega)]
  have hcl : ∀ ty, (Builtin.clear_ #[30] ty #[.slice (some ⟨G, (k + m) * 2, none⟩) 1 (c - (k + m))]).run Tryz.prog W1 = .ok (.tuple #[]) (W1.setCells G ((k + m) * 2) [.slice none 0 0, .slice none 0 0]) := fun ty => clear_nd ty W1 G ((k + m) * 2) (c - (k + m)) cr2 hB2 (by omega)
  have HSP : Hid (∀ j, j < (flatN (us.drop (k + 1))).length → (w.drew.cell? ⟨G, 0 + k * 2 + j, none⟩).isSome = true ∧ w.drew.frozen? ⟨G, 0 + k * 2 + j, none⟩ = false) := fun j hj => by
    have := HNL.out
    refine ⟨?_, hcr.drew.loose _⟩
    rw [hcr.drew.at, Array.getElem?_eq_getElem (by omega)]
    rfl
  have HAX := hide hax.2
  have hax1 := hax.1
  have HW1 := hide hW1
  have hck : k + m + 1 ≤ c := by omega
  have hcne : ¬ c = k + m := by omega
  have hne : ((k : Int) == (k : Int) + 1) = false := by rw [beq_eq_false_iff_ne]; omega
  have hkc : k ≤ c := by omega
  have hk1 : (0 : Int) ≤ (k : Int) + 1 := by omega
  have hkm : (k : Int) ≤ (k : Int) + (m : Int) := by omega
  have hk4 : k + m ≤ 3 := by omega
  unfold maxLen at hmax
  clear hax hG hcr hB2 hB3 hT2 hT3 hs2 hs3 ht2 ht3 htk hsz hj0 hy0 hy1 hy2 hW1 hcap hm hl hk
  go_enter Tryz.func86, Tryz.ntmps86
  go_wp2_with fail
  refine wp_region_noPanic ?_
  refine wp_region_held_drew (S := (fun _ => True)) (by kernel_rfl) (by exact True.intro) (fun hHeld => ?_)
  refine mvR 0 (some 20) hHeld ?_
  refine mvR 1 (some 21) hHeld ?_
  refine mvR 2 (some 22) hHeld ?_
  refine mvR 3 (some 23) hHeld ?_
  refine mvR 4 (some 24) hHeld ?_
  refine mvR 5 (some 25) hHeld ?_
  refine take_one 6 (by kernel_rfl) rfl (fun K hK => ?_)
  (refine step_append_room (by rfl) _ _ _ (by rfl) 90 j0 2 Tryz.underlying30 J0.out J1.out G 0 k c (by rfl) ax m (c - (k + 1)) (flatN (us.drop (k + 1))) (by simp only [Act.eval]; first | rfl | (rw [← hax1]; simp; done)) HNL.out HAX.out (flatN_one _) (by omega) HSP.out ?_; rw [← HW1.out])
  simp only [List.getElem_toArray, List.getElem_cons_zero, List.getElem_cons_succ, Act.put, List.setIfInBounds_toArray, List.set_cons_zero, List.set_cons_succ]
  refine hK.out _ _ (by exact True.intro) (fun hHeld => ?_)
  clear hK K
  refine mvR0 7 (some 0) hHeld ?_
  refine wpAnyH_done (by kernel_rfl) ?_ _
  refine NoPanic.normal ?_
  clear hHeld
  go_wp2
  go_ret
  exact ⟨rfl, HF.out.1, HF.out.2⟩
end Go.Proofs.YtnaggcdhimcilaaGreat
/- Contract of the program's ChainFall. Condition: sizes that memory holds. -/
namespace Go.Proofs.YtnaggcdhimcilaaGreat
open Go.RowKit Go.Joins
attribute [local go_sem ↓] Go.wp_at_zero Go.wp_at_succ

/-- At the last of a valid chain nothing waits. -/
theorem bare_same {n : Nd} (h : n.ws = []) : Nd.like n (bare n) := ⟨rfl, like_refl _, by rw [h]; rfl, by rw [h]; exact like_refl _⟩
theorem last_same {r : List Nd} {n : Nd} (hn : r[r.length - 1]? = some n) (hw : n.ws = []) : NL r (lastN r) := by
  rw [lastN_at hn]
  refine ⟨by rw [List.length_set], fun i x y hx hy => ?_⟩
  rcases set_at hy with ⟨rfl, rfl, _⟩ | ⟨_, q⟩
  · rw [hn] at hx
    injection hx with hx
    subst hx
    exact bare_same hw
  · rw [hx] at q
    injection q with q
    subst q
    exact ⟨rfl, like_refl _, rfl, like_refl _⟩
/-- What the program leaves where the head fell, a node in the midst, the last. -/
theorem fall_head {us : List Nd} (h : chainB us = true) (h2 : 2 ≤ us.length) : NL (us.eraseIdx 0) (fallG us 0) := by
  unfold fallG
  rw [owedN_head (by omega)]
  have hl := erase_len (us := us) (k := 0) (by omega)
  obtain ⟨n, hn⟩ : ∃ n, (us.eraseIdx 0)[(us.eraseIdx 0).length - 1]? = some n := ⟨_, List.getElem?_eq_getElem (by omega)⟩
  have hn' := erase_at hn
  rw [if_neg (by omega)] at hn'
  exact last_same hn (chain_end h (by omega) hn')
theorem fall_mid {us : List Nd} {k : Nat} {n m n' : Nd} (h : chainB us = true) (hk : k + 1 < us.length) (h0 : 0 < k) (hn : (us.eraseIdx k)[k - 1]? = some n) (hm : (us.eraseIdx k)[k]? = some m) (hl : Nd.like n' (lackNd n m)) : NL ((us.eraseIdx k).set (k - 1) n') (fallG us k) := by
  unfold fallG
  rw [owedN_at h0 hn hm]
  have hle := erase_len (us := us) (k := k) (by omega)
  have h1 : NL ((us.eraseIdx k).set (k - 1) n') ((us.eraseIdx k).set (k - 1) (lackNd n m)) := nl_set ⟨rfl, fun i x y hx hy => by rw [hx] at hy; injection hy with hy; rw [hy]; exact ⟨rfl, like_refl _, rfl, like_refl _⟩⟩ hl
  obtain ⟨z, hz⟩ : ∃ z, (us.eraseIdx k)[(us.eraseIdx k).length - 1]? = some z := ⟨_, List.getElem?_eq_getElem (by omega)⟩
  have hz' := erase_at hz
  rw [if_neg (by omega)] at hz'
  have hzs : ((us.eraseIdx k).set (k - 1) (lackNd n m))[((us.eraseIdx k).set (k - 1) (lackNd n m)).length - 1]? = some z := by
    rw [List.length_set, List.getElem?_set_ne (by omega)]
    exact hz
  exact nl_trans h1 (last_same hzs (chain_end h (by omega) hz'))
theorem fall_end {us : List Nd} {k : Nat} {n n' : Nd} (hk : k + 1 = us.length) (h0 : 0 < k) (hn : (us.eraseIdx k)[k - 1]? = some n) (hl : Nd.like n' (bare n)) : NL ((us.eraseIdx k).set (k - 1) n') (fallG us k) := by
  unfold fallG
  have hle := erase_len (us := us) (k := k) (by omega)
  rw [owedN_head (by omega)]
  have e : (us.eraseIdx k).length - 1 = k - 1 := by omega
  rw [lastN_at (n := n) (by rw [e]; exact hn), e]
  exact nl_set ⟨rfl, fun i x y hx hy => by rw [hx] at hy; injection hy with hy; rw [hy]; exact ⟨rfl, like_refl _, rfl, like_refl _⟩⟩ hl
set_option maxRecDepth 100000 in
set_option maxHeartbeats 8000000 in
theorem implChainFall_any (A : Option Addr) (c : Nat) (ns : List Nd) (k : Int) (w : World) (hn : ns.length ≤ 1048576) (hm : SmN ns) (hC : CgA w A ns) :
    Calls Tryz.prog 46 #[.agg #[.slice A ns.length c], .int .i64 k] w (AnswerCB w (fallN ns k) (fallK ns k)) := by
  have S0 := ((Inv.start w).box 32 #[.slice A ns.length c]).box 32 #[.slice none 0 0]
  simp only [World.size_alloc] at S0
  have C0 := hide (implChainOk_any A c ns ((w.alloc (.cells #[.slice A ns.length c] 32)).alloc (.cells #[.slice none 0 0] 32)) hn hm (hC.on S0.below))
  have CC : Hid (∀ W, Below w.heap.size w W → Calls Tryz.prog 66 #[.agg #[.slice A ns.length c]] W (ClonedC W ns)) := fun W hW => chainClone_any A c ns W hn hm (hC.on hW)
  have k0 := (S0.nth 1 rfl).one.1
  clear hm hC
  cases ho : chainB ns
  · have HE := hide (fallN_no (k := k) ho)
    rw [ho] at C0
    clear ho
    go_enter Tryz.func46, Tryz.ntmps46
    go_wp2_with fail
    with_reducible refine C0.out.mono ?_
    rintro e w1 ⟨rfl, hb1⟩
    have S1 := S0.on hb1
    have q1 := (S1.nth 0 rfl).one
    clear S0 C0 k0
    go_wp2
    refine bodyPost_ret (v := .tuple #[.agg #[.slice none 0 0], .bool false]) (by simp [results, Tryz.results46, go_sem, q1]) rfl ?_
    exact answerCB_none HE.out (S1.below.setCell (by simp only; omega) _)
  · have HOK := hide ho
    rw [ho] at C0
    clear ho
    go_enter Tryz.func46, Tryz.ntmps46
    go_wp2_with fail
    with_reducible refine C0.out.mono ?_
    rintro e w2 ⟨rfl, hb1⟩
    have S2 := S0.on hb1
    have k2 := (S2.nth 1 rfl).one.1
    have zr := S2.room
    have zb := S2.base
    clear S0 C0 k0 hb1
    go_wp2_with fail
    with_reducible refine (CC.out _ S2.below).mono ?_
    rintro e w3 hcl
    obtain ⟨G, xc, us, rfl, hul, hu4, hB, hu1, hgr, hb3⟩ := cloned_at hcl HOK.out
    have HUL := hide hul
    have HB := hide hB
    have z3 := hb3.size
    have S3 := (S2.on hb3).alloc (.cells #[.slice (some ⟨G, 0, none⟩) us.length xc] 32)
    have V0 := Blk.made w3 32 #[.slice (some ⟨G, 0, none⟩) us.length xc]
    have HGR := hide (hgr.on (below_alloc1 w3 (.cells #[.slice (some ⟨G, 0, none⟩) us.length xc] 32)))
    have v0 := V0.one.1
    have HCU : Hid (chainB us = true) := by unfold Hid; rw [chainB_like hul]; exact HOK.out
    clear S2 k2 hb3 hul hgr hcl hB CC
    by_cases hin : (0 ≤ k ∧ k < (us.length : Int)) ∧ 2 ≤ us.length
    · obtain ⟨⟨hk0, hkl⟩, h2⟩ := hin
      obtain ⟨kn, rfl⟩ : ∃ kn : Nat, k = (kn : Int) := ⟨k.toNat, by omega⟩
      have hkn : kn < us.length := by omega
      have HFB : Hid (fallB ns (kn : Int) = true) := by
        unfold Hid fallB
        rw [← HUL.out.1, decide_eq_true h2, decide_eq_true ⟨hk0, hkl⟩]
        rfl
      obtain ⟨mm, hmm⟩ : ∃ mm, us.length = kn + mm + 1 := ⟨us.length - kn - 1, by omega⟩
      have hrl : (us.eraseIdx kn).length = kn + mm := by rw [erase_len hkn]; omega
      have HMM := hide hmm
      have HRL := hide hrl
      have hk9 : ¬ ((us.length : Int) ≤ (kn : Int)) := by omega
      have hk8 : ¬ ((kn : Int) ≥ (us.length : Int)) := by omega
      have hne1 : ((us.length : Int) == 1) = false := by rw [beq_eq_false_iff_ne]; omega
      have hGlo : w2.heap.size ≤ G := by obtain ⟨_, _, h, _⟩ := HGR.out.typed G rfl; exact h
      have HFN : Hid (fallN ns (kn : Int) = fallG ns kn ∧ fallK ns (kn : Int) = true) := by
        have := fallN_yes HOK.out HFB.out
        rwa [Int.toNat_natCast] at this
      clear hmm hrl
      go_wp2_with fail
      generalize hW0 : w3.alloc (.cells #[.slice (some ⟨G, 0, none⟩) us.length xc] 32) = W0 at V0 v0 HGR S3 ⊢
      have zA : w3.heap.size < W0.heap.size := by rw [← hW0]; simp
      obtain ⟨p3, hp3⟩ : ∃ p3, p3 = w3.heap.size := ⟨_, rfl⟩
      rw [← hp3] at V0 v0 zA z3 ⊢
      have HP3 := hide hp3
      clear hW0 hp3
      have hGp : ¬ p3 = G := fun e => by
        subst e
        obtain ⟨cs, h, _⟩ := HGR.out.typed p3 rfl
        exact absurd (blk_one V0 h) (by decide)
      have CD := delete_any w2.heap.size G xc kn mm us W0 HGR.out HMM.out hu4
      rw [← HMM.out, ← HRL.out] at CD
      have HCD := hide CD
      clear CD v0
      with_reducible refine HCD.out.mono ?_
      rintro e w4 ⟨rfl, hgr4, hT4⟩
      have HG4 := hide hgr4
      have V4 := V0.turned hT4 hGp
      have z4 := hT4.size
      have S4 := S3.turned hT4 (fun g h => by rw [h]; omega) (fun x hx h => by
        simp only [List.mem_cons, List.not_mem_nil, or_false] at hx
        rcases hx with rfl | rfl <;> simp only at h <;> omega)
      have v4 := V4.one
      have HGP := hide hGp
      clear hgr4 hT4 HCD HGR V0 S3 hGp
      have V5 := V4.put 0 (.slice (some ⟨G, 0, none⟩) (us.eraseIdx kn).length xc)
      simp only [List.setIfInBounds_toArray, List.set_cons_zero] at V5
      have S5 := S4.set (p := ⟨p3, 0, none⟩) (by simp only; omega) (by simp only; omega) (.slice (some ⟨G, 0, none⟩) (us.eraseIdx kn).length xc)
      have HG5 : Hid (GRow w2.heap.size (w4.setCell ⟨p3, 0, none⟩ (.slice (some ⟨G, 0, none⟩) (us.eraseIdx kn).length xc)) (.slice (some ⟨G, 0, none⟩) (us.eraseIdx kn).length xc) (us.eraseIdx kn)) := HG4.out.asideT (p := ⟨p3, 0, none⟩) V4 _
      have z5 : (w4.setCell ⟨p3, 0, none⟩ (.slice (some ⟨G, 0, none⟩) (us.eraseIdx kn).length xc)).heap.size = w4.heap.size := by simp [World.setCell]
      have hr4 : (us.eraseIdx kn).length ≤ 4 := by have := HRL.out; have := HMM.out; omega
      by_cases hk00 : kn = 0
      · have hkm1 : (kn : Int) - 1 < 0 := by omega
        have HNL0 : Hid (NL (us.eraseIdx kn) (fallG us kn)) := by unfold Hid; rw [hk00]; exact fall_head HCU.out h2
        clear hk00
        have v5 := V5.one.1
        have CT := hide (linkAt_out G (us.eraseIdx kn).length xc ((kn : Int) - 1) (w4.setCell ⟨p3, 0, none⟩ (.slice (some ⟨G, 0, none⟩) (us.eraseIdx kn).length xc)) (.inl hkm1))
        go_wp2_with fail
        with_reducible refine CT.out.mono ?_
        rintro e w6 ⟨rfl, hb6⟩
        have HG6 := hide (HG5.out.on hb6)
        have S6 := S5.on hb6
        have v6 := (V5.on hb6).one.1
        have q6 := (S6.nth 0 rfl).one
        have HFIN := hide (answerCB_row ((HG6.out.aside (p := ⟨w.heap.size + 1, 0, none⟩) (by simp only; omega) (.slice (some ⟨G, 0, none⟩) (us.eraseIdx kn).length xc)).down zb) (nl_trans HNL0.out (fallG_like HUL.out kn)) (b := true) (S6.below.setCell (p := ⟨w.heap.size + 1, 0, none⟩) (by simp only; omega) _))
        clear CT hb6 S6 HG6 v5
        go_wp2
        refine bodyPost_ret (v := .tuple #[.agg #[.slice (some ⟨G, 0, none⟩) (us.eraseIdx kn).length xc], .bool true]) (by simp [results, Tryz.results46, go_sem, q6]) rfl ?_
        rw [HFN.out.1, HFN.out.2]
        exact HFIN.out
      · obtain ⟨j, rfl⟩ : ∃ j, kn = j + 1 := ⟨kn - 1, by omega⟩
        have hjr : j < (us.eraseIdx (j + 1)).length := by have := HRL.out; omega
        obtain ⟨n, hn⟩ : ∃ n, (us.eraseIdx (j + 1))[j]? = some n := ⟨_, List.getElem?_eq_getElem hjr⟩
        have HN := hide hn
        have hj9 : j ≤ 1048576 := by omega
        have v5 := V5.one.1
        have CT := hide (linkAt_any G (us.eraseIdx (j + 1)).length xc j (w4.setCell ⟨p3, 0, none⟩ (.slice (some ⟨G, 0, none⟩) (us.eraseIdx (j + 1)).length xc)) (by omega) hj9)
        clear hn
        go_wp2_with fail
        with_reducible refine CT.out.mono ?_
        rintro e w6 ⟨hE, hb6⟩
        rw [if_pos hjr] at hE
        obtain ⟨L, rfl, hL⟩ := hE
        obtain ⟨_, _, _, _, _, hL1, _, _⟩ := id hL
        have HG6 := hide (HG5.out.on hb6)
        have V6 := V5.on hb6
        have S6 := S5.on hb6
        have z6 := hb6.size
        have hBr : Hid (∀ (i : Nat) m, (us.eraseIdx (j + 1))[i]? = some m → nodeB m = true) := fun i m hi => HB.out _ m (erase_at hi)
        have CO := hide (owed_any _ L w2.heap.size G xc j (us.eraseIdx (j + 1)) n w6.drew (HG6.out.on (Below.refl _ _).drew) (hL.on (Below.refl _ _).drew) HN.out hr4 hBr.out)
        obtain ⟨cur6, hcg6⟩ := HG6.out.cgs (by omega)
        have HCG6 := hide hcg6
        have hLG : ¬ L = G := fun e => by
          subst e
          exact absurd (blk_one hL1 hcg6.blk) (by decide)
        have HLG := hide hLG
        have hzd : w6.drew.heap.size = w6.heap.size := rfl
        clear CT hb6 hL hcg6 hLG v5
        go_wp2_with fail
        refine wp_region_noPanic ?_
        refine wp_region_held_drew (S := (fun w' => w'.cell? ⟨L, 0, none⟩ = some (.pointer (some ⟨G, j * 2, none⟩)))) (by kernel_rfl) (by exact hL1.drew.at 0) (fun hHeld => ?_)
        refine mvR 0 (some 44) hHeld ?_
        refine mvR 1 (some 45) hHeld ?_
        refine mvR 2 (some 46) hHeld ?_
        refine mvR 3 (some 47) hHeld ?_
        refine mvR 4 (some 48) hHeld ?_
        refine take_one 5 (by kernel_rfl) rfl (fun K hK => ?_)
        go_simp
        ((with_reducible refine CO.out.mono ?_); rintro e w7 ⟨A7, cap7, ws7, rfl, hll7, hcr7, hb7⟩; have HLL7 := hide hll7; have HCR7 := hide hcr7; have HB7 := hide hb7; have L7 := hL1.on (show Below w6.heap.size w6 w7 from (show Below w6.heap.size w6 w6.drew from (Below.refl _ _).drew).trans hb7); have n7 : w7.cell? ⟨G, j * 2 + 1, none⟩ = some (.slice n.wa n.ws.length n.wc) := (((HCG6.out.blk.drew).on hb7).at _).trans (HCG6.out.at' j n HN.out).2; have f7 := ((HCG6.out.blk.drew).on hb7).loose (j * 2 + 1); clear hll7 hcr7 hb7)
        try go_wp2_with fail
        refine hK.out _ _ (by exact L7.at 0) (fun hHeld => ?_)
        clear hK K
        refine mvR 6 (some 50) hHeld ?_
        refine mvR 7 (some 51) hHeld ?_
        refine take_one 8 (by kernel_rfl) rfl (fun K hK => ?_)
        go_simp
        refine hK.out _ _ (by exact (L7.aside (p := ⟨G, j * 2 + 1, none⟩) HLG.out _).at 0) (fun hHeld => ?_)
        clear hK K
        refine wpAnyH_done (by kernel_rfl) ?_ _
        refine NoPanic.normal ?_
        clear hHeld
        have HG8 := hide ((HG6.out.on (Below.refl _ _).drew).newWait (k := j) (n := n) (ws := ws7) (A := A7) (cap := cap7) HN.out HB7.out (HCR7.out.down (by have := (HG6.out).lo; omega)) (fun y hy => .inr (HCR7.out.footLo hy)))
        have S8 := ((S6.drew.on HB7.out).set (p := ⟨G, j * 2 + 1, none⟩) (by simp only; omega) (by simp only; omega) (.slice A7 ws7.length cap7))
        have V8 := ((V6.drew.on HB7.out).aside (p := ⟨G, j * 2 + 1, none⟩) HGP.out (.slice A7 ws7.length cap7))
        have v8 := V8.one.1
        have q8 := (S8.nth 0 rfl).one
        have HNL : Hid (NL ((us.eraseIdx (j + 1)).set j ⟨n.sa, n.sc, n.ss, A7, cap7, ws7⟩) (fallG us (j + 1))) := by
          have hq := HLL7.out
          unfold owesL at hq
          by_cases he : j + 1 + 1 < us.length
          · obtain ⟨m, hm⟩ : ∃ m, (us.eraseIdx (j + 1))[j + 1]? = some m := ⟨_, List.getElem?_eq_getElem (by have := HRL.out; have := HMM.out; omega)⟩
            rw [hm] at hq
            exact fall_mid HCU.out he (by omega) (by simpa using HN.out) hm ⟨rfl, like_refl _, hq.1, hq.2⟩
          · rw [List.getElem?_eq_none (by have := HRL.out; have := HMM.out; omega)] at hq
            have hnil : ws7 = [] := List.length_eq_zero_iff.1 hq.1
            exact fall_end (by omega) (by omega) (by simpa using HN.out) ⟨rfl, like_refl _, by rw [hnil]; rfl, by rw [hnil]; exact like_refl _⟩
        have hsl : ((us.eraseIdx (j + 1)).set j ⟨n.sa, n.sc, n.ss, A7, cap7, ws7⟩).length = (us.eraseIdx (j + 1)).length := List.length_set
        have HFIN := hide (answerCB_row ((HG8.out.aside (p := ⟨w.heap.size + 1, 0, none⟩) (by simp only; omega) (.slice (some ⟨G, 0, none⟩) (us.eraseIdx (j + 1)).length xc)).down zb) (nl_trans HNL.out (fallG_like HUL.out (j + 1))) (b := true) (S8.below.setCell (p := ⟨w.heap.size + 1, 0, none⟩) (by simp only; omega) _))
        generalize w7.setCell ⟨G, j * 2 + 1, none⟩ (.slice A7 ws7.length cap7) = W8 at v8 q8 HFIN ⊢
        clear CO L7 n7 f7 hsl V8 S8 HG8
        go_wp2
        refine bodyPost_ret (v := .tuple #[.agg #[.slice (some ⟨G, 0, none⟩) (us.eraseIdx (j + 1)).length xc], .bool true]) (by simp [results, Tryz.results46, go_sem, q8]) rfl ?_
        rw [HFN.out.1, HFN.out.2]
        exact HFIN.out
    · have hge : k < 0 ∨ (¬ k < 0 ∧ (us.length : Int) ≤ k) ∨ (¬ k < 0 ∧ ¬ (us.length : Int) ≤ k ∧ us.length = 1) := by omega
      have HE : Hid (fallN ns k = ns ∧ fallK ns k = false) := fallN_not HOK.out (by
        unfold fallB
        rw [← HUL.out.1]
        by_cases h2 : 2 ≤ us.length
        · rw [decide_eq_false (p := 0 ≤ k ∧ k < (us.length : Int)) (fun q => hin ⟨q, h2⟩), Bool.and_false]
        · rw [decide_eq_false h2, Bool.false_and])
      have q3 := (S3.nth 0 rfl).one
      have HFIN := hide (answerCB_row ((HGR.out.aside (p := ⟨w.heap.size + 1, 0, none⟩) (by simp only; omega) (.slice (some ⟨G, 0, none⟩) us.length xc)).down zb) HUL.out (b := false) (S3.below.setCell (p := ⟨w.heap.size + 1, 0, none⟩) (by simp only; omega) _))
      clear hin S3 HGR V0
      rcases hge with h1 | ⟨h1, h2⟩ | ⟨h1, h2, h3⟩
      · go_wp2
        refine bodyPost_ret (v := .tuple #[.agg #[.slice (some ⟨G, 0, none⟩) us.length xc], .bool false]) (by simp [results, Tryz.results46, go_sem, q3]) rfl ?_
        rw [HE.out.1, HE.out.2]
        exact HFIN.out
      · have h2' : k ≥ (us.length : Int) := by omega
        go_wp2
        refine bodyPost_ret (v := .tuple #[.agg #[.slice (some ⟨G, 0, none⟩) us.length xc], .bool false]) (by simp [results, Tryz.results46, go_sem, q3]) rfl ?_
        rw [HE.out.1, HE.out.2]
        exact HFIN.out
      · have h2' : ¬ k ≥ (us.length : Int) := by omega
        have h3' : ((us.length : Int) == 1) = true := by rw [h3]; rfl
        clear h3
        go_wp2
        refine bodyPost_ret (v := .tuple #[.agg #[.slice (some ⟨G, 0, none⟩) us.length xc], .bool false]) (by simp [results, Tryz.results46, go_sem, q3]) rfl ?_
        rw [HE.out.1, HE.out.2]
        exact HFIN.out
end Go.Proofs.YtnaggcdhimcilaaGreat
/- Contract of PlaceFall, in the program. Condition: sizes that memory holds. -/
namespace Go.Proofs.YtnaggcdhimcilaaGreat
open Go.RowKit Go.Joins
attribute [local go_sem ↓] Go.wp_at_zero Go.wp_at_succ

theorem store_fn5 (P : Program) (w : World) (a : Addr) (fn : Fn) (x y : Array Value) (m : Mode) : (store a (.func fn x y) m).run P w = stored P w a (.func fn x y) m := run_store P w a _ m rfl
attribute [local go_sem] store_fn5
set_option maxHeartbeats 1000000 in
theorem needFell_any (w0 : World) (r : Pl) : NeedOk w0 44 #[] r r (!r.fell) := by
  intro W C q hW hq hC
  have HQ := hide hq
  have HC := hide hC
  have hf : q.fell = r.fell := hq.2.2.2.2.2
  rw [← hf]
  have q0 := (show Blk W C 73 (ctC q) from hC.blk).at 5
  clear hW hq hC hf
  obtain ⟨me, ck, ca, cc, ns, la, lc, log, ga, gc, gs, fell⟩ := q
  have q1 : W.cell? ⟨C, 5, none⟩ = some (.bool fell) := q0
  clear q0
  go_enter Tryz.func44, Tryz.ntmps44
  go_wp2
  go_ret
  exact ⟨rfl, ⟨_, HQ.out, HC.out⟩, Below.refl _ _⟩
set_option maxHeartbeats 1000000 in
theorem fallThen_any (w0 : World) (r : Pl) (hok : FineN r.ns) (h1 : 1 ≤ r.ns.length) (hl : r.log.length ≤ 60) : ThenOk w0 47 #[] r (noteP (fellP r true)) := by
  intro W C q hW hq hC
  have HQ := hide hq
  have q0 := hC.blk.at 5
  have f0 := hC.blk.loose 5
  have hlo := hC.lo
  have HS := hide ((Below.refl w0.heap.size W).setCell (p := ⟨C, 5, none⟩) hlo (.bool true))
  have CR := hide (record_any w0.heap.size C (fellP q true) _ (hC.fellSet true) (hok.like hq.2.2.1) (by show 1 ≤ q.ns.length; rw [hq.2.2.1.1]; exact h1) (by show q.log.length ≤ 60; rw [hq.2.2.2.1.1]; exact hl))
  obtain ⟨me, ck, ca, cc, ns, la, lc, log, ga, gc, gs, fell⟩ := q
  have q1 : W.cell? ⟨C, 5, none⟩ = some (.bool fell) := q0
  clear hW hq hC q0
  go_enter Tryz.func47, Tryz.ntmps47
  go_wp2_with fail
  with_reducible refine CR.out.mono ?_
  rintro e w1 ⟨rfl, ⟨q', h2, h3⟩, h4⟩
  have H2 := hide (lp_trans h2 (noteP_like (fellP_like HQ.out true)))
  have H3 := hide h3
  have H4 := hide (HS.out.trans h4)
  clear h2 h3 h4 CR q1 f0
  go_wp2
  refine bodyPost_end (v := .tuple #[]) (by simp [results, Tryz.results47, go_sem]) rfl ?_
  exact ⟨rfl, ⟨q', H2.out, H3.out⟩, H4.out⟩
set_option maxRecDepth 100000 in
set_option maxHeartbeats 2000000 in
theorem fallStep_any (A : Option Addr) (c : Nat) (ns : List Nd) (k : Int) (b : Nat) (w : World) (hn : ns.length ≤ 1048576) (hm : SmN ns) (hC : CgA w A ns) (hb : Blk w b 3 #[.int .i64 k]) :
    Calls Tryz.prog 45 (#[.agg #[.slice A ns.length c]] ++ #[.pointer (some ⟨b, 0, none⟩)]) w (AnswerCB w (fallN ns k) (fallK ns k)) := by
  have S0 := ((Inv.start w).box 32 #[.slice A ns.length c]).box 32 #[.slice none 0 0]
  simp only [World.size_alloc] at S0
  have k0 := (S0.nth 1 rfl).one.1
  have b0 := (hb.on S0.below).one.1
  have C0 := hide (implChainFall_any A c ns k ((w.alloc (.cells #[.slice A ns.length c] 32)).alloc (.cells #[.slice none 0 0] 32)) hn hm (hC.on S0.below))
  generalize fallN ns k = rs at C0 ⊢
  generalize fallK ns k = ob at C0 ⊢
  clear hn hm hC hb
  go_enter Tryz.func45, Tryz.ntmps45
  go_wp2_with fail
  with_reducible refine C0.out.mono ?_
  rintro e w1 ⟨A1, cap1, us1, rfl, hn1, hr1, hb1⟩
  have S1 := S0.on hb1
  have HN1 := hide hn1
  have HR1 := hide hr1
  have q1 := (S1.nth 0 rfl).one
  have zr := S1.room
  have hz0 : ((w.alloc (.cells #[.slice A ns.length c] 32)).alloc (.cells #[.slice none 0 0] 32)).heap.size = w.heap.size + 2 := by simp
  clear S0 C0 k0 b0 hn1 hr1 hb1
  go_wp2
  refine bodyPost_ret (v := .tuple #[.agg #[.slice A1 rs.length cap1], .bool ob]) (by simp [results, Tryz.results45, go_sem, q1]) rfl ?_
  have ht : Turn (fun g => g = w.heap.size + 1) w1 (w1.setCell ⟨w.heap.size + 1, 0, none⟩ (.slice A1 rs.length cap1)) := (Turn.refl (fun g => g = w.heap.size + 1) w1).set (p := ⟨w.heap.size + 1, 0, none⟩) rfl _
  have hz : (w1.setCell ⟨w.heap.size + 1, 0, none⟩ (.slice A1 rs.length cap1)).heap.size = w1.heap.size := by simp [World.setCell]
  refine ⟨A1, cap1, us1, rfl, HN1.out, ?_, S1.below.setCell (by simp only; omega) _⟩
  rw [hz]
  exact (HR1.out.turnF ht (fun g hf e => by have := (HR1.out.foot hf).1; omega)).wide (by omega) (Nat.le_refl _)
set_option maxRecDepth 100000 in
set_option maxHeartbeats 4000000 in
theorem implPlaceFall_any (p : Pl) (k : Int) (w : World) (hm : SmP p) (hcap : p.log.length ≤ p.lc ∧ ∀ l ∈ p.gs, l.vs.length ≤ l.c) (hC : Cp w p) :
    Calls Tryz.prog 14 #[.agg (plCells p), .int .i64 k] w (AnswerPB w (fallP p k) (fallPK p k)) := by
  have HCH : Hid (∀ W (nb b kb nc : Nat), Below w.heap.size w W → nb < W.heap.size → (W.cell? ⟨nb, 0, none⟩ = some (.func (.func 44) #[] #[]) ∧ W.cell? ⟨nb, 1, none⟩ = some (.func (.func 64) #[] #[.pointer (some ⟨b, 0, none⟩)])) → Blk W b 60 #[.func (.func 45) #[] #[.pointer (some ⟨kb, 0, none⟩)]] → Blk W kb 3 #[.int .i64 k] → Calls Tryz.prog 31 #[.agg (plCells p), .slice (some ⟨nb, 0, none⟩) 2 nc, .func (.func 47) #[] #[]] W (AnswerPB W (fallP p k) (fallPK p k))) := fun W nb b kb nc hW hnb hcell hblk hkb => by
    refine (change_any p W nb nc [(44, #[]), (64, #[.pointer (some ⟨b, 0, none⟩)])] 47 #[] (fun i => if i = 0 then p else if i = 1 then p else chP p (fallN p.ns k)) (fun i => if i = 0 then !p.fell else fallK p.ns k) (noteP (fellP (chP p (fallN p.ns k)) true)) hm hcap (hC.on hW) (by simp) hnb ?_ ?_ (run_enterV Tryz.func47 (by kernel_rfl) rfl) rfl ?_ ?_).mono ?_
    · intro i m hi
      match i, hi with
      | 0, hi =>
        simp only [List.getElem?_cons_zero, Option.some.injEq] at hi
        subst hi
        exact hcell.1
      | 1, hi =>
        simp only [List.getElem?_cons_succ, List.getElem?_cons_zero, Option.some.injEq] at hi
        subst hi
        exact hcell.2
      | i + 2, hi => simp at hi
    · intro m hmm
      rcases List.mem_cons.1 hmm with rfl | hmm
      · exact run_enterV Tryz.func44 (by kernel_rfl) rfl
      · rw [List.mem_singleton.1 hmm]
        exact run_enterV Tryz.func64 (by kernel_rfl) rfl
    · intro _ w0 h0 i m hi _
      match i, hi with
      | 0, hi =>
        simp only [List.getElem?_cons_zero, Option.some.injEq] at hi
        subst hi
        exact needFell_any w0 p
      | 1, hi =>
        simp only [List.getElem?_cons_succ, List.getElem?_cons_zero, Option.some.injEq] at hi
        subst hi
        exact atChainStep_any w0 b 45 #[.pointer (some ⟨kb, 0, none⟩)] p (fallN p.ns k) (fallK p.ns k) (hblk.on h0) (run_enterV Tryz.func45 (by kernel_rfl) rfl) (fun W' q B C hW' hq hc => by
          have hn := hq.2.2.1
          have CT := fallStep_any q.ca q.cc q.ns k kb W' (by rw [hn.1]; exact hm.1.1) (smN_like hn hm.1.2) hc.chain.cg ((hkb.on h0).on hW')
          refine CT.mono fun e w' ⟨A, cap, us, he, h1, h2, h3⟩ => ?_
          have hl := fallN_like hn k
          exact ⟨A, cap, us, by rw [he, hl.1.1, hl.2], nl_trans h1 hl.1, h2, h3⟩)
      | i + 2, hi => simp at hi
    · intro hp w0 _ _
      obtain ⟨hf, hl⟩ := plB_fine hp
      exact fallThen_any w0 (chP p (fallN p.ns k)) (fallN_fine p.ns k) (fallN_pos (plB_parts hp).2.1) hl
    · rintro e w' ⟨r, b', hch, ha⟩
      obtain ⟨rfl, rfl⟩ := chg_fall hch
      exact ha
  obtain ⟨me, ck, ca, cc, ns, la, lc, log, ga, gc, gs, fell⟩ := p
  have S0 := (((Inv.start w).box 36 (plAt me ck ca ns.length cc la log.length lc ga gs.length gc fell)).box 3 #[.int .i64 k]).box 36 (plAt 0 0 none 0 0 none 0 0 none 0 0 false)
  simp only [World.size_alloc] at S0
  generalize fallP ⟨me, ck, ca, cc, ns, la, lc, log, ga, gc, gs, fell⟩ k = rp at HCH ⊢
  generalize fallPK ⟨me, ck, ca, cc, ns, la, lc, log, ga, gc, gs, fell⟩ k = rb at HCH ⊢
  clear hm hcap hC
  go_enter Tryz.func14, Tryz.ntmps14
  go_wp2_with fail
  generalize ((w.alloc (.cells (plAt me ck ca ns.length cc la log.length lc ga gs.length gc fell) 36)).alloc (.cells #[.int .i64 k] 3)).alloc (.cells (plAt 0 0 none 0 0 none 0 0 none 0 0 false) 36) = W0 at S0 ⊢
  have CA := hide (atChain_any 45 #[.pointer (some ⟨w.heap.size + 1, 0, none⟩)] W0)
  with_reducible refine CA.out.mono ?_
  rintro e w1 ⟨rfl, hB1, hb1⟩
  have S1 := S0.on hb1
  have HB1 := hide hB1
  have q1 := (S1.nth 2 rfl).six
  clear S0 hB1 hb1 CA
  have CF := hide (fun hb => HCH.out (w1.alloc (.cells #[.func (.func 44) #[] #[], .func (.func 64) #[] #[.pointer (some ⟨W0.heap.size, 0, none⟩)]] 56)) w1.heap.size W0.heap.size (w.heap.size + 1) 2 (S1.alloc _).below (by simp) hb (HB1.out.on (below_alloc1 _ _)) ((S1.alloc _).nth 1 rfl))
  have BM := Blk.made w1 56 #[.func (.func 44) #[] #[], .func (.func 64) #[] #[.pointer (some ⟨W0.heap.size, 0, none⟩)]]
  have CG := hide (CF.out ⟨BM.two.1, BM.two.2.1⟩)
  have q3 := (((S1.alloc (.cells #[.func (.func 44) #[] #[], .func (.func 64) #[] #[.pointer (some ⟨W0.heap.size, 0, none⟩)]] 56)).nth 2 rfl)).six
  clear BM
  go_wp2_with fail
  with_reducible refine CG.out.mono ?_
  rintro e w2 ⟨q2, rfl, hq2, hr2, hb2⟩
  have S2 := (S1.alloc _).on hb2
  have HQ2 := hide hq2
  have HR2 := hide hr2
  have s2 := (S2.nth 0 rfl).six
  have zz := S1.room
  have z2 := hb2.size
  obtain ⟨me2, ck2, ca2, cc2, ns2, la2, lc2, log2, ga2, gc2, gs2, fell2⟩ := q2
  have HL := hide S2.below
  clear hq2 hr2 hb2 S1 S2 CF CG q1 q3
  go_wp2
  refine bodyPost_ret (v := .tuple #[.agg (plAt me2 ck2 ca2 ns2.length cc2 la2 log2.length lc2 ga2 gs2.length gc2 fell2), .bool rb]) (by simp [results, Tryz.results14, go_sem, s2]) rfl ?_
  refine ⟨⟨me2, ck2, ca2, cc2, ns2, la2, lc2, log2, ga2, gc2, gs2, fell2⟩, rfl, HQ2.out, ?_, below_set6 HL.out (by omega) _ _ _ _ _ _⟩
  rw [size_w6]
  exact (HR2.out.turn (turn_w6 w2 (w.heap.size + 1 + 1) (.int .i64 me2) (.int .i64 ck2) (.slice ca2 ns2.length cc2) (.slice la2 log2.length lc2) (.slice ga2 gs2.length gc2) (.bool fell2)) (fun g a b e => by simp at a; omega)).wide (by simp; omega) (Nat.le_refl _)
end Go.Proofs.YtnaggcdhimcilaaGreat
/- Contract of a copy of a log, in the model. Condition: sizes that memory holds. -/
namespace Go.Proofs.YtnaggcdhimcilaaGreat
open Go.RowKit Go.Joins
attribute [local go_sem ↓] Go.wp_at_zero Go.wp_at_succ

theorem crow_empty (w : World) : CRow w.heap.size (w.alloc (.cells #[] 96)) (.slice (some ⟨w.heap.size, 0, none⟩) 0 0) [] :=
  ⟨⟨rfl, .inr ⟨w.heap.size, 0, #[], rfl, Nat.le_refl _, heap_alloc_new w _, Nat.le_refl _, by unfold maxLen; omega, rfl, rfl⟩⟩, fun i v h => by simp at h, fun i j v v' _ h => by simp at h, by simp⟩
set_option maxRecDepth 100000 in
set_option maxHeartbeats 4000000 in
theorem l4Vers_any (a : Option Addr) (c : Nat) (vs : List V) (w : World) (hn : vs.length ≤ 1048576) (hm : ∀ v ∈ vs, v.ts.length ≤ 1048576) (hv : Vg w w.heap.size a vs) :
    Calls Tryz.prog 58 #[.slice a vs.length c] w (CopiedR w vs) := by
  obtain ⟨i0, hi0, hz0, hz1, hz2⟩ := info_parts ver_info
  have I0 := hide hi0
  have I1 := hide hz0
  have I2 := hide hz1
  have I3 := hide hz2
  clear hi0 hz0 hz1 hz2
  have HM := hide hm
  clear hm
  generalize hnn : vs.length = n at *
  have HN := hide hnn
  clear hnn
  go_enter Tryz.func58, Tryz.ntmps58
  have BE := hide (below_alloc1 w (.cells #[] 96))
  have HC0 := hide (crow_empty w)
  go_wp2
  go_loopw [3, 4] (fun x i wr => ∃ (k : Nat) (us : List V), k ≤ n ∧ i = .int .i64 (k : Int) ∧ Hid (us.length = k) ∧ Hid (Like us vs) ∧ Hid (CRow w.heap.size wr x us) ∧ Below w.heap.size w wr) (fun _ i _ => n - (intOf i).toNat)
  case atStart => exact ⟨0, [], Nat.zero_le _, rfl, rfl, fun i v v' hi => by simp at hi, HC0.out, BE.out⟩
  case round =>
    obtain ⟨k, us, hk, rfl, HU, HL, HC, hLL⟩ := hrel
    by_cases hlt : k < n
    · rcases hv with h0 | ⟨b, off, rfl, hb, hx⟩
      · have := HN.out; subst h0; simp at this; omega
      · have hkl : k < vs.length := by have := HN.out; omega
        obtain ⟨hS, hT⟩ := hx k _ (List.getElem?_eq_getElem hkl)
        have HX := hide (List.getElem?_eq_getElem hkl)
        generalize vs[k] = v at hS hT HX
        have HB := hide (HM.out v (List.mem_of_getElem? HX.out))
        have hL := hLL
        obtain ⟨s0, s1, s2, s3, s4, s5⟩ := hS.keep hb fun _ hp => hL.cell hp
        have hzz := hL.size
        have HT := hide (((hT.on hL).up hzz))
        have i1 : (0 : Int) ≤ (k : Int) := by omega
        have i2 : (k : Int) < (n : Int) := by omega
        have hbw : b < wr.heap.size := by omega
        clear hS hT hx hL
        go_wp2_with fail
        refine (l2Copy_any v _ HB.out HT.out).mono ?_
        rintro e w1 ⟨v', rfl, hlike, hown, hb1⟩
        have L1 := hide hb1
        have CR := HC.out.on L1.out
        have HLI := hide hlike
        have HOW := hide hown
        have z1 : wr.heap.size ≤ w1.heap.size := hb1.size
        have HR := hide (show w1.ownsRow w.heap.size 96 6 u3 k (flat6 us) by have := CR.row; rw [HU.out] at this; exact this)
        clear s0 s1 s2 s3 s4 s5 hlike hown hb1 CR
        go_wp2_with (at_builtin; (refine wpList_append_lies _ rfl (.tmp 12) (.tmp 18) 33 rfl w.heap.size 96 i0 _ 6 72 Tryz.underlying33 I0.out I1.out I2.out I3.out rfl (by omega) u3 k (flat6 us) rfl (HR.out.alloc _) ⟨w1.heap.size, 0, none⟩ 1 1 (cells6 v') rfl rfl (World.news_of_block (cs := verC v'.k v'.t v'.u v'.a v'.ts.length v'.c v'.s v'.g) (by simpa using heap_alloc_new w1 (.cells (verC v'.k v'.t v'.u v'.a v'.ts.length v'.c v'.s v'.g) 96))) (by simp [cells6, Value.oneCell']) (by omega) (by unfold maxLen; omega) (by omega) (by simp; omega) _ rfl ?_; intro g2 cap2 w2 hown2 hgrow hat hlt2; have OW := hide hown2; have GW := hide hgrow; clear hown2 hgrow hat))
        refine ⟨⟨k + 1, us ++ [v'], by omega, by go_num, ?_, like_step HL.out HU.out HX.out HLI.out, ?_, ((hLL.trans (L1.out.mono hzz)).alloc (by omega) _).grown GW.out (by simp; omega) (fun r hr => (HC.out.typed r hr).elim fun _ h => h.2.1)⟩, by simp [intOf]; omega⟩
        · unfold Hid
          rw [List.length_append, HU.out]
          rfl
        · have hp := HC.out.push (w1 := w1.alloc (.cells (verC v'.k v'.t v'.u v'.a v'.ts.length v'.c v'.s v'.g) 96)) (B := wr.heap.size) (v := v') (g := g2) (cap := cap2) (w2 := w2) (L1.out.trans ((below_alloc1 w1 _).mono L1.out.size)) (by omega) (((by simpa using HOW.out : Own1 w1 wr.heap.size w1.heap.size v').on (below_alloc1 w1 _)).wide (by simp)) (by rw [HU.out]; exact OW.out) GW.out
          rw [HU.out] at hp
          exact hp
    · have hkn : k = n := by omega
      subst hkn
      clear hlt
      go_wp2
      go_ret
      exact ⟨_, us, rfl, HU.out.trans HN.out.symm, HL.out, HC.out, hLL⟩
end Go.Proofs.YtnaggcdhimcilaaGreat
