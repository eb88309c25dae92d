/- How rows of nodes and chains are marked, and the marks found again. Condition: what is said of each. -/
import Derived.Test.YtnaggcdhimcilaaGreatJNodes
import Derived.Test.YtnaggcdhimcilaaGreatJVerOk0
import Derived.Test.YtnaggcdhimcilaaGreatJVerSame
namespace Go.Proofs.YtnaggcdhimcilaaGreat
open Go.RowKit Go.Joins
attribute [local go_sem ↓] Go.wp_at_zero Go.wp_at_succ

theorem wtNs_all (ns : List Nd) : wtNs (ns.take ns.length) = wtNs ns := by rw [List.take_length]
theorem NRow.notG {w : World} {B U G : Nat} {ns : List Nd} {cur : Array Value} (h : NRow w B U G ns cur) {i : Nat} {n : Nd} (hi : ns[i]? = some n) : ¬ FootN n G := by
  intro hf
  rcases hf with hf | hf
  · obtain ⟨T, cs, hb, hT, _⟩ := (h.store i n hi).typed hf
    exact hT (blk_one hb h.blk)
  · obtain ⟨T, cs, hb, hT, _⟩ := (h.wait i n hi).typed hf
    exact hT (blk_one hb h.blk)
theorem NRow.turned {P : Nat → Prop} {w w' : World} {B U G : Nat} {ns : List Nd} {cur : Array Value} (h : NRow w B U G ns cur) (ht : Turn P w w') (hg : ¬ P G) (hp : ∀ (i : Nat) n, ns[i]? = some n → ∀ g, FootN n g → ¬ P g) : NRow w' B U G ns cur :=
  ⟨h.blk.turned ht hg, h.lo, h.hi, h.size, h.at', fun i n hi => (h.store i n hi).turnF ht (fun g hf => hp i n hi g (.inl hf)), fun i n hi => (h.wait i n hi).turnF ht (fun g hf => hp i n hi g (.inr hf)), h.two, h.apart⟩
theorem NRow.on {w w' : World} {B U G : Nat} {ns : List Nd} {cur : Array Value} (h : NRow w B U G ns cur) (hb : Below w.heap.size w w') : NRow w' B U G ns cur := h.turned (P := fun _ => False) (.below hb) (fun h => h) (fun _ _ _ _ _ h => h)
theorem footN_mk {k : Int} {n : Nd} {g : Nat} (h : FootN (mkN k n) g) : FootN n g := by
  rcases h with h | h
  · exact .inl (footS_mk h)
  · exact .inr (footS_mk h)
/-- One node of a row is marked. -/
theorem NRow.turn1 {w w' : World} {B U G j : Nat} {l : List Nd} {cur : Array Value} {n : Nd} {k : Int} (h : NRow w B U G l cur) (hj : l[j]? = some n)
    (hs : ResS w' B U n.sa (mkVs k n.ss)) (hw : ResS w' B U n.wa (mkVs (k + wts n.ss) n.ws)) (ht : Turn (FootN n) w w') : NRow w' B U G (l.set j (mkN k n)) cur := by
  have hjl := (List.getElem?_eq_some_iff.1 hj).1
  have key : ∀ (i : Nat) x, (l.set j (mkN k n))[i]? = some x → (i = j ∧ x = mkN k n) ∨ (i ≠ j ∧ l[i]? = some x) := by
    intro i x hx
    by_cases e : i = j
    · subst e
      rw [List.getElem?_set_self hjl] at hx
      injection hx with hx
      exact .inl ⟨rfl, hx.symm⟩
    · rw [List.getElem?_set_ne (fun e' => e e'.symm)] at hx
      exact .inr ⟨e, hx⟩
  have old : ∀ (i : Nat) x, (l.set j (mkN k n))[i]? = some x → ∃ y, l[i]? = some y ∧ ∀ g, FootN x g → FootN y g := by
    intro i x hx
    rcases key i x hx with ⟨rfl, rfl⟩ | ⟨_, hy⟩
    · exact ⟨n, hj, fun g => footN_mk⟩
    · exact ⟨x, hy, fun g hg => hg⟩
  refine ⟨h.blk.turned ht (h.notG hj), h.lo, h.hi, by rw [List.length_set]; exact h.size, ?_, ?_, ?_, ?_, ?_⟩
  · intro i x hx
    rcases key i x hx with ⟨rfl, rfl⟩ | ⟨_, hy⟩
    · have := h.at' i n hj
      refine ⟨?_, ?_⟩
      · rw [this.1]; simp [mkN, mkVs_len]
      · rw [this.2]; simp [mkN, mkVs_len]
    · exact h.at' i x hy
  · intro i x hx
    rcases key i x hx with ⟨rfl, rfl⟩ | ⟨hne, hy⟩
    · exact hs
    · exact (h.store i x hy).turnF ht (fun g hf hn => h.apart j i n x (fun e => hne e.symm) hj hy g hn (.inl hf))
  · intro i x hx
    rcases key i x hx with ⟨rfl, rfl⟩ | ⟨hne, hy⟩
    · exact hw
    · exact (h.wait i x hy).turnF ht (fun g hf hn => h.apart j i n x (fun e => hne e.symm) hj hy g hn (.inr hf))
  · intro i x hx g h1 h2
    rcases key i x hx with ⟨rfl, rfl⟩ | ⟨hne, hy⟩
    · exact h.two i n hj g (footS_mk h1) (footS_mk h2)
    · exact h.two i x hy g h1 h2
  · intro i i' x x' hne hx hx' g h1 h2
    obtain ⟨y, hy, e⟩ := old i x hx
    obtain ⟨y', hy', e'⟩ := old i' x' hx'
    exact h.apart i i' y y' hne hy hy' g (e g h1) (e' g h2)

/-- The blocks of a row of nodes. -/
def FootNs (ns : List Nd) (g : Nat) : Prop := ∃ (i : Nat) (n : Nd), ns[i]? = some n ∧ FootN n g
/-- Nodes of few versions. -/
def SmallN (ns : List Nd) : Prop := ∀ n ∈ ns, n.ss.length ≤ 1048576 ∧ n.ws.length ≤ 1048576 ∧ (∀ v ∈ n.ss, v.ts.length ≤ 1048576) ∧ ∀ v ∈ n.ws, v.ts.length ≤ 1048576
def MarkedNF (w : World) (B U G : Nat) (ns : List Nd) (k : Int) (e : Ending) (w' : World) : Prop :=
  e = .returned (.int .i64 (k + wtNs ns)) ∧ (∃ cur, NRow w' B U G (mkNs k ns) cur) ∧ Turn (FootNs ns) w w'

set_option maxRecDepth 100000 in
set_option maxHeartbeats 4000000 in
theorem markNodeS_foot (B U G c : Nat) (ns : List Nd) (cur : Array Value) (k : Int) (w : World) (hR : NRow w B U G ns cur) (hm : SmallN ns) (hn : ns.length ≤ 1048576) (hk0 : 1 ≤ k) (hk : k + wtNs ns ≤ 8388000) :
    Calls Tryz.prog 80 #[.slice (some ⟨G, 0, none⟩) ns.length c, .int .i64 k] w (MarkedNF w B U G ns k) := by
  have HM := hide hm
  clear hm
  have HT : Hid (wtNs (ns.take ns.length) = wtNs ns) := wtNs_all ns
  generalize hnn : ns.length = n at *
  have HN := hide hnn
  clear hnn
  go_enter Tryz.func80, Tryz.ntmps80
  go_wp2
  go_loopw [1, 5] (fun v i wr => ∃ (j : Nat) (m : Int) (l : List Nd), j ≤ n ∧ i = .int .i64 (j : Int) ∧ v = .int .i64 m ∧ Hid (m = k + wtNs (ns.take j)) ∧ NRow wr B U G l cur ∧ Hid (l.length = n ∧ (∀ i, i < j → l[i]? = (mkNs k ns)[i]?) ∧ ∀ i, j ≤ i → l[i]? = ns[i]?) ∧ Turn (FootNs ns) w wr) (fun _ i _ => n - (intOf i).toNat)
  case atStart => exact ⟨0, k, ns, Nat.zero_le _, rfl, rfl, by unfold Hid wtNs; simp, hR, ⟨HN.out, fun i hi => absurd hi (by omega), fun _ _ => rfl⟩, Turn.refl _ _⟩
  case round =>
    obtain ⟨j, m, l, hj, rfl, rfl, HMM, hO, HL, hT⟩ := hrel
    clear hR
    by_cases hlt : j < n
    · obtain ⟨v, hv⟩ : ∃ v, ns[j]? = some v := ⟨_, List.getElem?_eq_getElem (by have := HN.out; omega)⟩
      have hlj : l[j]? = some v := by rw [HL.out.2.2 j (Nat.le_refl _), hv]
      have HB := hide (HM.out v (List.mem_of_getElem? hv))
      have st := wtNs_step hv
      have le := wtNs_le ns (j + 1)
      have ps := wtNs_pos (ns.take j)
      have p1 := wts_pos v.ss
      have p2 := wts_pos v.ws
      have HV := hide hv
      have HLJ := hide hlj
      have HWT : Hid (wtN v = wts v.ss + wts v.ws) := rfl
      have b1 : 1 ≤ m := by have := HMM.out; omega
      have b2 : m + wts v.ss + wts v.ws ≤ 8388000 := by have := HMM.out; have := HWT.out; omega
      have H2 : Hid (m + wts v.ss + wts v.ws = k + wtNs (ns.take (j + 1))) := by have := HMM.out; have := HWT.out; unfold Hid; omega
      have hA := hO.at' j v hlj
      have HA := hide hA
      have d0 := (hO.blk.at (j * 2)).trans hA.1
      have HO := hide hO
      have RS := hide (hO.store j v hlj)
      have RW := hide (hO.wait j v hlj)
      have HTT := hide hT
      have i1 : (0 : Int) ≤ (j : Int) := by omega
      have i2 : (j : Int) < (n : Int) := by omega
      clear st le ps hv hlj hA hO hT
      go_wp2_with fail
      refine (markSF_any B U v.sa v.sc v.ss m wr RS.out HB.out.2.2.1 HB.out.1 (by omega) (by omega)).mono ?_
      rintro e w1 ⟨rfl, hM1, T1⟩
      have HM1 := hide hM1
      have HT1 := hide T1
      have d1 := ((HO.out.blk.turned T1 (fun hf => HO.out.notG HLJ.out (.inl hf))).at (j * 2 + 1)).trans HA.out.2
      have RW1 := hide (RW.out.turnF T1 (fun g hf hn => HO.out.two j v HLJ.out g hn hf))
      clear d0 hM1 T1
      go_wp2_with fail
      refine (markSF_any B U v.wa v.wc v.ws (m + wts v.ss) w1 RW1.out HB.out.2.2.2 HB.out.2.1 (by omega) (by omega)).mono ?_
      rintro e w2 ⟨rfl, hM2, T2⟩
      have TT : Hid (Turn (FootN v) wr w2) := Turn.trans ⟨HT1.out.os, HT1.out.tape, HT1.out.output, HT1.out.size, fun i hi hn => HT1.out.block i hi (fun e => hn (.inl e))⟩ ⟨T2.os, T2.tape, T2.output, T2.size, fun i hi hn => T2.block i hi (fun e => hn (.inr e))⟩
      have HR9 : Hid (NRow w2 B U G (l.set j (mkN m v)) cur) := HO.out.turn1 HLJ.out (HM1.out.turnF T2 (fun g hf hn => HO.out.two j v HLJ.out g (footS_mk hf) hn)) hM2 TT.out
      have HT9 : Hid (Turn (FootNs ns) w w2) := HTT.out.trans ⟨TT.out.os, TT.out.tape, TT.out.output, TT.out.size, fun i hi hn => TT.out.block i hi (fun e => hn ⟨j, v, HV.out, e⟩)⟩
      have HL9 : Hid ((l.set j (mkN m v)).length = n ∧ (∀ i, i < j + 1 → (l.set j (mkN m v))[i]? = (mkNs k ns)[i]?) ∧ ∀ i, j + 1 ≤ i → (l.set j (mkN m v))[i]? = ns[i]?) := by
        refine ⟨by rw [List.length_set]; exact HL.out.1, fun i hi => ?_, fun i hi => ?_⟩
        · by_cases e : i = j
          · subst e
            rw [List.getElem?_set_self (by have := HL.out.1; omega), mkNs_at, HV.out, ← HMM.out]
            rfl
          · rw [List.getElem?_set_ne (fun e' => e e'.symm)]
            exact HL.out.2.1 i (by omega)
        · rw [List.getElem?_set_ne (by omega)]
          exact HL.out.2.2 i (by omega)
      clear d1 hM2 T2 HL HA
      go_wp2
      exact ⟨⟨j + 1, _, _, by omega, by go_num, rfl, H2, HR9.out, HL9, HT9.out⟩, by simp [intOf]; omega⟩
    · have hjn : j = n := by omega
      subst hjn
      clear hlt
      have hl : l = mkNs k ns := by
        apply List.ext_getElem?
        intro i
        by_cases hi : i < j
        · exact HL.out.2.1 i hi
        · rw [HL.out.2.2 i (by omega), List.getElem?_eq_none (by have := HN.out; omega), List.getElem?_eq_none (by rw [mkNs_len]; have := HN.out; omega)]
      subst hl
      have HO := hide hO
      have HTT := hide hT
      clear hO hT
      go_wp2
      go_ret
      exact ⟨ret_int (by rw [HMM.out, HT.out]), ⟨cur, HO.out⟩, HTT.out⟩

set_option maxRecDepth 100000 in
set_option maxHeartbeats 4000000 in
theorem heldNodeS_any (B U G c : Nat) (ns : List Nd) (cur : Array Value) (k : Int) (w : World) (hR : NRow w B U G (mkNs k ns) cur) (hm : SmallN ns) (hn : ns.length ≤ 1048576) (hk0 : 1 ≤ k) (hk : k + wtNs ns ≤ 8388000) :
    Calls Tryz.prog 83 #[.slice (some ⟨G, 0, none⟩) ns.length c, .int .i64 k] w fun e w' => e = .returned (.int .i64 (k + wtNs ns)) ∧ Below w.heap.size w w' := by
  have HM := hide hm
  clear hm
  have HT : Hid (wtNs (ns.take ns.length) = wtNs ns) := wtNs_all ns
  generalize hnn : ns.length = n at *
  have HN := hide hnn
  clear hnn
  have HR := hide hR
  clear hR
  go_enter Tryz.func83, Tryz.ntmps83
  go_wp2
  go_loopw [1, 5] (fun v i wr => ∃ (j : Nat) (m : Int), j ≤ n ∧ i = .int .i64 (j : Int) ∧ v = .int .i64 m ∧ Hid (m = k + wtNs (ns.take j)) ∧ Hid (Below w.heap.size w wr)) (fun _ i _ => n - (intOf i).toNat)
  case atStart => exact ⟨0, k, Nat.zero_le _, rfl, rfl, by unfold Hid wtNs; simp, Below.refl _ _⟩
  case round =>
    obtain ⟨j, m, hj, rfl, rfl, HMM, hL⟩ := hrel
    have hRw := HR.out.on hL.out
    by_cases hlt : j < n
    · obtain ⟨v, hv⟩ : ∃ v, ns[j]? = some v := ⟨_, List.getElem?_eq_getElem (by have := HN.out; omega)⟩
      have hmj : (mkNs k ns)[j]? = some (mkN m v) := by rw [mkNs_at, hv, HMM.out]; rfl
      have HB := hide (HM.out v (List.mem_of_getElem? hv))
      have st := wtNs_step hv
      have le := wtNs_le ns (j + 1)
      have ps := wtNs_pos (ns.take j)
      have p1 := wts_pos v.ss
      have p2 := wts_pos v.ws
      have HWT : Hid (wtN v = wts v.ss + wts v.ws) := rfl
      have b1 : 1 ≤ m := by have := HMM.out; omega
      have b2 : m + wts v.ss + wts v.ws ≤ 8388000 := by have := HMM.out; have := HWT.out; omega
      have H2 : Hid (m + wts v.ss + wts v.ws = k + wtNs (ns.take (j + 1))) := by have := HMM.out; have := HWT.out; unfold Hid; omega
      obtain ⟨q0, q1⟩ := hRw.at' j _ hmj
      have RS : Hid (ResS wr B U v.sa (mkVs m v.ss)) := hRw.store j _ hmj
      have RW : Hid (ResS wr B U v.wa (mkVs (m + wts v.ss) v.ws)) := hRw.wait j _ hmj
      simp only [mkN, mkVs_len] at q0 q1
      have d0 := (hRw.blk.at (j * 2)).trans q0
      have Q1 := hide q1
      have BK := hide hRw.blk
      have i1 : (0 : Int) ≤ (j : Int) := by omega
      have i2 : (j : Int) < (n : Int) := by omega
      clear st le ps hv hmj q0 q1 hRw
      go_wp2_with fail
      refine (heldSF_any B U v.sa v.sc v.ss m wr RS.out HB.out.2.2.1 HB.out.1 (by omega) (by omega)).mono ?_
      rintro e w1 ⟨rfl, hb1⟩
      have hpos : ¬ (m + wts v.ss < 0) := by omega
      have d1 := ((BK.out.on hb1).at (j * 2 + 1)).trans Q1.out
      have HB1 := hide hb1
      clear d0 hb1
      go_wp2_with fail
      refine (heldSF_any B U v.wa v.wc v.ws (m + wts v.ss) w1 (RW.out.on HB1.out) HB.out.2.2.2 HB.out.2.1 (by omega) (by omega)).mono ?_
      rintro e w2 ⟨rfl, hb2⟩
      have hpos2 : ¬ (m + wts v.ss + wts v.ws < 0) := by omega
      have HB2 : Hid (Below w.heap.size w w2) := hL.out.trans ((HB1.out.trans (hb2.mono HB1.out.size)).mono hL.out.size)
      clear d1 hb2
      go_wp2
      exact ⟨⟨j + 1, _, by omega, by go_num, rfl, H2, HB2⟩, by simp [intOf]; omega⟩
    · have hjn : j = n := by omega
      subst hjn
      clear hlt hRw
      go_wp2
      go_ret
      exact ⟨ret_int (by rw [HMM.out, HT.out]), hL.out⟩
end Go.Proofs.YtnaggcdhimcilaaGreat
/- Whether two nodes, two rows of nodes, two chains are the same; marks on chains. Condition: what is said of each. -/
namespace Go.Proofs.YtnaggcdhimcilaaGreat
open Go.RowKit Go.Joins
attribute [local go_sem ↓] Go.wp_at_zero Go.wp_at_succ

set_option maxHeartbeats 2000000 in
theorem eqNode_same (a a' b b' : Option Addr) (c c' d d' p q : Nat) (vs us vs' us' : List V) (w : World) (hp : p ≤ 1048576) (hq : q ≤ 1048576) (h1 : vs.length = p) (h2 : us.length = p) (h3 : vs'.length = q) (h4 : us'.length = q)
    (hl : Like vs us) (hl' : Like vs' us') (hm : ∀ v ∈ vs, v.ts.length ≤ 1048576) (hm' : ∀ v ∈ vs', v.ts.length ≤ 1048576) (hv : Vg w w.heap.size a vs) (hu : Vg w w.heap.size a' us) (hv' : Vg w w.heap.size b vs') (hu' : Vg w w.heap.size b' us') :
    Calls Tryz.prog 115 #[.agg #[.slice a p c, .slice b q d], .agg #[.slice a' p c', .slice b' q d']] w fun e w' => e = .returned (.bool true) ∧ Below w.heap.size w w' := by
  have HM := hide hm
  have HM' := hide hm'
  have HL := hide hl
  have HL' := hide hl'
  have E1 := hide h1
  have E2 := hide h2
  have E3 := hide h3
  have E4 := hide h4
  have HV := hide hv
  have HU := hide hu
  have HV' := hide hv'
  have HU' := hide hu'
  clear hm hm' hl hl' h1 h2 h3 h4 hv hu hv' hu'
  have S0 := ((Inv.start w).box 90 #[.slice a p c, .slice b q d]).box 90 #[.slice a' p c', .slice b' q d']
  simp only [World.size_alloc] at S0
  go_enter Tryz.func115, Tryz.ntmps115
  go_wp2_with fail
  refine (eqStore_same a a' c c' p vs us _ hp E1.out E2.out HL.out HM.out ((HV.out.on S0.below).up S0.base) ((HU.out.on S0.below).up S0.base)).mono ?_
  rintro e w1 ⟨rfl, hb1⟩
  have S1 := S0.on hb1
  have q0 := (S1.nth 0 rfl).two
  have q1 := (S1.nth 1 rfl).two
  clear S0
  go_wp2_with fail
  refine (eqVerS_same b b' d d' q vs' us' _ hq E3.out E4.out HL'.out HM'.out ((HV'.out.on S1.below).up S1.base) ((HU'.out.on S1.below).up S1.base)).mono ?_
  rintro e w2 ⟨rfl, hb2⟩
  have S2 := S1.on hb2
  clear S1 q0 q1
  go_wp2
  go_ret
  exact ⟨rfl, S2.below⟩
set_option maxRecDepth 100000 in
set_option maxHeartbeats 4000000 in
theorem eqNodeS_same (B U G c B' U' G' c' n : Nat) (ns us : List Nd) (cur cur' : Array Value) (w : World) (hn : n ≤ 1048576) (hvn : ns.length = n) (hun : us.length = n)
    (hlike : ∀ (i : Nat) v v', ns[i]? = some v → us[i]? = some v' → Nd.like v v') (hm : SmallN ns) (hv : NRow w B U G ns cur) (hu : NRow w B' U' G' us cur') :
    Calls Tryz.prog 78 #[.slice (some ⟨G, 0, none⟩) n c, .slice (some ⟨G', 0, none⟩) n c'] w fun e w' => e = .returned (.bool true) ∧ Below w.heap.size w w' := by
  have HN := hide hvn
  have HU := hide hun
  have HK := hide hlike
  have HM := hide hm
  have HV := hide hv
  have HW := hide hu
  clear hvn hun hlike hm hv hu
  go_enter Tryz.func78, Tryz.ntmps78
  go_wp2
  go_loopw [5] (fun i wr => ∃ k : Nat, k ≤ n ∧ i = .int .i64 (k : Int) ∧ Hid (Below w.heap.size w wr)) (fun i _ => n - (intOf i).toNat)
  case atStart => exact ⟨0, Nat.zero_le _, rfl, Below.refl _ _⟩
  case round =>
    obtain ⟨k, hk, rfl, hL⟩ := hrel
    by_cases hlt : k < n
    · obtain ⟨v, hv⟩ : ∃ v, ns[k]? = some v := ⟨_, List.getElem?_eq_getElem (by have := HN.out; omega)⟩
      obtain ⟨u, hu⟩ : ∃ u, us[k]? = some u := ⟨_, List.getElem?_eq_getElem (by have := HU.out; omega)⟩
      have HB := hide (HM.out v (List.mem_of_getElem? hv))
      obtain ⟨e1, e2, e3, e4⟩ := HK.out k v u hv hu
      have E1 := hide e1
      have E2 := hide e2
      have E3 := hide e3
      have E4 := hide e4
      have A1 := HV.out.at' k v hv
      have A2 := HW.out.at' k u hu
      rw [NdAt, ← e1, ← e3] at A2
      have Q1 := hide A1
      have Q2 := hide A2
      have R1 := hide (HV.out.store k v hv)
      have R2 := hide (HV.out.wait k v hv)
      have R3 := hide (HW.out.store k u hu)
      have R4 := hide (HW.out.wait k u hu)
      clear A1 A2 hv hu e1 e2 e3 e4
      have i1 : (0 : Int) ≤ (k : Int) := by omega
      have i2 : (k : Int) < (n : Int) := by omega
      have jh : ∀ w', Below w.heap.size w w' → w'.cell? ⟨G, k * 2, none⟩ = some (.slice v.sa v.ss.length v.sc) ∧ w'.cell? ⟨G, k * 2 + 1, none⟩ = some (.slice v.wa v.ws.length v.wc) ∧ w'.cell? ⟨G', k * 2, none⟩ = some (.slice u.sa v.ss.length u.sc) ∧ w'.cell? ⟨G', k * 2 + 1, none⟩ = some (.slice u.wa v.ws.length u.wc) ∧ Below w.heap.size w w' := fun w' hb =>
        ⟨((HV.out.blk.on hb).at _).trans Q1.out.1, ((HV.out.blk.on hb).at _).trans Q1.out.2, ((HW.out.blk.on hb).at _).trans Q2.out.1, ((HW.out.blk.on hb).at _).trans Q2.out.2, hb⟩
      go_wp2_with fail
      refine wp_region_noPanic ?_
      refine wp_region_held_drew (S := (fun w' => w'.cell? ⟨G, k * 2, none⟩ = some (.slice v.sa v.ss.length v.sc) ∧ w'.cell? ⟨G, k * 2 + 1, none⟩ = some (.slice v.wa v.ws.length v.wc) ∧ w'.cell? ⟨G', k * 2, none⟩ = some (.slice u.sa v.ss.length u.sc) ∧ w'.cell? ⟨G', k * 2 + 1, none⟩ = some (.slice u.wa v.ws.length u.wc) ∧ Below w.heap.size w w')) (by kernel_rfl) (by exact jh _ hL.out.drew) (fun hHeld => ?_)
      refine mvR 0 (some 17) hHeld ?_
      refine mvR 1 (some 18) hHeld ?_
      refine mvR 2 (some 19) hHeld ?_
      refine mvR 3 (some 20) hHeld ?_
      refine mvR 4 (some 21) hHeld ?_
      refine mvR 5 (some 22) hHeld ?_
      refine mvR 6 (some 23) hHeld ?_
      refine mvR 7 (some 24) hHeld ?_
      refine take_one 8 (by kernel_rfl) rfl (fun K hK => ?_)
      go_simp
      (refine (eqNode_same v.sa u.sa v.wa u.wa v.sc u.sc v.wc u.wc v.ss.length v.ws.length v.ss u.ss v.ws u.ws _ HB.out.1 HB.out.2.1 rfl E1.out.symm rfl E3.out.symm E2.out E4.out HB.out.2.2.1 HB.out.2.2.2 (R1.out.on hHeld.2.2.2.2).vg (R3.out.on hHeld.2.2.2.2).vg (R2.out.on hHeld.2.2.2.2).vg (R4.out.on hHeld.2.2.2.2).vg).mono ?_; rintro e w1 ⟨rfl, hb1⟩)
      try go_wp2_with fail
      refine hK.out _ _ (by exact jh _ (hHeld.2.2.2.2.trans (hb1.mono hHeld.2.2.2.2.size))) (fun hHeld => ?_)
      clear hK K
      refine mvR 9 (some 26) hHeld ?_
      refine wpAnyH_done (by kernel_rfl) ?_ _
      refine NoPanic.normal ?_
      have hL2 := hide hHeld.2.2.2.2
      clear hHeld hL
      go_wp2
      exact ⟨⟨k + 1, by omega, by go_num, hL2⟩, by simp [intOf]; omega⟩
    · have hkn : k = n := by omega
      subst hkn
      clear hlt
      go_wp2
      go_ret
      exact ⟨rfl, hL.out⟩
set_option maxHeartbeats 1000000 in
theorem eqNodeS_nil (a a' : Option Addr) (c c' : Nat) (w : World) :
    Calls Tryz.prog 78 #[.slice a 0 c, .slice a' 0 c'] w fun e w' => e = .returned (.bool true) ∧ w = w' := by
  go_enter Tryz.func78, Tryz.ntmps78
  go_wp2
  go_loop [5] (fun i => i = .int .i64 0) (fun _ => 0)
  case atStart => exact rfl
  case round =>
    subst hrel
    go_wp2
    go_ret
    exact ⟨rfl, rfl⟩
set_option maxHeartbeats 1000000 in
theorem markNodeS_nil (A : Option Addr) (c : Nat) (k : Int) (W : World) :
    Calls Tryz.prog 80 #[.slice A 0 c, .int .i64 k] W fun e w' => e = .returned (.int .i64 k) ∧ W = w' := by
  go_enter Tryz.func80, Tryz.ntmps80
  go_wp2
  go_loop [1, 5] (fun v i => v = .int .i64 k ∧ i = .int .i64 0) (fun _ _ => 0)
  case atStart => exact ⟨rfl, rfl⟩
  case round =>
    obtain ⟨rfl, rfl⟩ := hrel
    go_wp2
    go_ret
    exact ⟨rfl, rfl⟩
set_option maxHeartbeats 1000000 in
theorem heldNodeS_nil (A : Option Addr) (c : Nat) (k : Int) (W : World) :
    Calls Tryz.prog 83 #[.slice A 0 c, .int .i64 k] W fun e w' => e = .returned (.int .i64 k) ∧ W = w' := by
  go_enter Tryz.func83, Tryz.ntmps83
  go_wp2
  go_loop [1, 5] (fun v i => v = .int .i64 k ∧ i = .int .i64 0) (fun _ _ => 0)
  case atStart => exact ⟨rfl, rfl⟩
  case round =>
    obtain ⟨rfl, rfl⟩ := hrel
    go_wp2
    go_ret
    exact ⟨rfl, rfl⟩
end Go.Proofs.YtnaggcdhimcilaaGreat
/- Contracts of the making of an empty store, in the program and in the model. No condition. -/
namespace Go.Proofs.YtnaggcdhimcilaaGreat
open Go.RowKit Go.Joins

/-- No version. -/
def v0 : V := ⟨0, 0, 0, none, 0, [], ⟨#[]⟩, false⟩
abbrev zero24 : Array Value := #[.int .i64 0, .int .i64 0, .int .i64 0, .slice none 0 0, .string ⟨#[]⟩, .bool false, .int .i64 0, .int .i64 0, .int .i64 0, .slice none 0 0, .string ⟨#[]⟩, .bool false, .int .i64 0, .int .i64 0, .int .i64 0, .slice none 0 0, .string ⟨#[]⟩, .bool false, .int .i64 0, .int .i64 0, .int .i64 0, .slice none 0 0, .string ⟨#[]⟩, .bool false]
theorem zero24_at : ∀ (i : Nat) (v : V), [v0, v0, v0, v0][i]? = some v → VerAt zero24 i v := by
  intro i v h
  match i with
  | 0 => simp at h; subst h; exact ⟨rfl, rfl, rfl, rfl, rfl, rfl⟩
  | 1 => simp at h; subst h; exact ⟨rfl, rfl, rfl, rfl, rfl, rfl⟩
  | 2 => simp at h; subst h; exact ⟨rfl, rfl, rfl, rfl, rfl, rfl⟩
  | 3 => simp at h; subst h; exact ⟨rfl, rfl, rfl, rfl, rfl, rfl⟩
  | n + 4 => simp at h
theorem v0_mem {v : V} {i : Nat} (h : [v0, v0, v0, v0][i]? = some v) : v = v0 := by
  have := List.mem_of_getElem? h
  simpa using this
/-- What StoreNew leaves. -/
def NewSt (w : World) (e : Ending) (w' : World) : Prop :=
  ∃ g : Nat, e = .returned (.agg #[.slice (some ⟨g, 0, none⟩) 4 4]) ∧ w.heap.size ≤ g ∧ Blk w' g 96 zero24 ∧ Below w.heap.size w w'
end Go.Proofs.YtnaggcdhimcilaaGreat
/- Contracts of ChainNew, in the program and in the model. No condition. -/
namespace Go.Proofs.YtnaggcdhimcilaaGreat
open Go.RowKit Go.Joins
attribute [local go_sem ↓] Go.wp_at_zero Go.wp_at_succ

/-- The cells of a new node whose store lies in block g. -/
def cells2 (g : Nat) : List Value := [.slice (some ⟨g, 0, none⟩) 4 4, .slice none 0 0]
def flat2 (gs : List Nat) : List Value := gs.flatMap cells2
def nd0 (g : Nat) : Nd := ⟨some ⟨g, 0, none⟩, 4, [v0, v0, v0, v0], none, 0, []⟩
theorem flat2_snoc (gs : List Nat) (g : Nat) : flat2 (gs ++ [g]) = flat2 gs ++ cells2 g := by simp [flat2]
theorem flat2_at : ∀ (gs : List Nat) (i g m : Nat), gs[i]? = some g → m < 2 → (flat2 gs)[i * 2 + m]? = (cells2 g)[m]?
  | [], i, v, m, h, _ => by simp at h
  | x :: r, 0, v, m, h, hm => by
    simp at h
    subst h
    have e : flat2 (x :: r) = cells2 x ++ flat2 r := by simp [flat2]
    rw [e, Nat.zero_mul, Nat.zero_add, List.getElem?_append_left (by simp [cells2]; omega)]
  | x :: r, i + 1, v, m, h, hm => by
    have e : flat2 (x :: r) = cells2 x ++ flat2 r := by simp [flat2]
    have h6 : (cells2 x).length = 2 := rfl
    rw [e, List.getElem?_append_right (by omega), h6]
    have : (i + 1) * 2 + m - 2 = i * 2 + m := by omega
    rw [this]
    exact flat2_at r i v m (by simpa using h) hm
theorem ndAt_of {cur : Array Value} {gs : List Nat} {n : Nat} (h : cur.toList.take n = flat2 gs) (i g : Nat) (hi : gs[i]? = some g) : NdAt cur i (nd0 g) := by
  have key : ∀ m, m < 2 → cur[i * 2 + m]? = (cells2 g)[m]? := by
    intro m hm
    have h1 := flat2_at gs i g m hi hm
    rw [← h] at h1
    have h2 : ∃ u, (cells2 g)[m]? = some u := ⟨_, List.getElem?_eq_getElem (by simp [cells2]; omega)⟩
    obtain ⟨u, hu⟩ := h2
    rw [hu] at h1 ⊢
    obtain ⟨hl, _⟩ := List.getElem?_eq_some_iff.1 h1
    rw [List.length_take] at hl
    rw [List.getElem?_take_of_lt (by omega)] at h1
    simpa using h1
  exact ⟨key 0 (by omega), key 1 (by omega)⟩
theorem node_info : (Tryz.prog.info? 90).map (fun i => (i.zero, i.size, i.bytes)) = some (some (.agg #[.slice none 0 0, .slice none 0 0]), 2, 48) := by kernel_rfl

/-- A row of new nodes as it grows. -/
structure NwRow (base : Nat) (wr : World) (x : Value) (gs : List Nat) : Prop where
  row : wr.ownsRow base 90 2 x gs.length (flat2 gs)
  own : ∀ (i g : Nat), gs[i]? = some g → Blk wr g 96 zero24 ∧ base ≤ g
  apart : ∀ (i j g g' : Nat), i ≠ j → gs[i]? = some g → gs[j]? = some g' → g ≠ g'
  lo : base ≤ wr.heap.size
theorem NwRow.start (base : Nat) (w : World) (h : base ≤ w.heap.size) : NwRow base w (.slice none 0 0) [] :=
  ⟨World.ownsRow_nil _ _ _ _, fun i v h => by simp at h, fun i j v v' _ h => by simp at h, h⟩
theorem NwRow.typed {base : Nat} {wr : World} {x : Value} {us : List Nat} (h : NwRow base wr x us) (r : Nat) (hr : x.ownBlock = some r) : ∃ cs, Blk wr r 90 cs ∧ base ≤ r ∧ r < wr.heap.size := by
  rcases h.row.2 with ⟨rfl, _⟩ | ⟨g', cap, cr, rfl, hg', hb', _⟩
  · simp [Value.ownBlock] at hr
  · simp [Value.ownBlock] at hr
    subst hr
    exact ⟨cr, hb', hg', Blk.inside hb'⟩
theorem NwRow.form {base : Nat} {wr : World} {x : Value} {us : List Nat} (h : NwRow base wr x us) : ∃ A n c, x = .slice A n c := by
  rcases h.row.2 with ⟨rfl, _⟩ | ⟨g', cap, cr, rfl, hg', hb', _⟩
  · exact ⟨_, _, _, rfl⟩
  · exact ⟨_, _, _, rfl⟩
theorem NwRow.on {base : Nat} {wr w2 : World} {x : Value} {us : List Nat} (h : NwRow base wr x us) (hb : Below wr.heap.size wr w2) : NwRow base w2 x us :=
  ⟨World.ownsRow.kept h.row (grown_none (row := none) hb) (Classical.em _), fun i v hi => ⟨(h.own i v hi).1.on hb, (h.own i v hi).2⟩, h.apart, Nat.le_trans h.lo hb.size⟩
theorem NwRow.aside {base : Nat} {wr : World} {x : Value} {us : List Nat} (h : NwRow base wr x us) {p : Addr} (hp : p.block < base) (u : Value) : NwRow base (wr.setCell p u) x us :=
  ⟨ownsRow_setCell_below h.row hp u, fun i v hi => ⟨(h.own i v hi).1.aside (by have := (h.own i v hi).2; omega) u, (h.own i v hi).2⟩, h.apart, by simpa [World.setCell] using h.lo⟩
theorem NwRow.down {base base' : Nat} {wr : World} {x : Value} {us : List Nat} (h : NwRow base wr x us) (hb : base' ≤ base) : NwRow base' wr x us :=
  ⟨⟨h.row.1, by
    rcases h.row.2 with h | ⟨g, cap, cr, h1, h2, h3⟩
    · exact .inl h
    · exact .inr ⟨g, cap, cr, h1, by omega, h3⟩⟩, fun i v hi => ⟨(h.own i v hi).1, by have := (h.own i v hi).2; omega⟩, h.apart, by have := h.lo; omega⟩
/-- One node more. -/
theorem NwRow.push {base : Nat} {wr w1 w2 : World} {x : Value} {us : List Nat} {v g cap : Nat} (h : NwRow base wr x us) (hb : Below wr.heap.size wr w1) (hv : wr.heap.size ≤ v) (ho : Blk w1 v 96 zero24)
    (hown : w2.ownsRow base 90 2 (.slice (some ⟨g, 0, none⟩) (us.length + 1) cap) (us.length + 1) (flat2 us ++ cells2 v)) (hg : w1.grownBy w2 x.ownBlock) : NwRow base w2 (.slice (some ⟨g, 0, none⟩) (us.length + 1) cap) (us ++ [v]) := by
  have hk : ∀ y, Blk w1 y 96 zero24 → Blk w2 y 96 zero24 := fun y hy => hy.kept hg (fun e => by
    obtain ⟨cs, h1, _⟩ := h.typed y e
    exact node_ne_ver (blk_one (h1.on hb) hy))
  have zb := h.lo
  have z1 := hb.size
  have z2 := hg.size
  have hget : ∀ (i : Nat) y, (us ++ [v])[i]? = some y → (i = us.length ∧ y = v) ∨ (i < us.length ∧ us[i]? = some y) := by
    intro i y hy
    by_cases e : i < us.length
    · rw [List.getElem?_append_left e] at hy
      exact .inr ⟨e, hy⟩
    · rw [List.getElem?_append_right (by omega)] at hy
      have h0 : i - us.length = 0 := by
        have := (List.getElem?_eq_some_iff.1 hy).1
        simp at this
        omega
      rw [h0] at hy
      simp at hy
      exact .inl ⟨by omega, hy.symm⟩
  have hap : ∀ (i : Nat) y, us[i]? = some y → y ≠ v := fun i y hy => by have := (h.own i y hy).1.inside; omega
  refine ⟨by simpa [flat2_snoc] using hown, fun i y hy => ?_, fun i j y y' hne hy hy' => ?_, by omega⟩
  · rcases hget i y hy with ⟨rfl, rfl⟩ | ⟨_, hy⟩
    · exact ⟨hk _ ho, by omega⟩
    · exact ⟨hk _ ((h.own i y hy).1.on hb), (h.own i y hy).2⟩
  · rcases hget i y hy with ⟨e1, e2⟩ | ⟨e, hq⟩ <;> rcases hget j y' hy' with ⟨e3, e4⟩ | ⟨e', hq'⟩
    · omega
    · rw [e2]; exact fun e => hap j y' hq' e.symm
    · rw [e4]; exact hap i y hq
    · exact h.apart i j y y' hne hq hq'
theorem foot0 {g h : Nat} (hf : FootN (nd0 g) h) : h = g := by
  rcases hf with ⟨_, G, e, hf⟩ | ⟨h0, _⟩
  · simp only [nd0] at e hf
    injection e with e
    injection e with e
    subst e
    rcases hf with hf | ⟨i, v, hi, hn, _⟩
    · exact hf
    · rw [v0_mem hi] at hn
      exact absurd rfl hn
  · exact absurd rfl h0
theorem NwRow.res {base : Nat} {wr : World} {A : Option Addr} {n c : Nat} {gs : List Nat} (h : NwRow base wr (.slice A n c) gs) : n = gs.length ∧ (gs = [] ∨ ∃ G cur, A = some ⟨G, 0, none⟩ ∧ NRow wr base wr.heap.size G (gs.map nd0) cur) := by
  have hget : ∀ (i : Nat) y, (gs.map nd0)[i]? = some y → ∃ g, gs[i]? = some g ∧ y = nd0 g := by
    intro i y hy
    rw [List.getElem?_map] at hy
    cases hx : gs[i]? with
    | none => rw [hx] at hy; cases hy
    | some x =>
      rw [hx] at hy
      simp only [Option.map_some] at hy
      injection hy with hy
      exact ⟨x, rfl, hy.symm⟩
  rcases h.row.2 with ⟨e0, e⟩ | ⟨g', cap, cr, e0, hg', hb', hn, hm, hs, ht⟩
  · injection e0 with _ e1 _
    exact ⟨by omega, .inl (List.length_eq_zero_iff.1 (by omega))⟩
  · injection e0 with e0 e1 e2
    subst e0 e1 e2
    refine ⟨rfl, .inr ⟨g', cr, rfl, hb', hg', Blk.inside hb', by rw [List.length_map]; omega, ?_, ?_, ?_, ?_, ?_⟩⟩
    · intro i y hy
      obtain ⟨g, hg, rfl⟩ := hget i y hy
      exact ndAt_of ht i g hg
    · intro i y hy
      obtain ⟨g, hg, rfl⟩ := hget i y hy
      have ho := h.own i g hg
      exact .inr ⟨g, zero24, rfl, ho.1, ho.2, ho.1.inside, by simp [nd0], zero24_at, fun i v hi => .inl (by rw [v0_mem hi]; rfl), fun i j v v' _ hi _ hn => by rw [v0_mem hi] at hn; exact absurd rfl hn⟩
    · intro i y hy
      obtain ⟨g, hg, rfl⟩ := hget i y hy
      exact .inl rfl
    · intro i y hy g h1 h2
      obtain ⟨g, hg, rfl⟩ := hget i y hy
      exact absurd rfl h2.1
    · intro i j y y' hne hy hy' x h1 h2
      obtain ⟨g, hg, rfl⟩ := hget i y hy
      obtain ⟨g', hg', rfl⟩ := hget j y' hy'
      exact h.apart i j g g' hne hg hg' ((foot0 h1).symm.trans (foot0 h2))

/-- How many nodes a new chain has. -/
def chN (n : Int) : Nat := if 1 ≤ n ∧ n ≤ 4 then n.toNat else 0
/-- A new chain as a call has made it. -/
def ResC (w : World) (B U : Nat) (A : Option Addr) (gs : List Nat) : Prop := gs = [] ∨ ∃ G cur, A = some ⟨G, 0, none⟩ ∧ NRow w B U G (gs.map nd0) cur
def NewC (w : World) (n : Int) (e : Ending) (w' : World) : Prop :=
  ∃ (A : Option Addr) (cap : Nat) (gs : List Nat), e = .returned (.agg #[.slice A (chN n) cap]) ∧ gs.length = chN n ∧ ResC w' w.heap.size w'.heap.size A gs ∧ Below w.heap.size w w'

def NewR (w : World) (n : Int) (e : Ending) (w' : World) : Prop :=
  ∃ (x : Value) (gs : List Nat), e = .returned (.agg #[x]) ∧ gs.length = chN n ∧ NwRow w.heap.size w' x gs ∧ Below w.heap.size w w'

end Go.Proofs.YtnaggcdhimcilaaGreat
/- Chains that a call answers: compared, marked, and the marks found again. Condition: what is said of each. -/
namespace Go.Proofs.YtnaggcdhimcilaaGreat
open Go.RowKit Go.Joins
attribute [local go_sem ↓] Go.wp_at_zero Go.wp_at_succ

/-- A slice of nodes that a call has made: none, or in blocks of its own from B on and below U. -/
def ResN (w : World) (B U : Nat) (A : Option Addr) (ns : List Nd) : Prop := ns = [] ∨ ∃ G cur, A = some ⟨G, 0, none⟩ ∧ NRow w B U G ns cur
theorem NRow.range {w : World} {B U G : Nat} {ns : List Nd} {cur : Array Value} (h : NRow w B U G ns cur) {i : Nat} {n : Nd} (hi : ns[i]? = some n) {g : Nat} (hf : FootN n g) : B ≤ g ∧ g < U := by
  rcases hf with hf | hf
  · obtain ⟨_, _, _, _, h1⟩ := (h.store i n hi).typed hf
    exact h1
  · obtain ⟨_, _, _, _, h1⟩ := (h.wait i n hi).typed hf
    exact h1
theorem ResN.turn {P : Nat → Prop} {w w' : World} {B U : Nat} {A : Option Addr} {ns : List Nd} (h : ResN w B U A ns) (ht : Turn P w w') (hp : ∀ g, B ≤ g → g < U → ¬ P g) : ResN w' B U A ns := by
  rcases h with h | ⟨G, cur, h1, h2⟩
  · exact .inl h
  · exact .inr ⟨G, cur, h1, h2.turned ht (hp G h2.lo h2.hi) (fun i n hi g hf => hp g (h2.range hi hf).1 (h2.range hi hf).2)⟩
theorem ResN.on {w w' : World} {B U : Nat} {A : Option Addr} {ns : List Nd} (h : ResN w B U A ns) (hb : Below w.heap.size w w') : ResN w' B U A ns := h.turn (P := fun _ => False) (.below hb) (fun _ _ _ h => h)
theorem ResN.alloc {w : World} {B U : Nat} {A : Option Addr} {ns : List Nd} (h : ResN w B U A ns) (o : Obj) : ResN (w.alloc o) B U A ns := h.on (below_alloc1 w o)
theorem ResC.n {w : World} {B U : Nat} {A : Option Addr} {gs : List Nat} (h : ResC w B U A gs) : ResN w B U A (gs.map nd0) := by
  rcases h with h | h
  · exact .inl (by rw [h]; rfl)
  · exact .inr h
set_option maxHeartbeats 2000000 in
theorem eqChain_same (B U B' U' : Nat) (A A' : Option Addr) (c c' n : Nat) (ns us : List Nd) (w : World) (hn : n ≤ 1048576) (hvn : ns.length = n) (hun : us.length = n)
    (hlike : ∀ (i : Nat) v v', ns[i]? = some v → us[i]? = some v' → Nd.like v v') (hm : SmallN ns) (hv : ResN w B U A ns) (hu : ResN w B' U' A' us) :
    Calls Tryz.prog 33 #[.agg #[.slice A n c], .agg #[.slice A' n c']] w fun e w' => e = .returned (.bool true) ∧ Below w.heap.size w w' := by
  have S0 := ((Inv.start w).box 32 #[.slice A n c]).box 32 #[.slice A' n c']
  simp only [World.size_alloc] at S0
  have HC : Hid (∀ W, Below w.heap.size w W → Calls Tryz.prog 78 #[.slice A n c, .slice A' n c'] W fun e w' => e = .returned (.bool true) ∧ Below W.heap.size W w') := fun W hW => by
    by_cases h0 : n = 0
    · subst h0
      exact (eqNodeS_nil A A' c c' W).mono fun e w' ⟨h1, h2⟩ => ⟨h1, by rw [← h2]; exact Below.refl _ _⟩
    · rcases hv with h | ⟨G, cur, rfl, hv⟩
      · rw [h] at hvn; exact absurd hvn.symm h0
      · rcases hu with h | ⟨G', cur', rfl, hu⟩
        · rw [h] at hun; exact absurd hun.symm h0
        · exact eqNodeS_same B U G c B' U' G' c' n ns us cur cur' W hn hvn hun hlike hm (hv.on hW) (hu.on hW)
  clear hlike hm hv hu hvn hun
  go_enter Tryz.func33, Tryz.ntmps33
  go_wp2_with fail
  refine (HC.out _ S0.below).mono ?_
  rintro e w1 ⟨rfl, hb1⟩
  have S1 := S0.on hb1
  clear S0
  go_wp2
  go_ret
  exact ⟨rfl, S1.below⟩
set_option maxHeartbeats 2000000 in
theorem heldChain_any (B U : Nat) (A : Option Addr) (c n : Nat) (ns : List Nd) (k : Int) (w : World) (hR : ResN w B U A (mkNs k ns)) (hl : ns.length = n) (hm : SmallN ns) (hn : n ≤ 1048576) (hk0 : 1 ≤ k) (hk : k + wtNs ns ≤ 8388000) :
    Calls Tryz.prog 39 #[.agg #[.slice A n c], .int .i64 k] w fun e w' => e = .returned (.int .i64 (k + wtNs ns)) ∧ Below w.heap.size w w' := by
  have L0 := below_alloc1 w (.cells #[.slice A n c] 32)
  have hp : ¬ (k + wtNs ns < 0) := by have := wtNs_pos ns; omega
  have HC : Hid (∀ W, Below w.heap.size w W → Calls Tryz.prog 83 #[.slice A n c, .int .i64 k] W fun e w' => e = .returned (.int .i64 (k + wtNs ns)) ∧ Below W.heap.size W w') := fun W hW => by
    by_cases h0 : ns = []
    · subst h0
      simp only [List.length_nil] at hl
      subst hl
      exact (heldNodeS_nil A c k W).mono fun e w' ⟨h1, h2⟩ => ⟨by rw [h1]; simp [wtNs], by rw [← h2]; exact Below.refl _ _⟩
    · rcases hR with h | ⟨G, cur, rfl, hv⟩
      · have := mkNs_len k ns
        rw [h] at this
        exact absurd (List.length_eq_zero_iff.1 this.symm) h0
      · subst hl
        exact heldNodeS_any B U G c ns cur k W (hv.on hW) hm hn hk0 hk
  clear hR hl hm hk
  go_enter Tryz.func39, Tryz.ntmps39
  go_wp2_with fail
  refine (HC.out _ L0).mono ?_
  rintro e w1 ⟨rfl, hb1⟩
  have H1 := hide (L0.trans (hb1.mono L0.size))
  clear hb1 L0
  go_wp2
  go_ret
  exact ⟨rfl, H1.out⟩
end Go.Proofs.YtnaggcdhimcilaaGreat
/- Contracts of the program's links: a node at its place in a chain, and the way to the next one. Condition: a chain's nodes, none or from the beginning of a block. -/
namespace Go.Proofs.YtnaggcdhimcilaaGreat
open Go.RowKit Go.Joins
attribute [local go_sem ↓] Go.wp_at_zero Go.wp_at_succ

/-- The link of node k as it lies in memory, in blocks from B on. -/
def LinkAt (w : World) (B L : Nat) (A : Option Addr) (G n c k : Nat) : Prop :=
  ∃ b1 b2 : Nat, B ≤ L ∧ B ≤ b1 ∧ B ≤ b2 ∧ Blk w L 124 #[.pointer (some ⟨G, k * 2, none⟩), .func (.func 104) #[] #[.pointer (some ⟨b1, 0, none⟩), .pointer (some ⟨b2, 0, none⟩)]] ∧ Blk w b1 30 #[.slice A n c] ∧ Blk w b2 3 #[.int .i64 (k : Int)]
theorem LinkAt.on {w w' : World} {B L G n c k : Nat} {A : Option Addr} (h : LinkAt w B L A G n c k) (hb : Below w.heap.size w w') : LinkAt w' B L A G n c k := by
  obtain ⟨b1, b2, h1, h2, h3, h4, h5, h6⟩ := h
  exact ⟨b1, b2, h1, h2, h3, h4.on hb, h5.on hb, h6.on hb⟩
theorem LinkAt.low {w : World} {B B' L G n c k : Nat} {A : Option Addr} (h : LinkAt w B L A G n c k) (hb : B' ≤ B) : LinkAt w B' L A G n c k := by
  obtain ⟨b1, b2, h1, h2, h3, h4, h5, h6⟩ := h
  exact ⟨b1, b2, by omega, by omega, by omega, h4, h5, h6⟩
/-- What linkAt leaves: nothing behind the last node, else a link. -/
def LinkEnd (w : World) (A : Option Addr) (G n c k : Nat) (e : Ending) (w' : World) : Prop :=
  (if k < n then ∃ L, e = .returned (.pointer (some ⟨L, 0, none⟩)) ∧ LinkAt w' w.heap.size L A G n c k else e = .returned (.pointer none)) ∧ Below w.heap.size w w'
set_option maxRecDepth 100000 in
set_option maxHeartbeats 2000000 in
theorem linkAt_any (G n c k : Nat) (w : World) (_hn : n ≤ 1048576) (hk : k ≤ 1048576) :
    Calls Tryz.prog 67 #[.slice (some ⟨G, 0, none⟩) n c, .int .i64 (k : Int)] w (LinkEnd w (some ⟨G, 0, none⟩) G n c k) := by
  have hmf : ∀ (fn : Fn) (first cap : Array Value) (w : World), (Instr.makeFunc fn first cap).run Tryz.prog w = .ok (.func fn first cap) w := fun _ _ _ _ => rfl
  have h0 : ¬ ((k : Int) < 0) := by omega
  have S0 := ((Inv.start w).box 30 #[.slice (some ⟨G, 0, none⟩) n c]).box 3 #[.int .i64 (k : Int)]
  simp only [World.size_alloc] at S0
  by_cases hlt : k < n
  · have h1 : ¬ ((k : Int) ≥ (n : Int)) := by omega
    have h2 : (k : Int) < (n : Int) := by omega
    have i1 : (0 : Int) ≤ (k : Int) := by omega
    go_enter Tryz.func67, Tryz.ntmps67
    go_wp2
    go_ret
    have S1 := (((Inv.start w).box 30 #[.slice (some ⟨G, 0, none⟩) n c]).box 3 #[.int .i64 (k : Int)]).box 124 #[.pointer (some ⟨G, k * 2, none⟩), .func (.func 104) #[] #[.pointer (some ⟨w.heap.size, 0, none⟩), .pointer (some ⟨w.heap.size + 1, 0, none⟩)]]
    simp only [World.size_alloc] at S1
    refine ⟨?_, S1.below⟩
    rw [if_pos hlt]
    exact ⟨w.heap.size + 1 + 1, rfl, w.heap.size, w.heap.size + 1, by omega, by omega, by omega, S1.nth 0 rfl, S1.nth 2 rfl, S1.nth 1 rfl⟩
  · have h1 : (k : Int) ≥ (n : Int) := by omega
    have h2 : ¬ ((k : Int) < (n : Int)) := by omega
    go_enter Tryz.func67, Tryz.ntmps67
    go_wp2
    go_ret
    exact ⟨by rw [if_neg hlt]; rfl, S0.below⟩
set_option maxRecDepth 100000 in
set_option maxHeartbeats 2000000 in
/-- The way to the next one. -/
theorem next_any (G n c k b1 b2 : Nat) (w : World) (hn : n ≤ 1048576) (hk : k ≤ 1048575) (h1 : Blk w b1 30 #[.slice (some ⟨G, 0, none⟩) n c]) (h2 : Blk w b2 3 #[.int .i64 (k : Int)]) :
    Calls Tryz.prog 104 #[.pointer (some ⟨b1, 0, none⟩), .pointer (some ⟨b2, 0, none⟩)] w (LinkEnd w (some ⟨G, 0, none⟩) G n c (k + 1)) := by
  have q1 := h1.one.1
  have q2 := h2.one.1
  go_enter Tryz.func104, Tryz.ntmps104
  go_wp2_with fail
  have e1 : (k : Int) + 1 = ((k + 1 : Nat) : Int) := by omega
  have CT := linkAt_any G n c (k + 1) w hn (by omega)
  rw [← e1] at CT
  clear e1
  with_reducible refine CT.mono ?_
  clear CT
  rintro e w1 ⟨hE, hb⟩
  have HE := hide hE
  have HB := hide hb
  clear hE hb
  by_cases hlt : k + 1 < n
  · have hq := HE.out
    rw [if_pos hlt] at hq
    obtain ⟨L, rfl, hL⟩ := hq
    have HLL := hide hL
    clear hL
    go_wp2
    go_ret
    exact ⟨by rw [if_pos hlt]; exact ⟨L, rfl, HLL.out⟩, HB.out⟩
  · have hq := HE.out
    rw [if_neg hlt] at hq
    subst hq
    go_wp2
    go_ret
    exact ⟨by rw [if_neg hlt]; rfl, HB.out⟩
end Go.Proofs.YtnaggcdhimcilaaGreat
/- Whether nodes, links and chains are valid, said plainly; such as say the same are alike in that. No condition. -/
namespace Go.Proofs.YtnaggcdhimcilaaGreat

/-- Two slices of versions say the same. -/
def LL (us us' : List V) : Prop := us.length = us'.length ∧ Like us us'
theorem vlike_refl (v : V) : V.like v v := ⟨rfl, rfl, rfl, rfl, rfl, rfl⟩
theorem vlike_symm {v u : V} (h : V.like v u) : V.like u v := ⟨h.1.symm, h.2.1.symm, h.2.2.1.symm, h.2.2.2.1.symm, h.2.2.2.2.1.symm, h.2.2.2.2.2.symm⟩
theorem vlike_trans {v u x : V} (h : V.like v u) (k : V.like u x) : V.like v x := ⟨h.1.trans k.1, h.2.1.trans k.2.1, h.2.2.1.trans k.2.2.1, h.2.2.2.1.trans k.2.2.2.1, h.2.2.2.2.1.trans k.2.2.2.2.1, h.2.2.2.2.2.trans k.2.2.2.2.2⟩
theorem ll_refl (us : List V) : LL us us := ⟨rfl, like_refl us⟩
theorem ll_symm {us us' : List V} (h : LL us us') : LL us' us := ⟨h.1.symm, h.2.swap⟩
theorem ll_trans {us us' us'' : List V} (h : LL us us') (k : LL us' us'') : LL us us'' := ⟨h.1.trans k.1, fun i v v' hv hv' => by
  have hlt : i < us'.length := by have := (List.getElem?_eq_some_iff.1 hv).1; have := h.1; omega
  exact vlike_trans (h.2 i v _ hv (List.getElem?_eq_getElem hlt)) (k.2 i _ v' (List.getElem?_eq_getElem hlt) hv')⟩
theorem ll_at {us us' : List V} (h : LL us us') {i : Nat} {v : V} (hv : us[i]? = some v) : ∃ v', us'[i]? = some v' ∧ V.like v v' := by
  have hlt : i < us'.length := by have := (List.getElem?_eq_some_iff.1 hv).1; have := h.1; omega
  exact ⟨_, List.getElem?_eq_getElem hlt, h.2 i v _ hv (List.getElem?_eq_getElem hlt)⟩
theorem ll_none {us us' : List V} (h : LL us us') {i : Nat} (hv : us[i]? = none) : us'[i]? = none := by
  rw [List.getElem?_eq_none_iff] at *
  have := h.1
  omega
theorem ll_set {us us' : List V} {v v' : V} (h : LL us us') (hv : V.like v v') (j : Nat) : LL (us.set j v) (us'.set j v') := by
  refine ⟨by rw [List.length_set, List.length_set]; exact h.1, fun i x y hx hy => ?_⟩
  by_cases e : i = j
  · subst e
    have hlt : i < us.length := by have := (List.getElem?_eq_some_iff.1 hx).1; rw [List.length_set] at this; exact this
    have hlt' : i < us'.length := by have := h.1; omega
    rw [List.getElem?_set_self hlt] at hx
    rw [List.getElem?_set_self hlt'] at hy
    injection hx with hx
    injection hy with hy
    rw [← hx, ← hy]
    exact hv
  · rw [List.getElem?_set_ne (Ne.symm e)] at hx hy
    exact h.2 i x y hx hy
theorem likesB_ll (us us' : List V) : likesB us us' = true ↔ LL us us' := likesB_iff us us'
theorem likesB_like {a a' b b' : List V} (h : LL a a') (k : LL b b') : likesB a b = likesB a' b' := by
  rw [Bool.eq_iff_iff, likesB_ll, likesB_ll]
  exact ⟨fun q => ll_trans (ll_symm h) (ll_trans q k), fun q => ll_trans h (ll_trans q (ll_symm k))⟩
/-- Whether a node is valid by itself. -/
def nodeB (n : Nd) : Bool := storeB n.ss && decide (n.ws.length ≤ 6) && n.ws.all verV
/-- One version that waits comes to a store, if it is later. -/
def stepL (us : List V) (v : V) : Option (List V) := match us[v.k.toNat]? with | some x => if lessB x.t x.u v.t v.u = true then some (us.set v.k.toNat v) else none | none => none
/-- All that waits comes to a store. -/
def walkL (us : List V) (ws : List V) : Option (List V) := ws.foldl (fun o v => o.bind fun us => stepL us v) (some us)
theorem walkL_step {us ws : List V} {k : Nat} {v : V} (h : ws[k]? = some v) : walkL us (ws.take (k + 1)) = (walkL us (ws.take k)).bind fun us => stepL us v := by
  unfold walkL
  rw [List.take_add_one, h, List.foldl_append]
  rfl
theorem walk_none (ws : List V) : ws.foldl (fun o v => o.bind fun us => stepL us v) (none : Option (List V)) = none := by
  induction ws with
  | nil => rfl
  | cons v r ih => exact ih
theorem walkL_none {us ws : List V} {k : Nat} (h : walkL us (ws.take k) = none) : walkL us ws = none := by
  unfold walkL at *
  rw [← List.take_append_drop k ws, List.foldl_append, h, walk_none]
/-- What waits at a node is what the next one lacks. -/
def linkB (n m : Nd) : Bool := match walkL m.ss n.ws with | some us => likesB us n.ss | none => false
theorem linkB_none {n m : Nd} {k : Nat} (h : walkL m.ss (n.ws.take k) = none) : linkB n m = false := by
  unfold linkB
  rw [walkL_none h]
theorem linkB_some {n m : Nd} {us : List V} (h : walkL m.ss n.ws = some us) : linkB n m = likesB us n.ss := by
  unfold linkB
  rw [h]
def stepB (ns : List Nd) (k : Nat) : Bool := match ns[k]? with | some n => (match ns[k + 1]? with | some m => linkB n m | none => decide (n.ws.length = 0)) | none => true
/-- Whether a chain is valid. -/
def chainB (ns : List Nd) : Bool := decide (1 ≤ ns.length ∧ ns.length ≤ 4) && ns.all nodeB && (List.range ns.length).all (stepB ns)
theorem chainB_len {ns : List Nd} (h : ¬ (1 ≤ ns.length ∧ ns.length ≤ 4)) : chainB ns = false := by unfold chainB; rw [decide_eq_false h]; rfl
theorem chainB_node {ns : List Nd} {i : Nat} {n : Nd} (hi : ns[i]? = some n) (h : nodeB n = false) : chainB ns = false := by
  unfold chainB
  have : ns.all nodeB = false := by
    rw [List.all_eq_false]
    exact ⟨n, List.mem_of_getElem? hi, by rw [h]; decide⟩
  rw [this]
  simp
theorem chainB_step {ns : List Nd} {i : Nat} (hi : i < ns.length) (h : stepB ns i = false) : chainB ns = false := by
  unfold chainB
  have : (List.range ns.length).all (stepB ns) = false := by
    rw [List.all_eq_false]
    exact ⟨i, List.mem_range.2 hi, by rw [h]; decide⟩
  rw [this]
  simp
theorem chainB_ok {ns : List Nd} (h0 : 1 ≤ ns.length ∧ ns.length ≤ 4) (h1 : ∀ (i : Nat) n, ns[i]? = some n → nodeB n = true) (h2 : ∀ i, i < ns.length → stepB ns i = true) : chainB ns = true := by
  unfold chainB
  rw [decide_eq_true h0, Bool.true_and, Bool.and_eq_true, List.all_eq_true, List.all_eq_true]
  refine ⟨fun n hn => ?_, fun i hi => h2 i (List.mem_range.1 hi)⟩
  obtain ⟨i, hi⟩ := List.getElem?_of_mem hn
  exact h1 i n hi
theorem chainB_parts {ns : List Nd} (h : chainB ns = true) : (1 ≤ ns.length ∧ ns.length ≤ 4) ∧ (∀ (i : Nat) n, ns[i]? = some n → nodeB n = true) ∧ ∀ i, i < ns.length → stepB ns i = true := by
  unfold chainB at h
  rw [Bool.and_eq_true, Bool.and_eq_true, decide_eq_true_eq, List.all_eq_true, List.all_eq_true] at h
  exact ⟨h.1.1, fun i n hi => h.1.2 n (List.mem_of_getElem? hi), fun i hi => h.2 i (List.mem_range.2 hi)⟩
theorem nodeB_parts {n : Nd} (h : nodeB n = true) : storeB n.ss = true ∧ n.ws.length ≤ 6 ∧ ∀ v ∈ n.ws, verV v = true := by
  unfold nodeB at h
  rw [Bool.and_eq_true, Bool.and_eq_true, decide_eq_true_eq, List.all_eq_true] at h
  exact ⟨h.1.1, h.1.2, h.2⟩
theorem stepL_like {us us' : List V} {v v' : V} (h : LL us us') (hv : V.like v v') : (stepL us v = none ∧ stepL us' v' = none) ∨ ∃ x x', stepL us v = some x ∧ stepL us' v' = some x' ∧ LL x x' := by
  unfold stepL
  rw [← hv.1, ← hv.2.1, ← hv.2.2.1]
  cases hx : us[v.k.toNat]? with
  | none => exact .inl ⟨rfl, by rw [ll_none h hx]⟩
  | some x =>
    obtain ⟨x', hx', hl⟩ := ll_at h hx
    rw [hx']
    simp only
    rw [← hl.2.1, ← hl.2.2.1]
    by_cases q : lessB x.t x.u v.t v.u = true
    · rw [if_pos q, if_pos q]
      exact .inr ⟨_, _, rfl, rfl, ll_set h hv _⟩
    · rw [if_neg q, if_neg q]
      exact .inl ⟨rfl, rfl⟩
theorem ll_cons {v v' : V} {r r' : List V} (h : LL (v :: r) (v' :: r')) : V.like v v' ∧ LL r r' := ⟨h.2 0 v v' rfl rfl, by simpa using h.1, fun i x y hx hy => h.2 (i + 1) x y hx hy⟩
theorem walkL_like : ∀ {ws ws' us us' : List V}, LL ws ws' → LL us us' → (walkL us ws = none ∧ walkL us' ws' = none) ∨ ∃ x x', walkL us ws = some x ∧ walkL us' ws' = some x' ∧ LL x x'
  | [], [], us, us', _, h => .inr ⟨us, us', rfl, rfl, h⟩
  | [], _ :: _, _, _, h, _ => by simp [LL] at h
  | _ :: _, [], _, _, h, _ => by simp [LL] at h
  | v :: r, v' :: r', us, us', hw, h => by
    obtain ⟨h1, h2⟩ := ll_cons hw
    have e : walkL us (v :: r) = r.foldl (fun o v => o.bind fun us => stepL us v) (stepL us v) := rfl
    have e' : walkL us' (v' :: r') = r'.foldl (fun o v => o.bind fun us => stepL us v) (stepL us' v') := rfl
    rw [e, e']
    rcases stepL_like h h1 with ⟨q1, q2⟩ | ⟨x, x', q1, q2, q3⟩
    · rw [q1, q2, walk_none, walk_none]
      exact .inl ⟨rfl, rfl⟩
    · rw [q1, q2]
      exact walkL_like h2 q3
theorem linkB_like {n n' m m' : Nd} (h : Nd.like n n') (k : Nd.like m m') : linkB n m = linkB n' m' := by
  unfold linkB
  rcases walkL_like (ws := n.ws) (ws' := n'.ws) (us := m.ss) (us' := m'.ss) ⟨h.2.2.1, h.2.2.2⟩ ⟨k.1, k.2.1⟩ with ⟨q1, q2⟩ | ⟨x, x', q1, q2, q3⟩
  · rw [q1, q2]
  · rw [q1, q2]
    exact likesB_like q3 ⟨h.1, h.2.1⟩
theorem verV_like {v v' : V} (h : V.like v v') : verV v = verV v' := by
  unfold verV
  rw [h.1, h.2.1, h.2.2.1, h.2.2.2.1, h.2.2.2.2.1, h.2.2.2.2.2]
theorem allV_like : ∀ {ws ws' : List V}, LL ws ws' → ws.all verV = ws'.all verV
  | [], [], _ => rfl
  | [], _ :: _, h => by simp [LL] at h
  | _ :: _, [], h => by simp [LL] at h
  | v :: r, v' :: r', h => by
    obtain ⟨h1, h2⟩ := ll_cons h
    rw [List.all_cons, List.all_cons, verV_like h1, allV_like h2]
theorem nodeB_like {n n' : Nd} (h : Nd.like n n') : nodeB n = nodeB n' := by
  unfold nodeB
  rw [storeB_like h.1 h.2.1, h.2.2.1, allV_like (ws := n.ws) (ws' := n'.ws) ⟨h.2.2.1, h.2.2.2⟩]
/-- Two slices of nodes say the same. -/
def NL (ns us : List Nd) : Prop := ns.length = us.length ∧ ∀ (i : Nat) v v', ns[i]? = some v → us[i]? = some v' → Nd.like v v'
theorem nl_at {us us' : List Nd} (h : NL us us') {i : Nat} {v : Nd} (hv : us[i]? = some v) : ∃ v', us'[i]? = some v' ∧ Nd.like v v' := by
  have hlt : i < us'.length := by have := (List.getElem?_eq_some_iff.1 hv).1; have := h.1; omega
  exact ⟨_, List.getElem?_eq_getElem hlt, h.2 i v _ hv (List.getElem?_eq_getElem hlt)⟩
theorem nl_none {us us' : List Nd} (h : NL us us') {i : Nat} (hv : us[i]? = none) : us'[i]? = none := by
  rw [List.getElem?_eq_none_iff] at *
  have := h.1
  omega
theorem stepB_like {ns us : List Nd} (h : NL ns us) (k : Nat) : stepB ns k = stepB us k := by
  unfold stepB
  cases hx : ns[k]? with
  | none => rw [nl_none h hx]
  | some n =>
    obtain ⟨n', hx', hl⟩ := nl_at h hx
    rw [hx']
    cases hy : ns[k + 1]? with
    | none => rw [nl_none h hy]; simp only [hl.2.2.1]
    | some m =>
      obtain ⟨m', hy', hm⟩ := nl_at h hy
      rw [hy']
      exact linkB_like hl hm
theorem ndlike_symm {n n' : Nd} (h : Nd.like n n') : Nd.like n' n := ⟨h.1.symm, h.2.1.swap, h.2.2.1.symm, h.2.2.2.swap⟩
theorem ndlike_trans {n n' n'' : Nd} (h : Nd.like n n') (k : Nd.like n' n'') : Nd.like n n'' :=
  ⟨h.1.trans k.1, (ll_trans (us := n.ss) (us' := n'.ss) ⟨h.1, h.2.1⟩ ⟨k.1, k.2.1⟩).2, h.2.2.1.trans k.2.2.1, (ll_trans (us := n.ws) (us' := n'.ws) ⟨h.2.2.1, h.2.2.2⟩ ⟨k.2.2.1, k.2.2.2⟩).2⟩
theorem nl_symm {ns us : List Nd} (h : NL ns us) : NL us ns := ⟨h.1.symm, fun i v v' hv hv' => ndlike_symm (h.2 i v' v hv' hv)⟩
theorem nl_trans {a b c : List Nd} (h : NL a b) (k : NL b c) : NL a c := ⟨h.1.trans k.1, fun i v v' hv hv' => by
  obtain ⟨x, hx, hl⟩ := nl_at h hv
  exact ndlike_trans hl (k.2 i x v' hx hv')⟩
theorem chainB_like {ns us : List Nd} (h : NL ns us) : chainB ns = chainB us := by
  have key : ∀ {ns us : List Nd}, NL ns us → chainB ns = true → chainB us = true := fun {ns us} h hq => by
    obtain ⟨h0, h1, h2⟩ := chainB_parts hq
    refine chainB_ok (by rw [← h.1]; exact h0) (fun i n hi => ?_) (fun i hi => ?_)
    · obtain ⟨n', hn', hl⟩ := nl_at (nl_symm h) hi
      rw [nodeB_like hl]
      exact h1 i n' hn'
    · rw [← stepB_like h]
      exact h2 i (by have := h.1; omega)
  rw [Bool.eq_iff_iff]
  exact ⟨key h, key (nl_symm h)⟩
end Go.Proofs.YtnaggcdhimcilaaGreat
