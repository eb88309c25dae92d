/- How rows of nodes and chains are marked, and the marks found again. Condition: what is said of each. -/
import Derived.Test.YtpkoidbenojkmaaNodes
namespace Go.Proofs.Ytpkoidbenojkmaa
open Go.RowKit Go.Joins
attribute [local go_sem ↓] Go.wp_at_zero Go.wp_at_succ

theorem wtNs_all (ns : List Nd) : wtNs (ns.take ns.length) = wtNs ns := by rw [List.take_length]
theorem NRow.notG {w : World} {B U G : Nat} {ns : List Nd} {cur : Array Value} (h : NRow w B U G ns cur) {i : Nat} {n : Nd} (hi : ns[i]? = some n) : ¬ FootN n G := by
  intro hf
  rcases hf with hf | hf
  · obtain ⟨T, cs, hb, hT, _⟩ := (h.store i n hi).typed hf
    exact hT (blk_one hb h.blk)
  · obtain ⟨T, cs, hb, hT, _⟩ := (h.wait i n hi).typed hf
    exact hT (blk_one hb h.blk)
theorem NRow.turned {P : Nat → Prop} {w w' : World} {B U G : Nat} {ns : List Nd} {cur : Array Value} (h : NRow w B U G ns cur) (ht : Turn P w w') (hg : ¬ P G) (hp : ∀ (i : Nat) n, ns[i]? = some n → ∀ g, FootN n g → ¬ P g) : NRow w' B U G ns cur :=
  ⟨h.blk.turned ht hg, h.lo, h.hi, h.size, h.at', fun i n hi => (h.store i n hi).turnF ht (fun g hf => hp i n hi g (.inl hf)), fun i n hi => (h.wait i n hi).turnF ht (fun g hf => hp i n hi g (.inr hf)), h.two, h.apart⟩
theorem NRow.on {w w' : World} {B U G : Nat} {ns : List Nd} {cur : Array Value} (h : NRow w B U G ns cur) (hb : Below w.heap.size w w') : NRow w' B U G ns cur := h.turned (P := fun _ => False) (.below hb) (fun h => h) (fun _ _ _ _ _ h => h)
theorem footN_mk {k : Int} {n : Nd} {g : Nat} (h : FootN (mkN k n) g) : FootN n g := by
  rcases h with h | h
  · exact .inl (footS_mk h)
  · exact .inr (footS_mk h)
/-- One node of a row is marked. -/
theorem NRow.turn1 {w w' : World} {B U G j : Nat} {l : List Nd} {cur : Array Value} {n : Nd} {k : Int} (h : NRow w B U G l cur) (hj : l[j]? = some n)
    (hs : ResS w' B U n.sa (mkVs k n.ss)) (hw : ResS w' B U n.wa (mkVs (k + wts n.ss) n.ws)) (ht : Turn (FootN n) w w') : NRow w' B U G (l.set j (mkN k n)) cur := by
  have hjl := (List.getElem?_eq_some_iff.1 hj).1
  have key : ∀ (i : Nat) x, (l.set j (mkN k n))[i]? = some x → (i = j ∧ x = mkN k n) ∨ (i ≠ j ∧ l[i]? = some x) := by
    intro i x hx
    by_cases e : i = j
    · subst e
      rw [List.getElem?_set_self hjl] at hx
      injection hx with hx
      exact .inl ⟨rfl, hx.symm⟩
    · rw [List.getElem?_set_ne (fun e' => e e'.symm)] at hx
      exact .inr ⟨e, hx⟩
  have old : ∀ (i : Nat) x, (l.set j (mkN k n))[i]? = some x → ∃ y, l[i]? = some y ∧ ∀ g, FootN x g → FootN y g := by
    intro i x hx
    rcases key i x hx with ⟨rfl, rfl⟩ | ⟨_, hy⟩
    · exact ⟨n, hj, fun g => footN_mk⟩
    · exact ⟨x, hy, fun g hg => hg⟩
  refine ⟨h.blk.turned ht (h.notG hj), h.lo, h.hi, by rw [List.length_set]; exact h.size, ?_, ?_, ?_, ?_, ?_⟩
  · intro i x hx
    rcases key i x hx with ⟨rfl, rfl⟩ | ⟨_, hy⟩
    · have := h.at' i n hj
      refine ⟨?_, ?_⟩
      · rw [this.1]; simp [mkN, mkVs_len]
      · rw [this.2]; simp [mkN, mkVs_len]
    · exact h.at' i x hy
  · intro i x hx
    rcases key i x hx with ⟨rfl, rfl⟩ | ⟨hne, hy⟩
    · exact hs
    · exact (h.store i x hy).turnF ht (fun g hf hn => h.apart j i n x (fun e => hne e.symm) hj hy g hn (.inl hf))
  · intro i x hx
    rcases key i x hx with ⟨rfl, rfl⟩ | ⟨hne, hy⟩
    · exact hw
    · exact (h.wait i x hy).turnF ht (fun g hf hn => h.apart j i n x (fun e => hne e.symm) hj hy g hn (.inr hf))
  · intro i x hx g h1 h2
    rcases key i x hx with ⟨rfl, rfl⟩ | ⟨hne, hy⟩
    · exact h.two i n hj g (footS_mk h1) (footS_mk h2)
    · exact h.two i x hy g h1 h2
  · intro i i' x x' hne hx hx' g h1 h2
    obtain ⟨y, hy, e⟩ := old i x hx
    obtain ⟨y', hy', e'⟩ := old i' x' hx'
    exact h.apart i i' y y' hne hy hy' g (e g h1) (e' g h2)

/-- The blocks of a row of nodes. -/
def FootNs (ns : List Nd) (g : Nat) : Prop := ∃ (i : Nat) (n : Nd), ns[i]? = some n ∧ FootN n g
/-- Nodes of few versions. -/
def SmallN (ns : List Nd) : Prop := ∀ n ∈ ns, n.ss.length ≤ 1048576 ∧ n.ws.length ≤ 1048576 ∧ (∀ v ∈ n.ss, v.ts.length ≤ 1048576) ∧ ∀ v ∈ n.ws, v.ts.length ≤ 1048576
def MarkedNF (w : World) (B U G : Nat) (ns : List Nd) (k : Int) (e : Ending) (w' : World) : Prop :=
  e = .returned (.int .i64 (k + wtNs ns)) ∧ (∃ cur, NRow w' B U G (mkNs k ns) cur) ∧ Turn (FootNs ns) w w'

set_option maxRecDepth 100000 in
set_option maxHeartbeats 4000000 in
theorem markNodeS_foot (B U G c : Nat) (ns : List Nd) (cur : Array Value) (k : Int) (w : World) (hR : NRow w B U G ns cur) (hm : SmallN ns) (hn : ns.length ≤ 1048576) (hk0 : 1 ≤ k) (hk : k + wtNs ns ≤ 8388000) :
    Calls Try.prog 45 #[.slice (some ⟨G, 0, none⟩) ns.length c, .int .i64 k] w (MarkedNF w B U G ns k) := by
  have HM := hide hm
  clear hm
  have HT : Hid (wtNs (ns.take ns.length) = wtNs ns) := wtNs_all ns
  generalize hnn : ns.length = n at *
  have HN := hide hnn
  clear hnn
  go_enter Try.func45, Try.ntmps45
  go_wp2
  go_loopw [1, 5] (fun v i wr => ∃ (j : Nat) (m : Int) (l : List Nd), j ≤ n ∧ i = .int .i64 (j : Int) ∧ v = .int .i64 m ∧ Hid (m = k + wtNs (ns.take j)) ∧ NRow wr B U G l cur ∧ Hid (l.length = n ∧ (∀ i, i < j → l[i]? = (mkNs k ns)[i]?) ∧ ∀ i, j ≤ i → l[i]? = ns[i]?) ∧ Turn (FootNs ns) w wr) (fun _ i _ => n - (intOf i).toNat)
  case atStart => exact ⟨0, k, ns, Nat.zero_le _, rfl, rfl, by unfold Hid wtNs; simp, hR, ⟨HN.out, fun i hi => absurd hi (by omega), fun _ _ => rfl⟩, Turn.refl _ _⟩
  case round =>
    obtain ⟨j, m, l, hj, rfl, rfl, HMM, hO, HL, hT⟩ := hrel
    clear hR
    by_cases hlt : j < n
    · obtain ⟨v, hv⟩ : ∃ v, ns[j]? = some v := ⟨_, List.getElem?_eq_getElem (by have := HN.out; omega)⟩
      have hlj : l[j]? = some v := by rw [HL.out.2.2 j (Nat.le_refl _), hv]
      have HB := hide (HM.out v (List.mem_of_getElem? hv))
      have st := wtNs_step hv
      have le := wtNs_le ns (j + 1)
      have ps := wtNs_pos (ns.take j)
      have p1 := wts_pos v.ss
      have p2 := wts_pos v.ws
      have HV := hide hv
      have HLJ := hide hlj
      have HWT : Hid (wtN v = wts v.ss + wts v.ws) := rfl
      have b1 : 1 ≤ m := by have := HMM.out; omega
      have b2 : m + wts v.ss + wts v.ws ≤ 8388000 := by have := HMM.out; have := HWT.out; omega
      have H2 : Hid (m + wts v.ss + wts v.ws = k + wtNs (ns.take (j + 1))) := by have := HMM.out; have := HWT.out; unfold Hid; omega
      have hA := hO.at' j v hlj
      have HA := hide hA
      have d0 := (hO.blk.at (j * 2)).trans hA.1
      have HO := hide hO
      have RS := hide (hO.store j v hlj)
      have RW := hide (hO.wait j v hlj)
      have HTT := hide hT
      have i1 : (0 : Int) ≤ (j : Int) := by omega
      have i2 : (j : Int) < (n : Int) := by omega
      clear st le ps hv hlj hA hO hT
      go_wp2_with fail
      refine (markSF_any B U v.sa v.sc v.ss m wr RS.out HB.out.2.2.1 HB.out.1 (by omega) (by omega)).mono ?_
      rintro e w1 ⟨rfl, hM1, T1⟩
      have HM1 := hide hM1
      have HT1 := hide T1
      have d1 := ((HO.out.blk.turned T1 (fun hf => HO.out.notG HLJ.out (.inl hf))).at (j * 2 + 1)).trans HA.out.2
      have RW1 := hide (RW.out.turnF T1 (fun g hf hn => HO.out.two j v HLJ.out g hn hf))
      clear d0 hM1 T1
      go_wp2_with fail
      refine (markSF_any B U v.wa v.wc v.ws (m + wts v.ss) w1 RW1.out HB.out.2.2.2 HB.out.2.1 (by omega) (by omega)).mono ?_
      rintro e w2 ⟨rfl, hM2, T2⟩
      have TT : Hid (Turn (FootN v) wr w2) := Turn.trans ⟨HT1.out.os, HT1.out.tape, HT1.out.output, HT1.out.size, fun i hi hn => HT1.out.block i hi (fun e => hn (.inl e))⟩ ⟨T2.os, T2.tape, T2.output, T2.size, fun i hi hn => T2.block i hi (fun e => hn (.inr e))⟩
      have HR9 : Hid (NRow w2 B U G (l.set j (mkN m v)) cur) := HO.out.turn1 HLJ.out (HM1.out.turnF T2 (fun g hf hn => HO.out.two j v HLJ.out g (footS_mk hf) hn)) hM2 TT.out
      have HT9 : Hid (Turn (FootNs ns) w w2) := HTT.out.trans ⟨TT.out.os, TT.out.tape, TT.out.output, TT.out.size, fun i hi hn => TT.out.block i hi (fun e => hn ⟨j, v, HV.out, e⟩)⟩
      have HL9 : Hid ((l.set j (mkN m v)).length = n ∧ (∀ i, i < j + 1 → (l.set j (mkN m v))[i]? = (mkNs k ns)[i]?) ∧ ∀ i, j + 1 ≤ i → (l.set j (mkN m v))[i]? = ns[i]?) := by
        refine ⟨by rw [List.length_set]; exact HL.out.1, fun i hi => ?_, fun i hi => ?_⟩
        · by_cases e : i = j
          · subst e
            rw [List.getElem?_set_self (by have := HL.out.1; omega), mkNs_at, HV.out, ← HMM.out]
            rfl
          · rw [List.getElem?_set_ne (fun e' => e e'.symm)]
            exact HL.out.2.1 i (by omega)
        · rw [List.getElem?_set_ne (by omega)]
          exact HL.out.2.2 i (by omega)
      clear d1 hM2 T2 HL HA
      go_wp2
      exact ⟨⟨j + 1, _, _, by omega, by go_num, rfl, H2, HR9.out, HL9, HT9.out⟩, by simp [intOf]; omega⟩
    · have hjn : j = n := by omega
      subst hjn
      clear hlt
      have hl : l = mkNs k ns := by
        apply List.ext_getElem?
        intro i
        by_cases hi : i < j
        · exact HL.out.2.1 i hi
        · rw [HL.out.2.2 i (by omega), List.getElem?_eq_none (by have := HN.out; omega), List.getElem?_eq_none (by rw [mkNs_len]; have := HN.out; omega)]
      subst hl
      have HO := hide hO
      have HTT := hide hT
      clear hO hT
      go_wp2
      go_ret
      exact ⟨ret_int (by rw [HMM.out, HT.out]), ⟨cur, HO.out⟩, HTT.out⟩

set_option maxRecDepth 100000 in
set_option maxHeartbeats 4000000 in
theorem heldNodeS_any (B U G c : Nat) (ns : List Nd) (cur : Array Value) (k : Int) (w : World) (hR : NRow w B U G (mkNs k ns) cur) (hm : SmallN ns) (hn : ns.length ≤ 1048576) (hk0 : 1 ≤ k) (hk : k + wtNs ns ≤ 8388000) :
    Calls Try.prog 48 #[.slice (some ⟨G, 0, none⟩) ns.length c, .int .i64 k] w fun e w' => e = .returned (.int .i64 (k + wtNs ns)) ∧ Below w.heap.size w w' := by
  have HM := hide hm
  clear hm
  have HT : Hid (wtNs (ns.take ns.length) = wtNs ns) := wtNs_all ns
  generalize hnn : ns.length = n at *
  have HN := hide hnn
  clear hnn
  have HR := hide hR
  clear hR
  go_enter Try.func48, Try.ntmps48
  go_wp2
  go_loopw [1, 5] (fun v i wr => ∃ (j : Nat) (m : Int), j ≤ n ∧ i = .int .i64 (j : Int) ∧ v = .int .i64 m ∧ Hid (m = k + wtNs (ns.take j)) ∧ Hid (Below w.heap.size w wr)) (fun _ i _ => n - (intOf i).toNat)
  case atStart => exact ⟨0, k, Nat.zero_le _, rfl, rfl, by unfold Hid wtNs; simp, Below.refl _ _⟩
  case round =>
    obtain ⟨j, m, hj, rfl, rfl, HMM, hL⟩ := hrel
    have hRw := HR.out.on hL.out
    by_cases hlt : j < n
    · obtain ⟨v, hv⟩ : ∃ v, ns[j]? = some v := ⟨_, List.getElem?_eq_getElem (by have := HN.out; omega)⟩
      have hmj : (mkNs k ns)[j]? = some (mkN m v) := by rw [mkNs_at, hv, HMM.out]; rfl
      have HB := hide (HM.out v (List.mem_of_getElem? hv))
      have st := wtNs_step hv
      have le := wtNs_le ns (j + 1)
      have ps := wtNs_pos (ns.take j)
      have p1 := wts_pos v.ss
      have p2 := wts_pos v.ws
      have HWT : Hid (wtN v = wts v.ss + wts v.ws) := rfl
      have b1 : 1 ≤ m := by have := HMM.out; omega
      have b2 : m + wts v.ss + wts v.ws ≤ 8388000 := by have := HMM.out; have := HWT.out; omega
      have H2 : Hid (m + wts v.ss + wts v.ws = k + wtNs (ns.take (j + 1))) := by have := HMM.out; have := HWT.out; unfold Hid; omega
      obtain ⟨q0, q1⟩ := hRw.at' j _ hmj
      have RS : Hid (ResS wr B U v.sa (mkVs m v.ss)) := hRw.store j _ hmj
      have RW : Hid (ResS wr B U v.wa (mkVs (m + wts v.ss) v.ws)) := hRw.wait j _ hmj
      simp only [mkN, mkVs_len] at q0 q1
      have d0 := (hRw.blk.at (j * 2)).trans q0
      have Q1 := hide q1
      have BK := hide hRw.blk
      have i1 : (0 : Int) ≤ (j : Int) := by omega
      have i2 : (j : Int) < (n : Int) := by omega
      clear st le ps hv hmj q0 q1 hRw
      go_wp2_with fail
      refine (heldSF_any B U v.sa v.sc v.ss m wr RS.out HB.out.2.2.1 HB.out.1 (by omega) (by omega)).mono ?_
      rintro e w1 ⟨rfl, hb1⟩
      have hpos : ¬ (m + wts v.ss < 0) := by omega
      have d1 := ((BK.out.on hb1).at (j * 2 + 1)).trans Q1.out
      have HB1 := hide hb1
      clear d0 hb1
      go_wp2_with fail
      refine (heldSF_any B U v.wa v.wc v.ws (m + wts v.ss) w1 (RW.out.on HB1.out) HB.out.2.2.2 HB.out.2.1 (by omega) (by omega)).mono ?_
      rintro e w2 ⟨rfl, hb2⟩
      have hpos2 : ¬ (m + wts v.ss + wts v.ws < 0) := by omega
      have HB2 : Hid (Below w.heap.size w w2) := hL.out.trans ((HB1.out.trans (hb2.mono HB1.out.size)).mono hL.out.size)
      clear d1 hb2
      go_wp2
      exact ⟨⟨j + 1, _, by omega, by go_num, rfl, H2, HB2⟩, by simp [intOf]; omega⟩
    · have hjn : j = n := by omega
      subst hjn
      clear hlt hRw
      go_wp2
      go_ret
      exact ⟨ret_int (by rw [HMM.out, HT.out]), hL.out⟩
end Go.Proofs.Ytpkoidbenojkmaa
