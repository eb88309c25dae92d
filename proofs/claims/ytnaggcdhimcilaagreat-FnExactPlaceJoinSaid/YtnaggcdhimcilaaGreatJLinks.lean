/- Rows of nodes in memory of their own: each node two rows of versions; how they are compared, marked, and the marks found again. Condition: what is said of each. -/
import Derived.Test.YtnaggcdhimcilaaGreatJStoreRes
import Derived.Test.YtnaggcdhimcilaaGreatJVerOk0
namespace Go.Proofs.YtnaggcdhimcilaaGreat
open Go.RowKit Go.Joins
attribute [local go_sem ↓] Go.wp_at_zero Go.wp_at_succ

/-- The blocks of a slice of versions. -/
def FootS (A : Option Addr) (us : List V) (g : Nat) : Prop := us ≠ [] ∧ ∃ G, A = some ⟨G, 0, none⟩ ∧ Foot G us g
theorem ORow.turnF {P : Nat → Prop} {w w' : World} {B U G : Nat} {vs : List V} {cur : Array Value} (h : ORow w B U G vs cur) (ht : Turn P w w') (hp : ∀ g, Foot G vs g → ¬ P g) : ORow w' B U G vs cur :=
  ⟨h.blk.turned ht (hp G (.inl rfl)), h.lo, h.hi, h.size, h.at', fun i v hi => (h.own i v hi).turned ht (fun g hg _ _ hne => hp g (.inr ⟨i, v, hi, hne, hg⟩)), h.apart⟩
theorem ResS.turnF {P : Nat → Prop} {w w' : World} {B U : Nat} {A : Option Addr} {us : List V} (h : ResS w B U A us) (ht : Turn P w w') (hp : ∀ g, FootS A us g → ¬ P g) : ResS w' B U A us := by
  by_cases h0 : us = []
  · exact .inl h0
  · rcases h with h | ⟨G, cur, rfl, hO⟩
    · exact .inl h
    · exact .inr ⟨G, cur, rfl, hO.turnF ht (fun g hg => hp g ⟨h0, G, rfl, hg⟩)⟩
theorem foot_mk {G : Nat} {k : Int} {us : List V} {g : Nat} (h : Foot G (mkVs k us) g) : Foot G us g := by
  rcases h with h | ⟨i, v, hi, hn, ha⟩
  · exact .inl h
  · rw [mkVs_at] at hi
    cases hx : us[i]? with
    | none => rw [hx] at hi; cases hi
    | some x =>
      rw [hx] at hi
      simp only [Option.map_some] at hi
      injection hi with hi
      subst hi
      refine .inr ⟨i, x, hx, fun h0 => hn ?_, ha⟩
      show marksL _ _ = []
      rw [h0]
      rfl
theorem footS_mk {A : Option Addr} {k : Int} {us : List V} {g : Nat} (h : FootS A (mkVs k us) g) : FootS A us g := by
  obtain ⟨h0, G, ha, hf⟩ := h
  exact ⟨fun e => h0 (by rw [e]; rfl), G, ha, foot_mk hf⟩
set_option maxHeartbeats 1000000 in
theorem markVerS_nil (A : Option Addr) (c : Nat) (k : Int) (W : World) :
    Calls Tryz.prog 37 #[.slice A 0 c, .int .i64 k] W fun e w' => e = .returned (.int .i64 k) ∧ W = w' := by
  go_enter Tryz.func37, Tryz.ntmps37
  go_wp2
  go_loop [1, 5] (fun v i => v = .int .i64 k ∧ i = .int .i64 0) (fun _ _ => 0)
  case atStart => exact ⟨rfl, rfl⟩
  case round =>
    obtain ⟨rfl, rfl⟩ := hrel
    go_wp2
    go_ret
    exact ⟨rfl, rfl⟩
set_option maxHeartbeats 1000000 in
theorem heldVerS_nil (A : Option Addr) (c : Nat) (k : Int) (W : World) :
    Calls Tryz.prog 40 #[.slice A 0 c, .int .i64 k] W fun e w' => e = .returned (.int .i64 k) ∧ W = w' := by
  go_enter Tryz.func40, Tryz.ntmps40
  go_wp2
  go_loop [1, 5] (fun v i => v = .int .i64 k ∧ i = .int .i64 0) (fun _ _ => 0)
  case atStart => exact ⟨rfl, rfl⟩
  case round =>
    obtain ⟨rfl, rfl⟩ := hrel
    go_wp2
    go_ret
    exact ⟨rfl, rfl⟩
/-- What marking a slice of versions leaves: only its own blocks have turned. -/
def MarkedSF (w : World) (B U : Nat) (A : Option Addr) (us : List V) (k : Int) (e : Ending) (w' : World) : Prop :=
  e = .returned (.int .i64 (k + wts us)) ∧ ResS w' B U A (mkVs k us) ∧ Turn (FootS A us) w w'
theorem markSF_any (B U : Nat) (A : Option Addr) (c : Nat) (us : List V) (k : Int) (w : World) (hR : ResS w B U A us) (hm : ∀ v ∈ us, v.ts.length ≤ 1048576) (hn : us.length ≤ 1048576) (hk0 : 1 ≤ k) (hk : k + wts us ≤ 8388000) :
    Calls Tryz.prog 37 #[.slice A us.length c, .int .i64 k] w (MarkedSF w B U A us k) := by
  by_cases h0 : us = []
  · subst h0
    exact (markVerS_nil A c k w).mono fun e w' ⟨he, hw⟩ => ⟨by rw [he]; simp [wts], .inl rfl, by rw [← hw]; exact Turn.refl _ _⟩
  · rcases hR with h | ⟨G, cur, rfl, hO⟩
    · exact absurd h h0
    · exact (markVerS_foot B U G c us cur k w hO hm hn hk0 hk).mono fun e w' ⟨he, ⟨cur', h1⟩, h2⟩ => ⟨he, .inr ⟨G, cur', rfl, h1⟩, ⟨h2.os, h2.tape, h2.output, h2.size, fun i hi hn => h2.block i hi (fun hf => hn ⟨h0, G, rfl, hf⟩)⟩⟩
theorem heldSF_any (B U : Nat) (A : Option Addr) (c : Nat) (us : List V) (k : Int) (w : World) (hR : ResS w B U A (mkVs k us)) (hm : ∀ v ∈ us, v.ts.length ≤ 1048576) (hn : us.length ≤ 1048576) (hk0 : 1 ≤ k) (hk : k + wts us ≤ 8388000) :
    Calls Tryz.prog 40 #[.slice A us.length c, .int .i64 k] w fun e w' => e = .returned (.int .i64 (k + wts us)) ∧ Below w.heap.size w w' := by
  by_cases h0 : us = []
  · subst h0
    exact (heldVerS_nil A c k w).mono fun e w' ⟨he, hw⟩ => ⟨by rw [he]; simp [wts], by rw [← hw]; exact Below.refl _ _⟩
  · rcases hR with h | ⟨G, cur, rfl, hO⟩
    · have := mkVs_len k us
      rw [h] at this
      exact absurd (List.length_eq_zero_iff.1 this.symm) h0
    · exact heldVerS_any B U G c us cur k w hO hm hn hk0 hk

/-- A node as it lies in memory: its store, and what waits. -/
structure Nd where
  sa : Option Addr
  sc : Nat
  ss : List V
  wa : Option Addr
  wc : Nat
  ws : List V
/-- The two cells of the node at place i of a row of cells. -/
def NdAt (cur : Array Value) (i : Nat) (n : Nd) : Prop := cur[i * 2]? = some (.slice n.sa n.ss.length n.sc) ∧ cur[i * 2 + 1]? = some (.slice n.wa n.ws.length n.wc)
/-- Two nodes say the same. -/
def Nd.like (n n' : Nd) : Prop := n.ss.length = n'.ss.length ∧ Like n.ss n'.ss ∧ n.ws.length = n'.ws.length ∧ Like n.ws n'.ws
def FootN (n : Nd) (g : Nat) : Prop := FootS n.sa n.ss g ∨ FootS n.wa n.ws g
/-- A row of nodes in a block of its own, the rows of each node in others. -/
structure NRow (w : World) (B U G : Nat) (ns : List Nd) (cur : Array Value) : Prop where
  blk : Blk w G 90 cur
  lo : B ≤ G
  hi : G < U
  size : ns.length * 2 ≤ cur.size
  at' : ∀ (i : Nat) n, ns[i]? = some n → NdAt cur i n
  store : ∀ (i : Nat) n, ns[i]? = some n → ResS w B U n.sa n.ss
  wait : ∀ (i : Nat) n, ns[i]? = some n → ResS w B U n.wa n.ws
  two : ∀ (i : Nat) n, ns[i]? = some n → ∀ g, FootS n.sa n.ss g → ¬ FootS n.wa n.ws g
  apart : ∀ (i j : Nat) n n', i ≠ j → ns[i]? = some n → ns[j]? = some n' → ∀ g, FootN n g → ¬ FootN n' g
theorem node_ne_ver : (90 : TypeId) ≠ 96 := by decide
theorem node_ne_tag : (90 : TypeId) ≠ 91 := by decide
theorem ResS.typed {w : World} {B U : Nat} {A : Option Addr} {us : List V} (h : ResS w B U A us) {g : Nat} (hg : FootS A us g) : ∃ T cs, Blk w g T cs ∧ T ≠ 90 ∧ B ≤ g ∧ g < U := by
  obtain ⟨h0, G, rfl, hf⟩ := hg
  rcases h with h | ⟨G', cur, e, hO⟩
  · exact absurd h h0
  · injection e with e
    injection e with e
    subst e
    have hr := hO.foot hf
    rcases hf with rfl | ⟨i, v, hi, hn, ha⟩
    · exact ⟨_, _, hO.blk, (fun e => node_ne_ver e.symm), hr⟩
    · rcases hO.own i v hi with q | ⟨g', c', e1, q1, q2, q3, _⟩
      · exact absurd q hn
      · rw [e1] at ha
        injection ha with ha
        injection ha with ha
        subst ha
        exact ⟨_, _, q3, (fun e => node_ne_tag e.symm), hr⟩
/-- How many marks nodes bear. -/
def wtN (n : Nd) : Int := wts n.ss + wts n.ws
def wtNs (ns : List Nd) : Int := (ns.map wtN).sum
def mkN (k : Int) (n : Nd) : Nd := ⟨n.sa, n.sc, mkVs k n.ss, n.wa, n.wc, mkVs (k + wts n.ss) n.ws⟩
def mkNs : Int → List Nd → List Nd
  | _, [] => []
  | k, n :: r => mkN k n :: mkNs (k + wtN n) r
theorem mkNs_len (k : Int) (ns : List Nd) : (mkNs k ns).length = ns.length := by
  induction ns generalizing k with
  | nil => rfl
  | cons v r ih => simp [mkNs, ih]
theorem wtNs_step {ns : List Nd} {j : Nat} {n : Nd} (h : ns[j]? = some n) : wtNs (ns.take (j + 1)) = wtNs (ns.take j) + wtN n := by
  unfold wtNs
  rw [List.take_add_one, h]
  simp
theorem wtN_pos (n : Nd) : 0 ≤ wtN n := by have := wts_pos n.ss; have := wts_pos n.ws; unfold wtN; omega
theorem wtNs_pos (ns : List Nd) : 0 ≤ wtNs ns := by
  induction ns with
  | nil => simp [wtNs]
  | cons v r ih => have := wtN_pos v; unfold wtNs at *; simp; omega
theorem wtNs_le (ns : List Nd) (j : Nat) : wtNs (ns.take j) ≤ wtNs ns := by
  have e : wtNs ns = wtNs (ns.take j) + wtNs (ns.drop j) := by
    unfold wtNs
    rw [← List.sum_append, ← List.map_append, List.take_append_drop]
  have := wtNs_pos (ns.drop j)
  omega
theorem mkNs_at (k : Int) (ns : List Nd) (j : Nat) : (mkNs k ns)[j]? = (ns[j]?).map (mkN (k + wtNs (ns.take j))) := by
  induction ns generalizing k j with
  | nil => simp [mkNs]
  | cons v r ih =>
    cases j with
    | zero => simp [mkNs, wtNs]
    | succ j =>
      simp only [mkNs, List.getElem?_cons_succ, ih, List.take_succ_cons]
      congr 1
      funext x
      unfold wtNs
      simp [Int.add_assoc]
end Go.Proofs.YtnaggcdhimcilaaGreat
/- How rows of nodes and chains are marked, and the marks found again. Condition: what is said of each. -/
namespace Go.Proofs.YtnaggcdhimcilaaGreat
open Go.RowKit Go.Joins
attribute [local go_sem ↓] Go.wp_at_zero Go.wp_at_succ

theorem wtNs_all (ns : List Nd) : wtNs (ns.take ns.length) = wtNs ns := by rw [List.take_length]
theorem NRow.notG {w : World} {B U G : Nat} {ns : List Nd} {cur : Array Value} (h : NRow w B U G ns cur) {i : Nat} {n : Nd} (hi : ns[i]? = some n) : ¬ FootN n G := by
  intro hf
  rcases hf with hf | hf
  · obtain ⟨T, cs, hb, hT, _⟩ := (h.store i n hi).typed hf
    exact hT (blk_one hb h.blk)
  · obtain ⟨T, cs, hb, hT, _⟩ := (h.wait i n hi).typed hf
    exact hT (blk_one hb h.blk)
theorem NRow.turned {P : Nat → Prop} {w w' : World} {B U G : Nat} {ns : List Nd} {cur : Array Value} (h : NRow w B U G ns cur) (ht : Turn P w w') (hg : ¬ P G) (hp : ∀ (i : Nat) n, ns[i]? = some n → ∀ g, FootN n g → ¬ P g) : NRow w' B U G ns cur :=
  ⟨h.blk.turned ht hg, h.lo, h.hi, h.size, h.at', fun i n hi => (h.store i n hi).turnF ht (fun g hf => hp i n hi g (.inl hf)), fun i n hi => (h.wait i n hi).turnF ht (fun g hf => hp i n hi g (.inr hf)), h.two, h.apart⟩
theorem NRow.on {w w' : World} {B U G : Nat} {ns : List Nd} {cur : Array Value} (h : NRow w B U G ns cur) (hb : Below w.heap.size w w') : NRow w' B U G ns cur := h.turned (P := fun _ => False) (.below hb) (fun h => h) (fun _ _ _ _ _ h => h)
theorem footN_mk {k : Int} {n : Nd} {g : Nat} (h : FootN (mkN k n) g) : FootN n g := by
  rcases h with h | h
  · exact .inl (footS_mk h)
  · exact .inr (footS_mk h)
/-- One node of a row is marked. -/
theorem NRow.turn1 {w w' : World} {B U G j : Nat} {l : List Nd} {cur : Array Value} {n : Nd} {k : Int} (h : NRow w B U G l cur) (hj : l[j]? = some n)
    (hs : ResS w' B U n.sa (mkVs k n.ss)) (hw : ResS w' B U n.wa (mkVs (k + wts n.ss) n.ws)) (ht : Turn (FootN n) w w') : NRow w' B U G (l.set j (mkN k n)) cur := by
  have hjl := (List.getElem?_eq_some_iff.1 hj).1
  have key : ∀ (i : Nat) x, (l.set j (mkN k n))[i]? = some x → (i = j ∧ x = mkN k n) ∨ (i ≠ j ∧ l[i]? = some x) := by
    intro i x hx
    by_cases e : i = j
    · subst e
      rw [List.getElem?_set_self hjl] at hx
      injection hx with hx
      exact .inl ⟨rfl, hx.symm⟩
    · rw [List.getElem?_set_ne (fun e' => e e'.symm)] at hx
      exact .inr ⟨e, hx⟩
  have old : ∀ (i : Nat) x, (l.set j (mkN k n))[i]? = some x → ∃ y, l[i]? = some y ∧ ∀ g, FootN x g → FootN y g := by
    intro i x hx
    rcases key i x hx with ⟨rfl, rfl⟩ | ⟨_, hy⟩
    · exact ⟨n, hj, fun g => footN_mk⟩
    · exact ⟨x, hy, fun g hg => hg⟩
  refine ⟨h.blk.turned ht (h.notG hj), h.lo, h.hi, by rw [List.length_set]; exact h.size, ?_, ?_, ?_, ?_, ?_⟩
  · intro i x hx
    rcases key i x hx with ⟨rfl, rfl⟩ | ⟨_, hy⟩
    · have := h.at' i n hj
      refine ⟨?_, ?_⟩
      · rw [this.1]; simp [mkN, mkVs_len]
      · rw [this.2]; simp [mkN, mkVs_len]
    · exact h.at' i x hy
  · intro i x hx
    rcases key i x hx with ⟨rfl, rfl⟩ | ⟨hne, hy⟩
    · exact hs
    · exact (h.store i x hy).turnF ht (fun g hf hn => h.apart j i n x (fun e => hne e.symm) hj hy g hn (.inl hf))
  · intro i x hx
    rcases key i x hx with ⟨rfl, rfl⟩ | ⟨hne, hy⟩
    · exact hw
    · exact (h.wait i x hy).turnF ht (fun g hf hn => h.apart j i n x (fun e => hne e.symm) hj hy g hn (.inr hf))
  · intro i x hx g h1 h2
    rcases key i x hx with ⟨rfl, rfl⟩ | ⟨hne, hy⟩
    · exact h.two i n hj g (footS_mk h1) (footS_mk h2)
    · exact h.two i x hy g h1 h2
  · intro i i' x x' hne hx hx' g h1 h2
    obtain ⟨y, hy, e⟩ := old i x hx
    obtain ⟨y', hy', e'⟩ := old i' x' hx'
    exact h.apart i i' y y' hne hy hy' g (e g h1) (e' g h2)

/-- The blocks of a row of nodes. -/
def FootNs (ns : List Nd) (g : Nat) : Prop := ∃ (i : Nat) (n : Nd), ns[i]? = some n ∧ FootN n g
/-- Nodes of few versions. -/
def SmallN (ns : List Nd) : Prop := ∀ n ∈ ns, n.ss.length ≤ 1048576 ∧ n.ws.length ≤ 1048576 ∧ (∀ v ∈ n.ss, v.ts.length ≤ 1048576) ∧ ∀ v ∈ n.ws, v.ts.length ≤ 1048576
def MarkedNF (w : World) (B U G : Nat) (ns : List Nd) (k : Int) (e : Ending) (w' : World) : Prop :=
  e = .returned (.int .i64 (k + wtNs ns)) ∧ (∃ cur, NRow w' B U G (mkNs k ns) cur) ∧ Turn (FootNs ns) w w'

set_option maxRecDepth 100000 in
set_option maxHeartbeats 4000000 in
theorem markNodeS_foot (B U G c : Nat) (ns : List Nd) (cur : Array Value) (k : Int) (w : World) (hR : NRow w B U G ns cur) (hm : SmallN ns) (hn : ns.length ≤ 1048576) (hk0 : 1 ≤ k) (hk : k + wtNs ns ≤ 8388000) :
    Calls Tryz.prog 80 #[.slice (some ⟨G, 0, none⟩) ns.length c, .int .i64 k] w (MarkedNF w B U G ns k) := by
  have HM := hide hm
  clear hm
  have HT : Hid (wtNs (ns.take ns.length) = wtNs ns) := wtNs_all ns
  generalize hnn : ns.length = n at *
  have HN := hide hnn
  clear hnn
  go_enter Tryz.func80, Tryz.ntmps80
  go_wp2
  go_loopw [1, 5] (fun v i wr => ∃ (j : Nat) (m : Int) (l : List Nd), j ≤ n ∧ i = .int .i64 (j : Int) ∧ v = .int .i64 m ∧ Hid (m = k + wtNs (ns.take j)) ∧ NRow wr B U G l cur ∧ Hid (l.length = n ∧ (∀ i, i < j → l[i]? = (mkNs k ns)[i]?) ∧ ∀ i, j ≤ i → l[i]? = ns[i]?) ∧ Turn (FootNs ns) w wr) (fun _ i _ => n - (intOf i).toNat)
  case atStart => exact ⟨0, k, ns, Nat.zero_le _, rfl, rfl, by unfold Hid wtNs; simp, hR, ⟨HN.out, fun i hi => absurd hi (by omega), fun _ _ => rfl⟩, Turn.refl _ _⟩
  case round =>
    obtain ⟨j, m, l, hj, rfl, rfl, HMM, hO, HL, hT⟩ := hrel
    clear hR
    by_cases hlt : j < n
    · obtain ⟨v, hv⟩ : ∃ v, ns[j]? = some v := ⟨_, List.getElem?_eq_getElem (by have := HN.out; omega)⟩
      have hlj : l[j]? = some v := by rw [HL.out.2.2 j (Nat.le_refl _), hv]
      have HB := hide (HM.out v (List.mem_of_getElem? hv))
      have st := wtNs_step hv
      have le := wtNs_le ns (j + 1)
      have ps := wtNs_pos (ns.take j)
      have p1 := wts_pos v.ss
      have p2 := wts_pos v.ws
      have HV := hide hv
      have HLJ := hide hlj
      have HWT : Hid (wtN v = wts v.ss + wts v.ws) := rfl
      have b1 : 1 ≤ m := by have := HMM.out; omega
      have b2 : m + wts v.ss + wts v.ws ≤ 8388000 := by have := HMM.out; have := HWT.out; omega
      have H2 : Hid (m + wts v.ss + wts v.ws = k + wtNs (ns.take (j + 1))) := by have := HMM.out; have := HWT.out; unfold Hid; omega
      have hA := hO.at' j v hlj
      have HA := hide hA
      have d0 := (hO.blk.at (j * 2)).trans hA.1
      have HO := hide hO
      have RS := hide (hO.store j v hlj)
      have RW := hide (hO.wait j v hlj)
      have HTT := hide hT
      have i1 : (0 : Int) ≤ (j : Int) := by omega
      have i2 : (j : Int) < (n : Int) := by omega
      clear st le ps hv hlj hA hO hT
      go_wp2_with fail
      refine (markSF_any B U v.sa v.sc v.ss m wr RS.out HB.out.2.2.1 HB.out.1 (by omega) (by omega)).mono ?_
      rintro e w1 ⟨rfl, hM1, T1⟩
      have HM1 := hide hM1
      have HT1 := hide T1
      have d1 := ((HO.out.blk.turned T1 (fun hf => HO.out.notG HLJ.out (.inl hf))).at (j * 2 + 1)).trans HA.out.2
      have RW1 := hide (RW.out.turnF T1 (fun g hf hn => HO.out.two j v HLJ.out g hn hf))
      clear d0 hM1 T1
      go_wp2_with fail
      refine (markSF_any B U v.wa v.wc v.ws (m + wts v.ss) w1 RW1.out HB.out.2.2.2 HB.out.2.1 (by omega) (by omega)).mono ?_
      rintro e w2 ⟨rfl, hM2, T2⟩
      have TT : Hid (Turn (FootN v) wr w2) := Turn.trans ⟨HT1.out.os, HT1.out.tape, HT1.out.output, HT1.out.size, fun i hi hn => HT1.out.block i hi (fun e => hn (.inl e))⟩ ⟨T2.os, T2.tape, T2.output, T2.size, fun i hi hn => T2.block i hi (fun e => hn (.inr e))⟩
      have HR9 : Hid (NRow w2 B U G (l.set j (mkN m v)) cur) := HO.out.turn1 HLJ.out (HM1.out.turnF T2 (fun g hf hn => HO.out.two j v HLJ.out g (footS_mk hf) hn)) hM2 TT.out
      have HT9 : Hid (Turn (FootNs ns) w w2) := HTT.out.trans ⟨TT.out.os, TT.out.tape, TT.out.output, TT.out.size, fun i hi hn => TT.out.block i hi (fun e => hn ⟨j, v, HV.out, e⟩)⟩
      have HL9 : Hid ((l.set j (mkN m v)).length = n ∧ (∀ i, i < j + 1 → (l.set j (mkN m v))[i]? = (mkNs k ns)[i]?) ∧ ∀ i, j + 1 ≤ i → (l.set j (mkN m v))[i]? = ns[i]?) := by
        refine ⟨by rw [List.length_set]; exact HL.out.1, fun i hi => ?_, fun i hi => ?_⟩
        · by_cases e : i = j
          · subst e
            rw [List.getElem?_set_self (by have := HL.out.1; omega), mkNs_at, HV.out, ← HMM.out]
            rfl
          · rw [List.getElem?_set_ne (fun e' => e e'.symm)]
            exact HL.out.2.1 i (by omega)
        · rw [List.getElem?_set_ne (by omega)]
          exact HL.out.2.2 i (by omega)
      clear d1 hM2 T2 HL HA
      go_wp2
      exact ⟨⟨j + 1, _, _, by omega, by go_num, rfl, H2, HR9.out, HL9, HT9.out⟩, by simp [intOf]; omega⟩
    · have hjn : j = n := by omega
      subst hjn
      clear hlt
      have hl : l = mkNs k ns := by
        apply List.ext_getElem?
        intro i
        by_cases hi : i < j
        · exact HL.out.2.1 i hi
        · rw [HL.out.2.2 i (by omega), List.getElem?_eq_none (by have := HN.out; omega), List.getElem?_eq_none (by rw [mkNs_len]; have := HN.out; omega)]
      subst hl
      have HO := hide hO
      have HTT := hide hT
      clear hO hT
      go_wp2
      go_ret
      exact ⟨ret_int (by rw [HMM.out, HT.out]), ⟨cur, HO.out⟩, HTT.out⟩

set_option maxRecDepth 100000 in
set_option maxHeartbeats 4000000 in
theorem heldNodeS_any (B U G c : Nat) (ns : List Nd) (cur : Array Value) (k : Int) (w : World) (hR : NRow w B U G (mkNs k ns) cur) (hm : SmallN ns) (hn : ns.length ≤ 1048576) (hk0 : 1 ≤ k) (hk : k + wtNs ns ≤ 8388000) :
    Calls Tryz.prog 83 #[.slice (some ⟨G, 0, none⟩) ns.length c, .int .i64 k] w fun e w' => e = .returned (.int .i64 (k + wtNs ns)) ∧ Below w.heap.size w w' := by
  have HM := hide hm
  clear hm
  have HT : Hid (wtNs (ns.take ns.length) = wtNs ns) := wtNs_all ns
  generalize hnn : ns.length = n at *
  have HN := hide hnn
  clear hnn
  have HR := hide hR
  clear hR
  go_enter Tryz.func83, Tryz.ntmps83
  go_wp2
  go_loopw [1, 5] (fun v i wr => ∃ (j : Nat) (m : Int), j ≤ n ∧ i = .int .i64 (j : Int) ∧ v = .int .i64 m ∧ Hid (m = k + wtNs (ns.take j)) ∧ Hid (Below w.heap.size w wr)) (fun _ i _ => n - (intOf i).toNat)
  case atStart => exact ⟨0, k, Nat.zero_le _, rfl, rfl, by unfold Hid wtNs; simp, Below.refl _ _⟩
  case round =>
    obtain ⟨j, m, hj, rfl, rfl, HMM, hL⟩ := hrel
    have hRw := HR.out.on hL.out
    by_cases hlt : j < n
    · obtain ⟨v, hv⟩ : ∃ v, ns[j]? = some v := ⟨_, List.getElem?_eq_getElem (by have := HN.out; omega)⟩
      have hmj : (mkNs k ns)[j]? = some (mkN m v) := by rw [mkNs_at, hv, HMM.out]; rfl
      have HB := hide (HM.out v (List.mem_of_getElem? hv))
      have st := wtNs_step hv
      have le := wtNs_le ns (j + 1)
      have ps := wtNs_pos (ns.take j)
      have p1 := wts_pos v.ss
      have p2 := wts_pos v.ws
      have HWT : Hid (wtN v = wts v.ss + wts v.ws) := rfl
      have b1 : 1 ≤ m := by have := HMM.out; omega
      have b2 : m + wts v.ss + wts v.ws ≤ 8388000 := by have := HMM.out; have := HWT.out; omega
      have H2 : Hid (m + wts v.ss + wts v.ws = k + wtNs (ns.take (j + 1))) := by have := HMM.out; have := HWT.out; unfold Hid; omega
      obtain ⟨q0, q1⟩ := hRw.at' j _ hmj
      have RS : Hid (ResS wr B U v.sa (mkVs m v.ss)) := hRw.store j _ hmj
      have RW : Hid (ResS wr B U v.wa (mkVs (m + wts v.ss) v.ws)) := hRw.wait j _ hmj
      simp only [mkN, mkVs_len] at q0 q1
      have d0 := (hRw.blk.at (j * 2)).trans q0
      have Q1 := hide q1
      have BK := hide hRw.blk
      have i1 : (0 : Int) ≤ (j : Int) := by omega
      have i2 : (j : Int) < (n : Int) := by omega
      clear st le ps hv hmj q0 q1 hRw
      go_wp2_with fail
      refine (heldSF_any B U v.sa v.sc v.ss m wr RS.out HB.out.2.2.1 HB.out.1 (by omega) (by omega)).mono ?_
      rintro e w1 ⟨rfl, hb1⟩
      have hpos : ¬ (m + wts v.ss < 0) := by omega
      have d1 := ((BK.out.on hb1).at (j * 2 + 1)).trans Q1.out
      have HB1 := hide hb1
      clear d0 hb1
      go_wp2_with fail
      refine (heldSF_any B U v.wa v.wc v.ws (m + wts v.ss) w1 (RW.out.on HB1.out) HB.out.2.2.2 HB.out.2.1 (by omega) (by omega)).mono ?_
      rintro e w2 ⟨rfl, hb2⟩
      have hpos2 : ¬ (m + wts v.ss + wts v.ws < 0) := by omega
      have HB2 : Hid (Below w.heap.size w w2) := hL.out.trans ((HB1.out.trans (hb2.mono HB1.out.size)).mono hL.out.size)
      clear d1 hb2
      go_wp2
      exact ⟨⟨j + 1, _, by omega, by go_num, rfl, H2, HB2⟩, by simp [intOf]; omega⟩
    · have hjn : j = n := by omega
      subst hjn
      clear hlt hRw
      go_wp2
      go_ret
      exact ⟨ret_int (by rw [HMM.out, HT.out]), hL.out⟩
end Go.Proofs.YtnaggcdhimcilaaGreat
/- Whether two nodes, two rows of nodes, two chains are the same; marks on chains. Condition: what is said of each. -/
namespace Go.Proofs.YtnaggcdhimcilaaGreat
open Go.RowKit Go.Joins
attribute [local go_sem ↓] Go.wp_at_zero Go.wp_at_succ

set_option maxHeartbeats 2000000 in
theorem eqNode_same (a a' b b' : Option Addr) (c c' d d' p q : Nat) (vs us vs' us' : List V) (w : World) (hp : p ≤ 1048576) (hq : q ≤ 1048576) (h1 : vs.length = p) (h2 : us.length = p) (h3 : vs'.length = q) (h4 : us'.length = q)
    (hl : Like vs us) (hl' : Like vs' us') (hm : ∀ v ∈ vs, v.ts.length ≤ 1048576) (hm' : ∀ v ∈ vs', v.ts.length ≤ 1048576) (hv : Vg w w.heap.size a vs) (hu : Vg w w.heap.size a' us) (hv' : Vg w w.heap.size b vs') (hu' : Vg w w.heap.size b' us') :
    Calls Tryz.prog 115 #[.agg #[.slice a p c, .slice b q d], .agg #[.slice a' p c', .slice b' q d']] w fun e w' => e = .returned (.bool true) ∧ Below w.heap.size w w' := by
  have HM := hide hm
  have HM' := hide hm'
  have HL := hide hl
  have HL' := hide hl'
  have E1 := hide h1
  have E2 := hide h2
  have E3 := hide h3
  have E4 := hide h4
  have HV := hide hv
  have HU := hide hu
  have HV' := hide hv'
  have HU' := hide hu'
  clear hm hm' hl hl' h1 h2 h3 h4 hv hu hv' hu'
  have S0 := ((Inv.start w).box 90 #[.slice a p c, .slice b q d]).box 90 #[.slice a' p c', .slice b' q d']
  simp only [World.size_alloc] at S0
  go_enter Tryz.func115, Tryz.ntmps115
  go_wp2_with fail
  refine (eqStore_same a a' c c' p vs us _ hp E1.out E2.out HL.out HM.out ((HV.out.on S0.below).up S0.base) ((HU.out.on S0.below).up S0.base)).mono ?_
  rintro e w1 ⟨rfl, hb1⟩
  have S1 := S0.on hb1
  have q0 := (S1.nth 0 rfl).two
  have q1 := (S1.nth 1 rfl).two
  clear S0
  go_wp2_with fail
  refine (eqVerS_same b b' d d' q vs' us' _ hq E3.out E4.out HL'.out HM'.out ((HV'.out.on S1.below).up S1.base) ((HU'.out.on S1.below).up S1.base)).mono ?_
  rintro e w2 ⟨rfl, hb2⟩
  have S2 := S1.on hb2
  clear S1 q0 q1
  go_wp2
  go_ret
  exact ⟨rfl, S2.below⟩
set_option maxRecDepth 100000 in
set_option maxHeartbeats 4000000 in
theorem eqNodeS_same (B U G c B' U' G' c' n : Nat) (ns us : List Nd) (cur cur' : Array Value) (w : World) (hn : n ≤ 1048576) (hvn : ns.length = n) (hun : us.length = n)
    (hlike : ∀ (i : Nat) v v', ns[i]? = some v → us[i]? = some v' → Nd.like v v') (hm : SmallN ns) (hv : NRow w B U G ns cur) (hu : NRow w B' U' G' us cur') :
    Calls Tryz.prog 78 #[.slice (some ⟨G, 0, none⟩) n c, .slice (some ⟨G', 0, none⟩) n c'] w fun e w' => e = .returned (.bool true) ∧ Below w.heap.size w w' := by
  have HN := hide hvn
  have HU := hide hun
  have HK := hide hlike
  have HM := hide hm
  have HV := hide hv
  have HW := hide hu
  clear hvn hun hlike hm hv hu
  go_enter Tryz.func78, Tryz.ntmps78
  go_wp2
  go_loopw [5] (fun i wr => ∃ k : Nat, k ≤ n ∧ i = .int .i64 (k : Int) ∧ Hid (Below w.heap.size w wr)) (fun i _ => n - (intOf i).toNat)
  case atStart => exact ⟨0, Nat.zero_le _, rfl, Below.refl _ _⟩
  case round =>
    obtain ⟨k, hk, rfl, hL⟩ := hrel
    by_cases hlt : k < n
    · obtain ⟨v, hv⟩ : ∃ v, ns[k]? = some v := ⟨_, List.getElem?_eq_getElem (by have := HN.out; omega)⟩
      obtain ⟨u, hu⟩ : ∃ u, us[k]? = some u := ⟨_, List.getElem?_eq_getElem (by have := HU.out; omega)⟩
      have HB := hide (HM.out v (List.mem_of_getElem? hv))
      obtain ⟨e1, e2, e3, e4⟩ := HK.out k v u hv hu
      have E1 := hide e1
      have E2 := hide e2
      have E3 := hide e3
      have E4 := hide e4
      have A1 := HV.out.at' k v hv
      have A2 := HW.out.at' k u hu
      rw [NdAt, ← e1, ← e3] at A2
      have Q1 := hide A1
      have Q2 := hide A2
      have R1 := hide (HV.out.store k v hv)
      have R2 := hide (HV.out.wait k v hv)
      have R3 := hide (HW.out.store k u hu)
      have R4 := hide (HW.out.wait k u hu)
      clear A1 A2 hv hu e1 e2 e3 e4
      have i1 : (0 : Int) ≤ (k : Int) := by omega
      have i2 : (k : Int) < (n : Int) := by omega
      have jh : ∀ w', Below w.heap.size w w' → w'.cell? ⟨G, k * 2, none⟩ = some (.slice v.sa v.ss.length v.sc) ∧ w'.cell? ⟨G, k * 2 + 1, none⟩ = some (.slice v.wa v.ws.length v.wc) ∧ w'.cell? ⟨G', k * 2, none⟩ = some (.slice u.sa v.ss.length u.sc) ∧ w'.cell? ⟨G', k * 2 + 1, none⟩ = some (.slice u.wa v.ws.length u.wc) ∧ Below w.heap.size w w' := fun w' hb =>
        ⟨((HV.out.blk.on hb).at _).trans Q1.out.1, ((HV.out.blk.on hb).at _).trans Q1.out.2, ((HW.out.blk.on hb).at _).trans Q2.out.1, ((HW.out.blk.on hb).at _).trans Q2.out.2, hb⟩
      go_wp2_with fail
      refine wp_region_noPanic ?_
      refine wp_region_held_drew (S := (fun w' => w'.cell? ⟨G, k * 2, none⟩ = some (.slice v.sa v.ss.length v.sc) ∧ w'.cell? ⟨G, k * 2 + 1, none⟩ = some (.slice v.wa v.ws.length v.wc) ∧ w'.cell? ⟨G', k * 2, none⟩ = some (.slice u.sa v.ss.length u.sc) ∧ w'.cell? ⟨G', k * 2 + 1, none⟩ = some (.slice u.wa v.ws.length u.wc) ∧ Below w.heap.size w w')) (by kernel_rfl) (by exact jh _ hL.out.drew) (fun hHeld => ?_)
      refine take_run 0 (some 17) (v := ?_) rfl rfl (by kernel_rfl) (by kernel_rfl) (by kernel_rfl) (fun _ _ _ h => h) (by rfl) ?_ hHeld ?_
      rotate_left
      · ((intro w hSw); (try dsimp only at hSw); go_simp <;> with_reducible rfl)
      simp only [Act.put, List.setIfInBounds_toArray, List.set_cons_zero, List.set_cons_succ]
      refine take_run 1 (some 18) (v := ?_) rfl rfl (by kernel_rfl) (by kernel_rfl) (by kernel_rfl) (fun _ _ _ h => h) (by rfl) ?_ hHeld ?_
      rotate_left
      · ((intro w hSw); (try dsimp only at hSw); go_simp <;> with_reducible rfl)
      simp only [Act.put, List.setIfInBounds_toArray, List.set_cons_zero, List.set_cons_succ]
      refine take_run 2 (some 19) (v := ?_) rfl rfl (by kernel_rfl) (by kernel_rfl) (by kernel_rfl) (fun _ _ _ h => h) (by rfl) ?_ hHeld ?_
      rotate_left
      · ((intro w hSw); (try dsimp only at hSw); go_simp <;> with_reducible rfl)
      simp only [Act.put, List.setIfInBounds_toArray, List.set_cons_zero, List.set_cons_succ]
      refine take_run 3 (some 20) (v := ?_) rfl rfl (by kernel_rfl) (by kernel_rfl) (by kernel_rfl) (fun _ _ _ h => h) (by rfl) ?_ hHeld ?_
      rotate_left
      · ((intro w hSw); (try dsimp only at hSw); go_simp <;> with_reducible rfl)
      simp only [Act.put, List.setIfInBounds_toArray, List.set_cons_zero, List.set_cons_succ]
      refine take_run 4 (some 21) (v := ?_) rfl rfl (by kernel_rfl) (by kernel_rfl) (by kernel_rfl) (fun _ _ _ h => h) (by rfl) ?_ hHeld ?_
      rotate_left
      · ((intro w hSw); (try dsimp only at hSw); go_simp <;> with_reducible rfl)
      simp only [Act.put, List.setIfInBounds_toArray, List.set_cons_zero, List.set_cons_succ]
      refine take_run 5 (some 22) (v := ?_) rfl rfl (by kernel_rfl) (by kernel_rfl) (by kernel_rfl) (fun _ _ _ h => h) (by rfl) ?_ hHeld ?_
      rotate_left
      · ((intro w hSw); (try dsimp only at hSw); go_simp <;> with_reducible rfl)
      simp only [Act.put, List.setIfInBounds_toArray, List.set_cons_zero, List.set_cons_succ]
      refine take_run 6 (some 23) (v := ?_) rfl rfl (by kernel_rfl) (by kernel_rfl) (by kernel_rfl) (fun _ _ _ h => h) (by rfl) ?_ hHeld ?_
      rotate_left
      · ((intro w hSw); (try dsimp only at hSw); go_simp <;> with_reducible rfl)
      simp only [Act.put, List.setIfInBounds_toArray, List.set_cons_zero, List.set_cons_succ]
      refine take_run 7 (some 24) (v := ?_) rfl rfl (by kernel_rfl) (by kernel_rfl) (by kernel_rfl) (fun _ _ _ h => h) (by rfl) ?_ hHeld ?_
      rotate_left
      · ((intro w hSw); (try dsimp only at hSw); go_simp <;> with_reducible rfl)
      simp only [Act.put, List.setIfInBounds_toArray, List.set_cons_zero, List.set_cons_succ]
      refine take_one 8 (by kernel_rfl) rfl (fun K hK => ?_)
      go_simp
      (refine (eqNode_same v.sa u.sa v.wa u.wa v.sc u.sc v.wc u.wc v.ss.length v.ws.length v.ss u.ss v.ws u.ws _ HB.out.1 HB.out.2.1 rfl E1.out.symm rfl E3.out.symm E2.out E4.out HB.out.2.2.1 HB.out.2.2.2 (R1.out.on hHeld.2.2.2.2).vg (R3.out.on hHeld.2.2.2.2).vg (R2.out.on hHeld.2.2.2.2).vg (R4.out.on hHeld.2.2.2.2).vg).mono ?_; rintro e w1 ⟨rfl, hb1⟩)
      try go_wp2_with fail
      refine hK.out _ _ (by exact jh _ (hHeld.2.2.2.2.trans (hb1.mono hHeld.2.2.2.2.size))) (fun hHeld => ?_)
      clear hK K
      refine take_run 9 (some 26) (v := ?_) rfl rfl (by kernel_rfl) (by kernel_rfl) (by kernel_rfl) (fun _ _ _ h => h) (by rfl) ?_ hHeld ?_
      rotate_left
      · ((intro w hSw); (try dsimp only at hSw); go_simp <;> with_reducible rfl)
      simp only [Act.put, List.setIfInBounds_toArray, List.set_cons_zero, List.set_cons_succ]
      refine wpAnyH_done (by kernel_rfl) ?_ _
      refine NoPanic.normal ?_
      have hL2 := hide hHeld.2.2.2.2
      clear hHeld hL
      go_wp2
      exact ⟨⟨k + 1, by omega, by go_num, hL2⟩, by simp [intOf]; omega⟩
    · have hkn : k = n := by omega
      subst hkn
      clear hlt
      go_wp2
      go_ret
      exact ⟨rfl, hL.out⟩
set_option maxHeartbeats 1000000 in
theorem eqNodeS_nil (a a' : Option Addr) (c c' : Nat) (w : World) :
    Calls Tryz.prog 78 #[.slice a 0 c, .slice a' 0 c'] w fun e w' => e = .returned (.bool true) ∧ w = w' := by
  go_enter Tryz.func78, Tryz.ntmps78
  go_wp2
  go_loop [5] (fun i => i = .int .i64 0) (fun _ => 0)
  case atStart => exact rfl
  case round =>
    subst hrel
    go_wp2
    go_ret
    exact ⟨rfl, rfl⟩
set_option maxHeartbeats 1000000 in
theorem markNodeS_nil (A : Option Addr) (c : Nat) (k : Int) (W : World) :
    Calls Tryz.prog 80 #[.slice A 0 c, .int .i64 k] W fun e w' => e = .returned (.int .i64 k) ∧ W = w' := by
  go_enter Tryz.func80, Tryz.ntmps80
  go_wp2
  go_loop [1, 5] (fun v i => v = .int .i64 k ∧ i = .int .i64 0) (fun _ _ => 0)
  case atStart => exact ⟨rfl, rfl⟩
  case round =>
    obtain ⟨rfl, rfl⟩ := hrel
    go_wp2
    go_ret
    exact ⟨rfl, rfl⟩
set_option maxHeartbeats 1000000 in
theorem heldNodeS_nil (A : Option Addr) (c : Nat) (k : Int) (W : World) :
    Calls Tryz.prog 83 #[.slice A 0 c, .int .i64 k] W fun e w' => e = .returned (.int .i64 k) ∧ W = w' := by
  go_enter Tryz.func83, Tryz.ntmps83
  go_wp2
  go_loop [1, 5] (fun v i => v = .int .i64 k ∧ i = .int .i64 0) (fun _ _ => 0)
  case atStart => exact ⟨rfl, rfl⟩
  case round =>
    obtain ⟨rfl, rfl⟩ := hrel
    go_wp2
    go_ret
    exact ⟨rfl, rfl⟩
end Go.Proofs.YtnaggcdhimcilaaGreat
/- Contracts of the making of an empty store, in the program and in the model. No condition. -/
namespace Go.Proofs.YtnaggcdhimcilaaGreat
open Go.RowKit Go.Joins

/-- No version. -/
def v0 : V := ⟨0, 0, 0, none, 0, [], ⟨#[]⟩, false⟩
abbrev zero24 : Array Value := #[.int .i64 0, .int .i64 0, .int .i64 0, .slice none 0 0, .string ⟨#[]⟩, .bool false, .int .i64 0, .int .i64 0, .int .i64 0, .slice none 0 0, .string ⟨#[]⟩, .bool false, .int .i64 0, .int .i64 0, .int .i64 0, .slice none 0 0, .string ⟨#[]⟩, .bool false, .int .i64 0, .int .i64 0, .int .i64 0, .slice none 0 0, .string ⟨#[]⟩, .bool false]
theorem zero24_at : ∀ (i : Nat) (v : V), [v0, v0, v0, v0][i]? = some v → VerAt zero24 i v := by
  intro i v h
  match i with
  | 0 => simp at h; subst h; exact ⟨rfl, rfl, rfl, rfl, rfl, rfl⟩
  | 1 => simp at h; subst h; exact ⟨rfl, rfl, rfl, rfl, rfl, rfl⟩
  | 2 => simp at h; subst h; exact ⟨rfl, rfl, rfl, rfl, rfl, rfl⟩
  | 3 => simp at h; subst h; exact ⟨rfl, rfl, rfl, rfl, rfl, rfl⟩
  | n + 4 => simp at h
theorem v0_mem {v : V} {i : Nat} (h : [v0, v0, v0, v0][i]? = some v) : v = v0 := by
  have := List.mem_of_getElem? h
  simpa using this
/-- What StoreNew leaves. -/
def NewSt (w : World) (e : Ending) (w' : World) : Prop :=
  ∃ g : Nat, e = .returned (.agg #[.slice (some ⟨g, 0, none⟩) 4 4]) ∧ w.heap.size ≤ g ∧ Blk w' g 96 zero24 ∧ Below w.heap.size w w'
end Go.Proofs.YtnaggcdhimcilaaGreat
/- Contracts of ChainNew, in the program and in the model. No condition. -/
namespace Go.Proofs.YtnaggcdhimcilaaGreat
open Go.RowKit Go.Joins
attribute [local go_sem ↓] Go.wp_at_zero Go.wp_at_succ

/-- The cells of a new node whose store lies in block g. -/
def cells2 (g : Nat) : List Value := [.slice (some ⟨g, 0, none⟩) 4 4, .slice none 0 0]
def flat2 (gs : List Nat) : List Value := gs.flatMap cells2
def nd0 (g : Nat) : Nd := ⟨some ⟨g, 0, none⟩, 4, [v0, v0, v0, v0], none, 0, []⟩
theorem flat2_snoc (gs : List Nat) (g : Nat) : flat2 (gs ++ [g]) = flat2 gs ++ cells2 g := by simp [flat2]
theorem flat2_at : ∀ (gs : List Nat) (i g m : Nat), gs[i]? = some g → m < 2 → (flat2 gs)[i * 2 + m]? = (cells2 g)[m]?
  | [], i, v, m, h, _ => by simp at h
  | x :: r, 0, v, m, h, hm => by
    simp at h
    subst h
    have e : flat2 (x :: r) = cells2 x ++ flat2 r := by simp [flat2]
    rw [e, Nat.zero_mul, Nat.zero_add, List.getElem?_append_left (by simp [cells2]; omega)]
  | x :: r, i + 1, v, m, h, hm => by
    have e : flat2 (x :: r) = cells2 x ++ flat2 r := by simp [flat2]
    have h6 : (cells2 x).length = 2 := rfl
    rw [e, List.getElem?_append_right (by omega), h6]
    have : (i + 1) * 2 + m - 2 = i * 2 + m := by omega
    rw [this]
    exact flat2_at r i v m (by simpa using h) hm
theorem ndAt_of {cur : Array Value} {gs : List Nat} {n : Nat} (h : cur.toList.take n = flat2 gs) (i g : Nat) (hi : gs[i]? = some g) : NdAt cur i (nd0 g) := by
  have key : ∀ m, m < 2 → cur[i * 2 + m]? = (cells2 g)[m]? := by
    intro m hm
    have h1 := flat2_at gs i g m hi hm
    rw [← h] at h1
    have h2 : ∃ u, (cells2 g)[m]? = some u := ⟨_, List.getElem?_eq_getElem (by simp [cells2]; omega)⟩
    obtain ⟨u, hu⟩ := h2
    rw [hu] at h1 ⊢
    obtain ⟨hl, _⟩ := List.getElem?_eq_some_iff.1 h1
    rw [List.length_take] at hl
    rw [List.getElem?_take_of_lt (by omega)] at h1
    simpa using h1
  exact ⟨key 0 (by omega), key 1 (by omega)⟩
theorem node_info : (Tryz.prog.info? 90).map (fun i => (i.zero, i.size, i.bytes)) = some (some (.agg #[.slice none 0 0, .slice none 0 0]), 2, 48) := by kernel_rfl

/-- A row of new nodes as it grows. -/
structure NwRow (base : Nat) (wr : World) (x : Value) (gs : List Nat) : Prop where
  row : wr.ownsRow base 90 2 x gs.length (flat2 gs)
  own : ∀ (i g : Nat), gs[i]? = some g → Blk wr g 96 zero24 ∧ base ≤ g
  apart : ∀ (i j g g' : Nat), i ≠ j → gs[i]? = some g → gs[j]? = some g' → g ≠ g'
  lo : base ≤ wr.heap.size
theorem NwRow.start (base : Nat) (w : World) (h : base ≤ w.heap.size) : NwRow base w (.slice none 0 0) [] :=
  ⟨World.ownsRow_nil _ _ _ _, fun i v h => by simp at h, fun i j v v' _ h => by simp at h, h⟩
theorem NwRow.typed {base : Nat} {wr : World} {x : Value} {us : List Nat} (h : NwRow base wr x us) (r : Nat) (hr : x.ownBlock = some r) : ∃ cs, Blk wr r 90 cs ∧ base ≤ r ∧ r < wr.heap.size := by
  rcases h.row.2 with ⟨rfl, _⟩ | ⟨g', cap, cr, rfl, hg', hb', _⟩
  · simp [Value.ownBlock] at hr
  · simp [Value.ownBlock] at hr
    subst hr
    exact ⟨cr, hb', hg', Blk.inside hb'⟩
theorem NwRow.form {base : Nat} {wr : World} {x : Value} {us : List Nat} (h : NwRow base wr x us) : ∃ A n c, x = .slice A n c := by
  rcases h.row.2 with ⟨rfl, _⟩ | ⟨g', cap, cr, rfl, hg', hb', _⟩
  · exact ⟨_, _, _, rfl⟩
  · exact ⟨_, _, _, rfl⟩
theorem NwRow.on {base : Nat} {wr w2 : World} {x : Value} {us : List Nat} (h : NwRow base wr x us) (hb : Below wr.heap.size wr w2) : NwRow base w2 x us :=
  ⟨World.ownsRow.kept h.row (grown_none (row := none) hb) (Classical.em _), fun i v hi => ⟨(h.own i v hi).1.on hb, (h.own i v hi).2⟩, h.apart, Nat.le_trans h.lo hb.size⟩
theorem NwRow.aside {base : Nat} {wr : World} {x : Value} {us : List Nat} (h : NwRow base wr x us) {p : Addr} (hp : p.block < base) (u : Value) : NwRow base (wr.setCell p u) x us :=
  ⟨ownsRow_setCell_below h.row hp u, fun i v hi => ⟨(h.own i v hi).1.aside (by have := (h.own i v hi).2; omega) u, (h.own i v hi).2⟩, h.apart, by simpa [World.setCell] using h.lo⟩
theorem NwRow.down {base base' : Nat} {wr : World} {x : Value} {us : List Nat} (h : NwRow base wr x us) (hb : base' ≤ base) : NwRow base' wr x us :=
  ⟨⟨h.row.1, by
    rcases h.row.2 with h | ⟨g, cap, cr, h1, h2, h3⟩
    · exact .inl h
    · exact .inr ⟨g, cap, cr, h1, by omega, h3⟩⟩, fun i v hi => ⟨(h.own i v hi).1, by have := (h.own i v hi).2; omega⟩, h.apart, by have := h.lo; omega⟩
/-- One node more. -/
theorem NwRow.push {base : Nat} {wr w1 w2 : World} {x : Value} {us : List Nat} {v g cap : Nat} (h : NwRow base wr x us) (hb : Below wr.heap.size wr w1) (hv : wr.heap.size ≤ v) (ho : Blk w1 v 96 zero24)
    (hown : w2.ownsRow base 90 2 (.slice (some ⟨g, 0, none⟩) (us.length + 1) cap) (us.length + 1) (flat2 us ++ cells2 v)) (hg : w1.grownBy w2 x.ownBlock) : NwRow base w2 (.slice (some ⟨g, 0, none⟩) (us.length + 1) cap) (us ++ [v]) := by
  have hk : ∀ y, Blk w1 y 96 zero24 → Blk w2 y 96 zero24 := fun y hy => hy.kept hg (fun e => by
    obtain ⟨cs, h1, _⟩ := h.typed y e
    exact node_ne_ver (blk_one (h1.on hb) hy))
  have zb := h.lo
  have z1 := hb.size
  have z2 := hg.size
  have hget : ∀ (i : Nat) y, (us ++ [v])[i]? = some y → (i = us.length ∧ y = v) ∨ (i < us.length ∧ us[i]? = some y) := by
    intro i y hy
    by_cases e : i < us.length
    · rw [List.getElem?_append_left e] at hy
      exact .inr ⟨e, hy⟩
    · rw [List.getElem?_append_right (by omega)] at hy
      have h0 : i - us.length = 0 := by
        have := (List.getElem?_eq_some_iff.1 hy).1
        simp at this
        omega
      rw [h0] at hy
      simp at hy
      exact .inl ⟨by omega, hy.symm⟩
  have hap : ∀ (i : Nat) y, us[i]? = some y → y ≠ v := fun i y hy => by have := (h.own i y hy).1.inside; omega
  refine ⟨by simpa [flat2_snoc] using hown, fun i y hy => ?_, fun i j y y' hne hy hy' => ?_, by omega⟩
  · rcases hget i y hy with ⟨rfl, rfl⟩ | ⟨_, hy⟩
    · exact ⟨hk _ ho, by omega⟩
    · exact ⟨hk _ ((h.own i y hy).1.on hb), (h.own i y hy).2⟩
  · rcases hget i y hy with ⟨e1, e2⟩ | ⟨e, hq⟩ <;> rcases hget j y' hy' with ⟨e3, e4⟩ | ⟨e', hq'⟩
    · omega
    · rw [e2]; exact fun e => hap j y' hq' e.symm
    · rw [e4]; exact hap i y hq
    · exact h.apart i j y y' hne hq hq'
theorem foot0 {g h : Nat} (hf : FootN (nd0 g) h) : h = g := by
  rcases hf with ⟨_, G, e, hf⟩ | ⟨h0, _⟩
  · simp only [nd0] at e hf
    injection e with e
    injection e with e
    subst e
    rcases hf with hf | ⟨i, v, hi, hn, _⟩
    · exact hf
    · rw [v0_mem hi] at hn
      exact absurd rfl hn
  · exact absurd rfl h0
theorem NwRow.res {base : Nat} {wr : World} {A : Option Addr} {n c : Nat} {gs : List Nat} (h : NwRow base wr (.slice A n c) gs) : n = gs.length ∧ (gs = [] ∨ ∃ G cur, A = some ⟨G, 0, none⟩ ∧ NRow wr base wr.heap.size G (gs.map nd0) cur) := by
  have hget : ∀ (i : Nat) y, (gs.map nd0)[i]? = some y → ∃ g, gs[i]? = some g ∧ y = nd0 g := by
    intro i y hy
    rw [List.getElem?_map] at hy
    cases hx : gs[i]? with
    | none => rw [hx] at hy; cases hy
    | some x =>
      rw [hx] at hy
      simp only [Option.map_some] at hy
      injection hy with hy
      exact ⟨x, rfl, hy.symm⟩
  rcases h.row.2 with ⟨e0, e⟩ | ⟨g', cap, cr, e0, hg', hb', hn, hm, hs, ht⟩
  · injection e0 with _ e1 _
    exact ⟨by omega, .inl (List.length_eq_zero_iff.1 (by omega))⟩
  · injection e0 with e0 e1 e2
    subst e0 e1 e2
    refine ⟨rfl, .inr ⟨g', cr, rfl, hb', hg', Blk.inside hb', by rw [List.length_map]; omega, ?_, ?_, ?_, ?_, ?_⟩⟩
    · intro i y hy
      obtain ⟨g, hg, rfl⟩ := hget i y hy
      exact ndAt_of ht i g hg
    · intro i y hy
      obtain ⟨g, hg, rfl⟩ := hget i y hy
      have ho := h.own i g hg
      exact .inr ⟨g, zero24, rfl, ho.1, ho.2, ho.1.inside, by simp [nd0], zero24_at, fun i v hi => .inl (by rw [v0_mem hi]; rfl), fun i j v v' _ hi _ hn => by rw [v0_mem hi] at hn; exact absurd rfl hn⟩
    · intro i y hy
      obtain ⟨g, hg, rfl⟩ := hget i y hy
      exact .inl rfl
    · intro i y hy g h1 h2
      obtain ⟨g, hg, rfl⟩ := hget i y hy
      exact absurd rfl h2.1
    · intro i j y y' hne hy hy' x h1 h2
      obtain ⟨g, hg, rfl⟩ := hget i y hy
      obtain ⟨g', hg', rfl⟩ := hget j y' hy'
      exact h.apart i j g g' hne hg hg' ((foot0 h1).symm.trans (foot0 h2))

/-- How many nodes a new chain has. -/
def chN (n : Int) : Nat := if 1 ≤ n ∧ n ≤ 4 then n.toNat else 0
/-- A new chain as a call has made it. -/
def ResC (w : World) (B U : Nat) (A : Option Addr) (gs : List Nat) : Prop := gs = [] ∨ ∃ G cur, A = some ⟨G, 0, none⟩ ∧ NRow w B U G (gs.map nd0) cur
def NewC (w : World) (n : Int) (e : Ending) (w' : World) : Prop :=
  ∃ (A : Option Addr) (cap : Nat) (gs : List Nat), e = .returned (.agg #[.slice A (chN n) cap]) ∧ gs.length = chN n ∧ ResC w' w.heap.size w'.heap.size A gs ∧ Below w.heap.size w w'

def NewR (w : World) (n : Int) (e : Ending) (w' : World) : Prop :=
  ∃ (x : Value) (gs : List Nat), e = .returned (.agg #[x]) ∧ gs.length = chN n ∧ NwRow w.heap.size w' x gs ∧ Below w.heap.size w w'

end Go.Proofs.YtnaggcdhimcilaaGreat
/- Chains that a call answers: compared, marked, and the marks found again. Condition: what is said of each. -/
namespace Go.Proofs.YtnaggcdhimcilaaGreat
open Go.RowKit Go.Joins
attribute [local go_sem ↓] Go.wp_at_zero Go.wp_at_succ

/-- A slice of nodes that a call has made: none, or in blocks of its own from B on and below U. -/
def ResN (w : World) (B U : Nat) (A : Option Addr) (ns : List Nd) : Prop := ns = [] ∨ ∃ G cur, A = some ⟨G, 0, none⟩ ∧ NRow w B U G ns cur
theorem NRow.range {w : World} {B U G : Nat} {ns : List Nd} {cur : Array Value} (h : NRow w B U G ns cur) {i : Nat} {n : Nd} (hi : ns[i]? = some n) {g : Nat} (hf : FootN n g) : B ≤ g ∧ g < U := by
  rcases hf with hf | hf
  · obtain ⟨_, _, _, _, h1⟩ := (h.store i n hi).typed hf
    exact h1
  · obtain ⟨_, _, _, _, h1⟩ := (h.wait i n hi).typed hf
    exact h1
theorem ResN.turn {P : Nat → Prop} {w w' : World} {B U : Nat} {A : Option Addr} {ns : List Nd} (h : ResN w B U A ns) (ht : Turn P w w') (hp : ∀ g, B ≤ g → g < U → ¬ P g) : ResN w' B U A ns := by
  rcases h with h | ⟨G, cur, h1, h2⟩
  · exact .inl h
  · exact .inr ⟨G, cur, h1, h2.turned ht (hp G h2.lo h2.hi) (fun i n hi g hf => hp g (h2.range hi hf).1 (h2.range hi hf).2)⟩
theorem ResN.on {w w' : World} {B U : Nat} {A : Option Addr} {ns : List Nd} (h : ResN w B U A ns) (hb : Below w.heap.size w w') : ResN w' B U A ns := h.turn (P := fun _ => False) (.below hb) (fun _ _ _ h => h)
theorem ResN.alloc {w : World} {B U : Nat} {A : Option Addr} {ns : List Nd} (h : ResN w B U A ns) (o : Obj) : ResN (w.alloc o) B U A ns := h.on (below_alloc1 w o)
theorem ResC.n {w : World} {B U : Nat} {A : Option Addr} {gs : List Nat} (h : ResC w B U A gs) : ResN w B U A (gs.map nd0) := by
  rcases h with h | h
  · exact .inl (by rw [h]; rfl)
  · exact .inr h
set_option maxHeartbeats 2000000 in
theorem eqChain_same (B U B' U' : Nat) (A A' : Option Addr) (c c' n : Nat) (ns us : List Nd) (w : World) (hn : n ≤ 1048576) (hvn : ns.length = n) (hun : us.length = n)
    (hlike : ∀ (i : Nat) v v', ns[i]? = some v → us[i]? = some v' → Nd.like v v') (hm : SmallN ns) (hv : ResN w B U A ns) (hu : ResN w B' U' A' us) :
    Calls Tryz.prog 33 #[.agg #[.slice A n c], .agg #[.slice A' n c']] w fun e w' => e = .returned (.bool true) ∧ Below w.heap.size w w' := by
  have S0 := ((Inv.start w).box 32 #[.slice A n c]).box 32 #[.slice A' n c']
  simp only [World.size_alloc] at S0
  have HC : Hid (∀ W, Below w.heap.size w W → Calls Tryz.prog 78 #[.slice A n c, .slice A' n c'] W fun e w' => e = .returned (.bool true) ∧ Below W.heap.size W w') := fun W hW => by
    by_cases h0 : n = 0
    · subst h0
      exact (eqNodeS_nil A A' c c' W).mono fun e w' ⟨h1, h2⟩ => ⟨h1, by rw [← h2]; exact Below.refl _ _⟩
    · rcases hv with h | ⟨G, cur, rfl, hv⟩
      · rw [h] at hvn; exact absurd hvn.symm h0
      · rcases hu with h | ⟨G', cur', rfl, hu⟩
        · rw [h] at hun; exact absurd hun.symm h0
        · exact eqNodeS_same B U G c B' U' G' c' n ns us cur cur' W hn hvn hun hlike hm (hv.on hW) (hu.on hW)
  clear hlike hm hv hu hvn hun
  go_enter Tryz.func33, Tryz.ntmps33
  go_wp2_with fail
  refine (HC.out _ S0.below).mono ?_
  rintro e w1 ⟨rfl, hb1⟩
  have S1 := S0.on hb1
  clear S0
  go_wp2
  go_ret
  exact ⟨rfl, S1.below⟩
set_option maxHeartbeats 2000000 in
theorem heldChain_any (B U : Nat) (A : Option Addr) (c n : Nat) (ns : List Nd) (k : Int) (w : World) (hR : ResN w B U A (mkNs k ns)) (hl : ns.length = n) (hm : SmallN ns) (hn : n ≤ 1048576) (hk0 : 1 ≤ k) (hk : k + wtNs ns ≤ 8388000) :
    Calls Tryz.prog 39 #[.agg #[.slice A n c], .int .i64 k] w fun e w' => e = .returned (.int .i64 (k + wtNs ns)) ∧ Below w.heap.size w w' := by
  have L0 := below_alloc1 w (.cells #[.slice A n c] 32)
  have hp : ¬ (k + wtNs ns < 0) := by have := wtNs_pos ns; omega
  have HC : Hid (∀ W, Below w.heap.size w W → Calls Tryz.prog 83 #[.slice A n c, .int .i64 k] W fun e w' => e = .returned (.int .i64 (k + wtNs ns)) ∧ Below W.heap.size W w') := fun W hW => by
    by_cases h0 : ns = []
    · subst h0
      simp only [List.length_nil] at hl
      subst hl
      exact (heldNodeS_nil A c k W).mono fun e w' ⟨h1, h2⟩ => ⟨by rw [h1]; simp [wtNs], by rw [← h2]; exact Below.refl _ _⟩
    · rcases hR with h | ⟨G, cur, rfl, hv⟩
      · have := mkNs_len k ns
        rw [h] at this
        exact absurd (List.length_eq_zero_iff.1 this.symm) h0
      · subst hl
        exact heldNodeS_any B U G c ns cur k W (hv.on hW) hm hn hk0 hk
  clear hR hl hm hk
  go_enter Tryz.func39, Tryz.ntmps39
  go_wp2_with fail
  refine (HC.out _ L0).mono ?_
  rintro e w1 ⟨rfl, hb1⟩
  have H1 := hide (L0.trans (hb1.mono L0.size))
  clear hb1 L0
  go_wp2
  go_ret
  exact ⟨rfl, H1.out⟩
end Go.Proofs.YtnaggcdhimcilaaGreat
/- Contracts of the program's links: a node at its place in a chain, and the way to the next one. Condition: a chain's nodes, none or from the beginning of a block. -/
namespace Go.Proofs.YtnaggcdhimcilaaGreat
open Go.RowKit Go.Joins
attribute [local go_sem ↓] Go.wp_at_zero Go.wp_at_succ

/-- The link of node k as it lies in memory, in blocks from B on. -/
def LinkAt (w : World) (B L : Nat) (A : Option Addr) (G n c k : Nat) : Prop :=
  ∃ b1 b2 : Nat, B ≤ L ∧ B ≤ b1 ∧ B ≤ b2 ∧ Blk w L 124 #[.pointer (some ⟨G, k * 2, none⟩), .func (.func 104) #[] #[.pointer (some ⟨b1, 0, none⟩), .pointer (some ⟨b2, 0, none⟩)]] ∧ Blk w b1 30 #[.slice A n c] ∧ Blk w b2 3 #[.int .i64 (k : Int)]
theorem LinkAt.on {w w' : World} {B L G n c k : Nat} {A : Option Addr} (h : LinkAt w B L A G n c k) (hb : Below w.heap.size w w') : LinkAt w' B L A G n c k := by
  obtain ⟨b1, b2, h1, h2, h3, h4, h5, h6⟩ := h
  exact ⟨b1, b2, h1, h2, h3, h4.on hb, h5.on hb, h6.on hb⟩
theorem LinkAt.low {w : World} {B B' L G n c k : Nat} {A : Option Addr} (h : LinkAt w B L A G n c k) (hb : B' ≤ B) : LinkAt w B' L A G n c k := by
  obtain ⟨b1, b2, h1, h2, h3, h4, h5, h6⟩ := h
  exact ⟨b1, b2, by omega, by omega, by omega, h4, h5, h6⟩
/-- What linkAt leaves: nothing behind the last node, else a link. -/
def LinkEnd (w : World) (A : Option Addr) (G n c k : Nat) (e : Ending) (w' : World) : Prop :=
  (if k < n then ∃ L, e = .returned (.pointer (some ⟨L, 0, none⟩)) ∧ LinkAt w' w.heap.size L A G n c k else e = .returned (.pointer none)) ∧ Below w.heap.size w w'
set_option maxRecDepth 100000 in
set_option maxHeartbeats 2000000 in
theorem linkAt_any (G n c k : Nat) (w : World) (_hn : n ≤ 1048576) (hk : k ≤ 1048576) :
    Calls Tryz.prog 67 #[.slice (some ⟨G, 0, none⟩) n c, .int .i64 (k : Int)] w (LinkEnd w (some ⟨G, 0, none⟩) G n c k) := by
  have hmf : ∀ (fn : Fn) (first cap : Array Value) (w : World), (Instr.makeFunc fn first cap).run Tryz.prog w = .ok (.func fn first cap) w := fun _ _ _ _ => rfl
  have h0 : ¬ ((k : Int) < 0) := by omega
  have S0 := ((Inv.start w).box 30 #[.slice (some ⟨G, 0, none⟩) n c]).box 3 #[.int .i64 (k : Int)]
  simp only [World.size_alloc] at S0
  by_cases hlt : k < n
  · have h1 : ¬ ((k : Int) ≥ (n : Int)) := by omega
    have h2 : (k : Int) < (n : Int) := by omega
    have i1 : (0 : Int) ≤ (k : Int) := by omega
    go_enter Tryz.func67, Tryz.ntmps67
    go_wp2
    go_ret
    have S1 := (((Inv.start w).box 30 #[.slice (some ⟨G, 0, none⟩) n c]).box 3 #[.int .i64 (k : Int)]).box 124 #[.pointer (some ⟨G, k * 2, none⟩), .func (.func 104) #[] #[.pointer (some ⟨w.heap.size, 0, none⟩), .pointer (some ⟨w.heap.size + 1, 0, none⟩)]]
    simp only [World.size_alloc] at S1
    refine ⟨?_, S1.below⟩
    rw [if_pos hlt]
    exact ⟨w.heap.size + 1 + 1, rfl, w.heap.size, w.heap.size + 1, by omega, by omega, by omega, S1.nth 0 rfl, S1.nth 2 rfl, S1.nth 1 rfl⟩
  · have h1 : (k : Int) ≥ (n : Int) := by omega
    have h2 : ¬ ((k : Int) < (n : Int)) := by omega
    go_enter Tryz.func67, Tryz.ntmps67
    go_wp2
    go_ret
    exact ⟨by rw [if_neg hlt]; rfl, S0.below⟩
set_option maxRecDepth 100000 in
set_option maxHeartbeats 2000000 in
/-- The way to the next one. -/
theorem next_any (G n c k b1 b2 : Nat) (w : World) (hn : n ≤ 1048576) (hk : k ≤ 1048575) (h1 : Blk w b1 30 #[.slice (some ⟨G, 0, none⟩) n c]) (h2 : Blk w b2 3 #[.int .i64 (k : Int)]) :
    Calls Tryz.prog 104 #[.pointer (some ⟨b1, 0, none⟩), .pointer (some ⟨b2, 0, none⟩)] w (LinkEnd w (some ⟨G, 0, none⟩) G n c (k + 1)) := by
  have q1 := h1.one.1
  have q2 := h2.one.1
  go_enter Tryz.func104, Tryz.ntmps104
  go_wp2_with fail
  have e1 : (k : Int) + 1 = ((k + 1 : Nat) : Int) := by omega
  have CT := linkAt_any G n c (k + 1) w hn (by omega)
  rw [← e1] at CT
  clear e1
  with_reducible refine CT.mono ?_
  clear CT
  rintro e w1 ⟨hE, hb⟩
  have HE := hide hE
  have HB := hide hb
  clear hE hb
  by_cases hlt : k + 1 < n
  · have hq := HE.out
    rw [if_pos hlt] at hq
    obtain ⟨L, rfl, hL⟩ := hq
    have HLL := hide hL
    clear hL
    go_wp2
    go_ret
    exact ⟨by rw [if_pos hlt]; exact ⟨L, rfl, HLL.out⟩, HB.out⟩
  · have hq := HE.out
    rw [if_neg hlt] at hq
    subst hq
    go_wp2
    go_ret
    exact ⟨by rw [if_neg hlt]; rfl, HB.out⟩
end Go.Proofs.YtnaggcdhimcilaaGreat
