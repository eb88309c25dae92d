/- Rows of nodes in memory of their own: each node two rows of versions; how they are compared, marked, and the marks found again. Condition: what is said of each. -/
import Derived.Test.YtpkoidbenojkmaaStoreRes
namespace Go.Proofs.Ytpkoidbenojkmaa
open Go.RowKit Go.Joins
attribute [local go_sem ↓] Go.wp_at_zero Go.wp_at_succ

/-- The blocks of a slice of versions. -/
def FootS (A : Option Addr) (us : List V) (g : Nat) : Prop := us ≠ [] ∧ ∃ G, A = some ⟨G, 0, none⟩ ∧ Foot G us g
theorem ORow.turnF {P : Nat → Prop} {w w' : World} {B U G : Nat} {vs : List V} {cur : Array Value} (h : ORow w B U G vs cur) (ht : Turn P w w') (hp : ∀ g, Foot G vs g → ¬ P g) : ORow w' B U G vs cur :=
  ⟨h.blk.turned ht (hp G (.inl rfl)), h.lo, h.hi, h.size, h.at', fun i v hi => (h.own i v hi).turned ht (fun g hg _ _ hne => hp g (.inr ⟨i, v, hi, hne, hg⟩)), h.apart⟩
theorem ResS.turnF {P : Nat → Prop} {w w' : World} {B U : Nat} {A : Option Addr} {us : List V} (h : ResS w B U A us) (ht : Turn P w w') (hp : ∀ g, FootS A us g → ¬ P g) : ResS w' B U A us := by
  by_cases h0 : us = []
  · exact .inl h0
  · rcases h with h | ⟨G, cur, rfl, hO⟩
    · exact .inl h
    · exact .inr ⟨G, cur, rfl, hO.turnF ht (fun g hg => hp g ⟨h0, G, rfl, hg⟩)⟩
theorem foot_mk {G : Nat} {k : Int} {us : List V} {g : Nat} (h : Foot G (mkVs k us) g) : Foot G us g := by
  rcases h with h | ⟨i, v, hi, hn, ha⟩
  · exact .inl h
  · rw [mkVs_at] at hi
    cases hx : us[i]? with
    | none => rw [hx] at hi; cases hi
    | some x =>
      rw [hx] at hi
      simp only [Option.map_some] at hi
      injection hi with hi
      subst hi
      refine .inr ⟨i, x, hx, fun h0 => hn ?_, ha⟩
      show marksL _ _ = []
      rw [h0]
      rfl
theorem footS_mk {A : Option Addr} {k : Int} {us : List V} {g : Nat} (h : FootS A (mkVs k us) g) : FootS A us g := by
  obtain ⟨h0, G, ha, hf⟩ := h
  exact ⟨fun e => h0 (by rw [e]; rfl), G, ha, foot_mk hf⟩
set_option maxHeartbeats 1000000 in
theorem markVerS_nil (A : Option Addr) (c : Nat) (k : Int) (W : World) :
    Calls Try.prog 22 #[.slice A 0 c, .int .i64 k] W fun e w' => e = .returned (.int .i64 k) ∧ W = w' := by
  go_enter Try.func22, Try.ntmps22
  go_wp2
  go_loop [1, 5] (fun v i => v = .int .i64 k ∧ i = .int .i64 0) (fun _ _ => 0)
  case atStart => exact ⟨rfl, rfl⟩
  case round =>
    obtain ⟨rfl, rfl⟩ := hrel
    go_wp2
    go_ret
    exact ⟨rfl, rfl⟩
set_option maxHeartbeats 1000000 in
theorem heldVerS_nil (A : Option Addr) (c : Nat) (k : Int) (W : World) :
    Calls Try.prog 25 #[.slice A 0 c, .int .i64 k] W fun e w' => e = .returned (.int .i64 k) ∧ W = w' := by
  go_enter Try.func25, Try.ntmps25
  go_wp2
  go_loop [1, 5] (fun v i => v = .int .i64 k ∧ i = .int .i64 0) (fun _ _ => 0)
  case atStart => exact ⟨rfl, rfl⟩
  case round =>
    obtain ⟨rfl, rfl⟩ := hrel
    go_wp2
    go_ret
    exact ⟨rfl, rfl⟩
/-- What marking a slice of versions leaves: only its own blocks have turned. -/
def MarkedSF (w : World) (B U : Nat) (A : Option Addr) (us : List V) (k : Int) (e : Ending) (w' : World) : Prop :=
  e = .returned (.int .i64 (k + wts us)) ∧ ResS w' B U A (mkVs k us) ∧ Turn (FootS A us) w w'
theorem markSF_any (B U : Nat) (A : Option Addr) (c : Nat) (us : List V) (k : Int) (w : World) (hR : ResS w B U A us) (hm : ∀ v ∈ us, v.ts.length ≤ 1048576) (hn : us.length ≤ 1048576) (hk0 : 1 ≤ k) (hk : k + wts us ≤ 8388000) :
    Calls Try.prog 22 #[.slice A us.length c, .int .i64 k] w (MarkedSF w B U A us k) := by
  by_cases h0 : us = []
  · subst h0
    exact (markVerS_nil A c k w).mono fun e w' ⟨he, hw⟩ => ⟨by rw [he]; simp [wts], .inl rfl, by rw [← hw]; exact Turn.refl _ _⟩
  · rcases hR with h | ⟨G, cur, rfl, hO⟩
    · exact absurd h h0
    · exact (markVerS_foot B U G c us cur k w hO hm hn hk0 hk).mono fun e w' ⟨he, ⟨cur', h1⟩, h2⟩ => ⟨he, .inr ⟨G, cur', rfl, h1⟩, ⟨h2.os, h2.tape, h2.output, h2.size, fun i hi hn => h2.block i hi (fun hf => hn ⟨h0, G, rfl, hf⟩)⟩⟩
theorem heldSF_any (B U : Nat) (A : Option Addr) (c : Nat) (us : List V) (k : Int) (w : World) (hR : ResS w B U A (mkVs k us)) (hm : ∀ v ∈ us, v.ts.length ≤ 1048576) (hn : us.length ≤ 1048576) (hk0 : 1 ≤ k) (hk : k + wts us ≤ 8388000) :
    Calls Try.prog 25 #[.slice A us.length c, .int .i64 k] w fun e w' => e = .returned (.int .i64 (k + wts us)) ∧ Below w.heap.size w w' := by
  by_cases h0 : us = []
  · subst h0
    exact (heldVerS_nil A c k w).mono fun e w' ⟨he, hw⟩ => ⟨by rw [he]; simp [wts], by rw [← hw]; exact Below.refl _ _⟩
  · rcases hR with h | ⟨G, cur, rfl, hO⟩
    · have := mkVs_len k us
      rw [h] at this
      exact absurd (List.length_eq_zero_iff.1 this.symm) h0
    · exact heldVerS_any B U G c us cur k w hO hm hn hk0 hk

/-- A node as it lies in memory: its store, and what waits. -/
structure Nd where
  sa : Option Addr
  sc : Nat
  ss : List V
  wa : Option Addr
  wc : Nat
  ws : List V
/-- The two cells of the node at place i of a row of cells. -/
def NdAt (cur : Array Value) (i : Nat) (n : Nd) : Prop := cur[i * 2]? = some (.slice n.sa n.ss.length n.sc) ∧ cur[i * 2 + 1]? = some (.slice n.wa n.ws.length n.wc)
/-- Two nodes say the same. -/
def Nd.like (n n' : Nd) : Prop := n.ss.length = n'.ss.length ∧ Like n.ss n'.ss ∧ n.ws.length = n'.ws.length ∧ Like n.ws n'.ws
def FootN (n : Nd) (g : Nat) : Prop := FootS n.sa n.ss g ∨ FootS n.wa n.ws g
/-- A row of nodes in a block of its own, the rows of each node in others. -/
structure NRow (w : World) (B U G : Nat) (ns : List Nd) (cur : Array Value) : Prop where
  blk : Blk w G 70 cur
  lo : B ≤ G
  hi : G < U
  size : ns.length * 2 ≤ cur.size
  at' : ∀ (i : Nat) n, ns[i]? = some n → NdAt cur i n
  store : ∀ (i : Nat) n, ns[i]? = some n → ResS w B U n.sa n.ss
  wait : ∀ (i : Nat) n, ns[i]? = some n → ResS w B U n.wa n.ws
  two : ∀ (i : Nat) n, ns[i]? = some n → ∀ g, FootS n.sa n.ss g → ¬ FootS n.wa n.ws g
  apart : ∀ (i j : Nat) n n', i ≠ j → ns[i]? = some n → ns[j]? = some n' → ∀ g, FootN n g → ¬ FootN n' g
theorem node_ne_ver : (70 : TypeId) ≠ 74 := by decide
theorem node_ne_tag : (70 : TypeId) ≠ 55 := by decide
theorem ResS.typed {w : World} {B U : Nat} {A : Option Addr} {us : List V} (h : ResS w B U A us) {g : Nat} (hg : FootS A us g) : ∃ T cs, Blk w g T cs ∧ T ≠ 70 ∧ B ≤ g ∧ g < U := by
  obtain ⟨h0, G, rfl, hf⟩ := hg
  rcases h with h | ⟨G', cur, e, hO⟩
  · exact absurd h h0
  · injection e with e
    injection e with e
    subst e
    have hr := hO.foot hf
    rcases hf with rfl | ⟨i, v, hi, hn, ha⟩
    · exact ⟨_, _, hO.blk, (fun e => node_ne_ver e.symm), hr⟩
    · rcases hO.own i v hi with q | ⟨g', c', e1, q1, q2, q3, _⟩
      · exact absurd q hn
      · rw [e1] at ha
        injection ha with ha
        injection ha with ha
        subst ha
        exact ⟨_, _, q3, (fun e => node_ne_tag e.symm), hr⟩
/-- How many marks nodes bear. -/
def wtN (n : Nd) : Int := wts n.ss + wts n.ws
def wtNs (ns : List Nd) : Int := (ns.map wtN).sum
def mkN (k : Int) (n : Nd) : Nd := ⟨n.sa, n.sc, mkVs k n.ss, n.wa, n.wc, mkVs (k + wts n.ss) n.ws⟩
def mkNs : Int → List Nd → List Nd
  | _, [] => []
  | k, n :: r => mkN k n :: mkNs (k + wtN n) r
theorem mkNs_len (k : Int) (ns : List Nd) : (mkNs k ns).length = ns.length := by
  induction ns generalizing k with
  | nil => rfl
  | cons v r ih => simp [mkNs, ih]
theorem wtNs_step {ns : List Nd} {j : Nat} {n : Nd} (h : ns[j]? = some n) : wtNs (ns.take (j + 1)) = wtNs (ns.take j) + wtN n := by
  unfold wtNs
  rw [List.take_add_one, h]
  simp
theorem wtN_pos (n : Nd) : 0 ≤ wtN n := by have := wts_pos n.ss; have := wts_pos n.ws; unfold wtN; omega
theorem wtNs_pos (ns : List Nd) : 0 ≤ wtNs ns := by
  induction ns with
  | nil => simp [wtNs]
  | cons v r ih => have := wtN_pos v; unfold wtNs at *; simp; omega
theorem wtNs_le (ns : List Nd) (j : Nat) : wtNs (ns.take j) ≤ wtNs ns := by
  have e : wtNs ns = wtNs (ns.take j) + wtNs (ns.drop j) := by
    unfold wtNs
    rw [← List.sum_append, ← List.map_append, List.take_append_drop]
  have := wtNs_pos (ns.drop j)
  omega
theorem mkNs_at (k : Int) (ns : List Nd) (j : Nat) : (mkNs k ns)[j]? = (ns[j]?).map (mkN (k + wtNs (ns.take j))) := by
  induction ns generalizing k j with
  | nil => simp [mkNs]
  | cons v r ih =>
    cases j with
    | zero => simp [mkNs, wtNs]
    | succ j =>
      simp only [mkNs, List.getElem?_cons_succ, ih, List.take_succ_cons]
      congr 1
      funext x
      unfold wtNs
      simp [Int.add_assoc]
end Go.Proofs.Ytpkoidbenojkmaa
