/- Chains that a call answers: compared, marked, and the marks found again. Condition: what is said of each. -/
import Derived.Test.YtpkoidbenojkmaaChainNew
namespace Go.Proofs.Ytpkoidbenojkmaa
open Go.RowKit Go.Joins
attribute [local go_sem ↓] Go.wp_at_zero Go.wp_at_succ

/-- A slice of nodes that a call has made: none, or in blocks of its own from B on and below U. -/
def ResN (w : World) (B U : Nat) (A : Option Addr) (ns : List Nd) : Prop := ns = [] ∨ ∃ G cur, A = some ⟨G, 0, none⟩ ∧ NRow w B U G ns cur
theorem NRow.range {w : World} {B U G : Nat} {ns : List Nd} {cur : Array Value} (h : NRow w B U G ns cur) {i : Nat} {n : Nd} (hi : ns[i]? = some n) {g : Nat} (hf : FootN n g) : B ≤ g ∧ g < U := by
  rcases hf with hf | hf
  · obtain ⟨_, _, _, _, h1⟩ := (h.store i n hi).typed hf
    exact h1
  · obtain ⟨_, _, _, _, h1⟩ := (h.wait i n hi).typed hf
    exact h1
theorem ResN.turn {P : Nat → Prop} {w w' : World} {B U : Nat} {A : Option Addr} {ns : List Nd} (h : ResN w B U A ns) (ht : Turn P w w') (hp : ∀ g, B ≤ g → g < U → ¬ P g) : ResN w' B U A ns := by
  rcases h with h | ⟨G, cur, h1, h2⟩
  · exact .inl h
  · exact .inr ⟨G, cur, h1, h2.turned ht (hp G h2.lo h2.hi) (fun i n hi g hf => hp g (h2.range hi hf).1 (h2.range hi hf).2)⟩
theorem ResN.on {w w' : World} {B U : Nat} {A : Option Addr} {ns : List Nd} (h : ResN w B U A ns) (hb : Below w.heap.size w w') : ResN w' B U A ns := h.turn (P := fun _ => False) (.below hb) (fun _ _ _ h => h)
theorem ResN.alloc {w : World} {B U : Nat} {A : Option Addr} {ns : List Nd} (h : ResN w B U A ns) (o : Obj) : ResN (w.alloc o) B U A ns := h.on (below_alloc1 w o)
theorem ResC.n {w : World} {B U : Nat} {A : Option Addr} {gs : List Nat} (h : ResC w B U A gs) : ResN w B U A (gs.map nd0) := by
  rcases h with h | h
  · exact .inl (by rw [h]; rfl)
  · exact .inr h
theorem nd0_at {gs : List Nat} {i : Nat} {y : Nd} (hy : (gs.map nd0)[i]? = some y) : ∃ g, y = nd0 g := by
  rw [List.getElem?_map] at hy
  cases hx : gs[i]? with
  | none => rw [hx] at hy; cases hy
  | some x =>
    rw [hx] at hy
    simp only [Option.map_some] at hy
    injection hy with hy
    exact ⟨x, hy.symm⟩
theorem nd0_like {gs gs' : List Nat} : ∀ (i : Nat) v v', (gs.map nd0)[i]? = some v → (gs'.map nd0)[i]? = some v' → Nd.like v v' := fun i v v' h h' => by
  obtain ⟨g, rfl⟩ := nd0_at h
  obtain ⟨g', rfl⟩ := nd0_at h'
  exact ⟨rfl, like0, rfl, fun i v v' hi => by simp [nd0] at hi⟩
theorem nd0_small (gs : List Nat) : SmallN (gs.map nd0) := fun y hy => by
  obtain ⟨i, hi⟩ := List.getElem?_of_mem hy
  obtain ⟨g, rfl⟩ := nd0_at hi
  refine ⟨by simp [nd0], by simp [nd0], fun v hv => ?_, fun v hv => by simp [nd0] at hv⟩
  have : v = v0 := by simpa [nd0] using hv
  rw [this]
  simp [v0]
theorem nd0_wt (gs : List Nat) : wtNs (gs.map nd0) = 20 * (gs.length : Int) := by
  induction gs with
  | nil => simp [wtNs]
  | cons g r ih =>
    have : wtN (nd0 g) = 20 := by simp [wtN, wts, nd0, wt, v0]
    unfold wtNs at *
    simp [this] at *
    omega
set_option maxHeartbeats 2000000 in
theorem eqChain_same (B U B' U' : Nat) (A A' : Option Addr) (c c' n : Nat) (ns us : List Nd) (w : World) (hn : n ≤ 1048576) (hvn : ns.length = n) (hun : us.length = n)
    (hlike : ∀ (i : Nat) v v', ns[i]? = some v → us[i]? = some v' → Nd.like v v') (hm : SmallN ns) (hv : ResN w B U A ns) (hu : ResN w B' U' A' us) :
    Calls Try.prog 18 #[.agg #[.slice A n c], .agg #[.slice A' n c']] w fun e w' => e = .returned (.bool true) ∧ Below w.heap.size w w' := by
  have S0 := ((Inv.start w).box 24 #[.slice A n c]).box 24 #[.slice A' n c']
  simp only [World.size_alloc] at S0
  have HC : Hid (∀ W, Below w.heap.size w W → Calls Try.prog 43 #[.slice A n c, .slice A' n c'] W fun e w' => e = .returned (.bool true) ∧ Below W.heap.size W w') := fun W hW => by
    by_cases h0 : n = 0
    · subst h0
      exact (eqNodeS_nil A A' c c' W).mono fun e w' ⟨h1, h2⟩ => ⟨h1, by rw [← h2]; exact Below.refl _ _⟩
    · rcases hv with h | ⟨G, cur, rfl, hv⟩
      · rw [h] at hvn; exact absurd hvn.symm h0
      · rcases hu with h | ⟨G', cur', rfl, hu⟩
        · rw [h] at hun; exact absurd hun.symm h0
        · exact eqNodeS_same B U G c B' U' G' c' n ns us cur cur' W hn hvn hun hlike hm (hv.on hW) (hu.on hW)
  clear hlike hm hv hu hvn hun
  go_enter Try.func18, Try.ntmps18
  go_wp2_with fail
  refine (HC.out _ S0.below).mono ?_
  rintro e w1 ⟨rfl, hb1⟩
  have S1 := S0.on hb1
  clear S0
  go_wp2
  go_ret
  exact ⟨rfl, S1.below⟩
set_option maxHeartbeats 2000000 in
theorem markChain_any (B U : Nat) (A : Option Addr) (c n : Nat) (ns : List Nd) (k : Int) (w : World) (hR : ResN w B U A ns) (hl : ns.length = n) (hm : SmallN ns) (hn : n ≤ 1048576) (hk0 : 1 ≤ k) (hk : k + wtNs ns ≤ 8388000) :
    Calls Try.prog 21 #[.agg #[.slice A n c], .int .i64 k] w fun e w' => e = .returned (.int .i64 (k + wtNs ns)) ∧ ResN w' B U A (mkNs k ns) ∧ Turn (fun g => B ≤ g ∧ g < U) w w' := by
  have L0 := below_alloc1 w (.cells #[.slice A n c] 24)
  have HC : Hid (∀ W, Below w.heap.size w W → Calls Try.prog 45 #[.slice A n c, .int .i64 k] W fun e w' => e = .returned (.int .i64 (k + wtNs ns)) ∧ ResN w' B U A (mkNs k ns) ∧ Turn (fun g => B ≤ g ∧ g < U) w w') := fun W hW => by
    by_cases h0 : ns = []
    · subst h0
      simp only [List.length_nil] at hl
      subst hl
      exact (markNodeS_nil A c k W).mono fun e w' ⟨h1, h2⟩ => ⟨by rw [h1]; simp [wtNs], .inl rfl, by rw [← h2]; exact .below hW⟩
    · rcases hR with h | ⟨G, cur, rfl, hv⟩
      · exact absurd h h0
      · subst hl
        exact (markNodeS_foot B U G c ns cur k W (hv.on hW) hm hn hk0 hk).mono fun e w' ⟨h1, ⟨cur', h2⟩, h3⟩ => ⟨h1, .inr ⟨G, cur', rfl, h2⟩, Turn.trans (.below hW) ⟨h3.os, h3.tape, h3.output, h3.size, fun i hi hn => h3.block i hi (fun ⟨j, x, hj, hf⟩ => hn (hv.range hj hf))⟩⟩
  clear hR hl hm hk
  go_enter Try.func21, Try.ntmps21
  go_wp2_with fail
  refine (HC.out _ L0).mono ?_
  rintro e w1 ⟨rfl, hb1, hT⟩
  have H1 := hide hb1
  have H2 := hide hT
  clear hb1 hT
  go_wp2
  go_ret
  exact ⟨rfl, H1.out, H2.out⟩
set_option maxHeartbeats 2000000 in
theorem heldChain_any (B U : Nat) (A : Option Addr) (c n : Nat) (ns : List Nd) (k : Int) (w : World) (hR : ResN w B U A (mkNs k ns)) (hl : ns.length = n) (hm : SmallN ns) (hn : n ≤ 1048576) (hk0 : 1 ≤ k) (hk : k + wtNs ns ≤ 8388000) :
    Calls Try.prog 24 #[.agg #[.slice A n c], .int .i64 k] w fun e w' => e = .returned (.int .i64 (k + wtNs ns)) ∧ Below w.heap.size w w' := by
  have L0 := below_alloc1 w (.cells #[.slice A n c] 24)
  have hp : ¬ (k + wtNs ns < 0) := by have := wtNs_pos ns; omega
  have HC : Hid (∀ W, Below w.heap.size w W → Calls Try.prog 48 #[.slice A n c, .int .i64 k] W fun e w' => e = .returned (.int .i64 (k + wtNs ns)) ∧ Below W.heap.size W w') := fun W hW => by
    by_cases h0 : ns = []
    · subst h0
      simp only [List.length_nil] at hl
      subst hl
      exact (heldNodeS_nil A c k W).mono fun e w' ⟨h1, h2⟩ => ⟨by rw [h1]; simp [wtNs], by rw [← h2]; exact Below.refl _ _⟩
    · rcases hR with h | ⟨G, cur, rfl, hv⟩
      · have := mkNs_len k ns
        rw [h] at this
        exact absurd (List.length_eq_zero_iff.1 this.symm) h0
      · subst hl
        exact heldNodeS_any B U G c ns cur k W (hv.on hW) hm hn hk0 hk
  clear hR hl hm hk
  go_enter Try.func24, Try.ntmps24
  go_wp2_with fail
  refine (HC.out _ L0).mono ?_
  rintro e w1 ⟨rfl, hb1⟩
  have H1 := hide (L0.trans (hb1.mono L0.size))
  clear hb1 L0
  go_wp2
  go_ret
  exact ⟨rfl, H1.out⟩
end Go.Proofs.Ytpkoidbenojkmaa
