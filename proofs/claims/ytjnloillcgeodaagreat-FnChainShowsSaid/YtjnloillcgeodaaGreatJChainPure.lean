/- Contracts of StoreTags, of program and model, at every store. Condition: as many versions and tags as a law lets by. -/
import Derived.Test.YtjnloillcgeodaaGreatJStoreAdd
import Derived.Test.YtjnloillcgeodaaGreatJVerClone
import Derived.Test.YtjnloillcgeodaaGreatJVerOk0
namespace Go.Proofs.YtjnloillcgeodaaGreat
open Go.RowKit Go.Joins

theorem Res.turn {P : Nat → Prop} {w w' : World} {B U : Nat} {A : Option Addr} {rs : List (Int × Int)} (h : Res w B U A rs) (ht : Turn P w w') (hp : ∀ g, B ≤ g → g < U → ¬ P g) : Res w' B U A rs := by
  rcases h with h | ⟨g, T, cur, rfl, hB, hU, hb, hs, hc⟩
  · exact .inl h
  · exact .inr ⟨g, T, cur, rfl, hB, hU, hb.turned ht (hp g hB hU), hs, hc⟩
/-- What StoreTags answers. -/
def tagsR (vs : List V) : List (Int × Int) := if storeB vs = true then tagsL vs else []
end Go.Proofs.YtjnloillcgeodaaGreat
/- Stores that a call answers: how such an answer is kept, marked, and the marks found again. -/
namespace Go.Proofs.YtjnloillcgeodaaGreat
open Go.RowKit Go.Joins

/-- A slice of versions that a call has made: none, or in blocks of its own from B on and below U. -/
def ResS (w : World) (B U : Nat) (A : Option Addr) (us : List V) : Prop := us = [] ∨ ∃ G cur, A = some ⟨G, 0, none⟩ ∧ ORow w B U G us cur
theorem ResS.turn {P : Nat → Prop} {w w' : World} {B U : Nat} {A : Option Addr} {us : List V} (h : ResS w B U A us) (ht : Turn P w w') (hp : ∀ g, B ≤ g → g < U → ¬ P g) : ResS w' B U A us := by
  rcases h with h | ⟨G, cur, h1, h2⟩
  · exact .inl h
  · exact .inr ⟨G, cur, h1, h2.turned ht hp⟩
theorem ResS.on {w w' : World} {B U : Nat} {A : Option Addr} {us : List V} (h : ResS w B U A us) (hb : Below w.heap.size w w') : ResS w' B U A us := h.turn (P := fun _ => False) (.below hb) (fun _ _ _ h => h)
theorem ResS.drew {w : World} {B U : Nat} {A : Option Addr} {us : List V} (h : ResS w B U A us) : ResS w.drew B U A us := h.on (Below.refl _ _).drew
theorem ResS.alloc {w : World} {B U : Nat} {A : Option Addr} {us : List V} (h : ResS w B U A us) (o : Obj) : ResS (w.alloc o) B U A us := h.on (below_alloc1 w o)
theorem ResS.set {w : World} {B U : Nat} {A : Option Addr} {us : List V} (h : ResS w B U A us) {p : Addr} (hp : p.block < B ∨ U ≤ p.block) (u : Value) : ResS (w.setCell p u) B U A us :=
  h.turn (P := fun g => g = p.block) ((Turn.refl (fun g => g = p.block) w).set (p := p) rfl u) (fun g h1 h2 e => by omega)
theorem ResS.swap {w : World} {B U : Nat} {A : Option Addr} {us : List V} {o o' : Obj} (h : ResS (w.alloc o) B U A us) (hU : U ≤ w.heap.size) : ResS (w.alloc o') B U A us := by
  have ht : Turn (fun g => g = w.heap.size) (w.alloc o) (w.alloc o') := ⟨rfl, rfl, rfl, by simp, fun k hk hn => by
    have hk' : k < w.heap.size := by simp at hk; omega
    rw [Below.heap_alloc w o' k hk', Below.heap_alloc w o k hk']⟩
  exact h.turn ht (fun g h1 h2 e => by omega)
theorem ResS.vg {w : World} {B U : Nat} {A : Option Addr} {us : List V} (h : ResS w B U A us) : Vg w w.heap.size A us := by
  rcases h with h | ⟨G, cur, rfl, h2⟩
  · exact .inl h
  · exact h2.vg
/-- Few versions, of few causes each. -/
def Few (us : List V) : Prop := us.length ≤ 4 ∧ ∀ v ∈ us, v.ts.length ≤ 4
theorem few_wts : ∀ (us : List V), (∀ v ∈ us, v.ts.length ≤ 4) → wts us ≤ 13 * (us.length : Int)
  | [], _ => by simp [wts]
  | v :: r, h => by
    have h1 := few_wts r (fun x hx => h x (List.mem_cons_of_mem _ hx))
    have h2 := h v (List.mem_cons_self ..)
    unfold wts at *
    simp [wt] at *
    omega
theorem Few.wts {us : List V} (h : Few us) : wts us ≤ 52 := by
  have := few_wts us h.2
  have := h.1
  omega
theorem few_store {vs : List V} (h : storeB vs = true) : Few vs := by
  refine ⟨Nat.le_of_eq (storeB_four h), fun v hv => ?_⟩
  obtain ⟨i, hi⟩ := List.getElem?_of_mem hv
  apply Classical.byContradiction
  intro hn
  have hs : slotB i v = false := by
    have h1 : noneC v.k v.t v.u v.ts.length v.s v.g = false := noneC_f (.inr (.inr (.inl (by omega))))
    have h2 : verB v.k v.t v.u v.ts v.s v.g = false := by
      cases hb : pastB v.ts with
      | false => exact verB_f (.inr (.inr (.inr (.inr (.inr (.inl hb))))))
      | true =>
        have := pastB_four hb
        omega
    exact slotB_bad h1 h2
  rw [storeB_bad hi hs] at h
  cases h
/-- What marking an answer leaves. -/
def MarkedRS (w : World) (B U : Nat) (A : Option Addr) (us : List V) (k : Int) (e : Ending) (w' : World) : Prop :=
  e = .returned (.int .i64 (k + wts us)) ∧ ResS w' B U A (mkVs k us) ∧ Turn (fun g => B ≤ g ∧ g < U) w w'
end Go.Proofs.YtjnloillcgeodaaGreat
/- Rows of nodes in memory of their own: each node two rows of versions; how they are compared, marked, and the marks found again. Condition: what is said of each. -/
namespace Go.Proofs.YtjnloillcgeodaaGreat
open Go.RowKit Go.Joins
attribute [local go_sem ↓] Go.wp_at_zero Go.wp_at_succ

/-- The blocks of a slice of versions. -/
def FootS (A : Option Addr) (us : List V) (g : Nat) : Prop := us ≠ [] ∧ ∃ G, A = some ⟨G, 0, none⟩ ∧ Foot G us g
theorem ORow.turnF {P : Nat → Prop} {w w' : World} {B U G : Nat} {vs : List V} {cur : Array Value} (h : ORow w B U G vs cur) (ht : Turn P w w') (hp : ∀ g, Foot G vs g → ¬ P g) : ORow w' B U G vs cur :=
  ⟨h.blk.turned ht (hp G (.inl rfl)), h.lo, h.hi, h.size, h.at', fun i v hi => (h.own i v hi).turned ht (fun g hg _ _ hne => hp g (.inr ⟨i, v, hi, hne, hg⟩)), h.apart⟩
theorem ResS.turnF {P : Nat → Prop} {w w' : World} {B U : Nat} {A : Option Addr} {us : List V} (h : ResS w B U A us) (ht : Turn P w w') (hp : ∀ g, FootS A us g → ¬ P g) : ResS w' B U A us := by
  by_cases h0 : us = []
  · exact .inl h0
  · rcases h with h | ⟨G, cur, rfl, hO⟩
    · exact .inl h
    · exact .inr ⟨G, cur, rfl, hO.turnF ht (fun g hg => hp g ⟨h0, G, rfl, hg⟩)⟩
/-- What marking a slice of versions leaves: only its own blocks have turned. -/
def MarkedSF (w : World) (B U : Nat) (A : Option Addr) (us : List V) (k : Int) (e : Ending) (w' : World) : Prop :=
  e = .returned (.int .i64 (k + wts us)) ∧ ResS w' B U A (mkVs k us) ∧ Turn (FootS A us) w w'
/-- A node as it lies in memory: its store, and what waits. -/
structure Nd where
  sa : Option Addr
  sc : Nat
  ss : List V
  wa : Option Addr
  wc : Nat
  ws : List V
/-- The two cells of the node at place i of a row of cells. -/
def NdAt (cur : Array Value) (i : Nat) (n : Nd) : Prop := cur[i * 2]? = some (.slice n.sa n.ss.length n.sc) ∧ cur[i * 2 + 1]? = some (.slice n.wa n.ws.length n.wc)
/-- Two nodes say the same. -/
def Nd.like (n n' : Nd) : Prop := n.ss.length = n'.ss.length ∧ Like n.ss n'.ss ∧ n.ws.length = n'.ws.length ∧ Like n.ws n'.ws
def FootN (n : Nd) (g : Nat) : Prop := FootS n.sa n.ss g ∨ FootS n.wa n.ws g
/-- A row of nodes in a block of its own, the rows of each node in others. -/
structure NRow (w : World) (B U G : Nat) (ns : List Nd) (cur : Array Value) : Prop where
  blk : Blk w G 37 cur
  lo : B ≤ G
  hi : G < U
  size : ns.length * 2 ≤ cur.size
  at' : ∀ (i : Nat) n, ns[i]? = some n → NdAt cur i n
  store : ∀ (i : Nat) n, ns[i]? = some n → ResS w B U n.sa n.ss
  wait : ∀ (i : Nat) n, ns[i]? = some n → ResS w B U n.wa n.ws
  two : ∀ (i : Nat) n, ns[i]? = some n → ∀ g, FootS n.sa n.ss g → ¬ FootS n.wa n.ws g
  apart : ∀ (i j : Nat) n n', i ≠ j → ns[i]? = some n → ns[j]? = some n' → ∀ g, FootN n g → ¬ FootN n' g
theorem node_ne_ver : (37 : TypeId) ≠ 51 := by decide
theorem node_ne_tag : (37 : TypeId) ≠ 49 := by decide
theorem ResS.typed {w : World} {B U : Nat} {A : Option Addr} {us : List V} (h : ResS w B U A us) {g : Nat} (hg : FootS A us g) : ∃ T cs, Blk w g T cs ∧ T ≠ 37 ∧ B ≤ g ∧ g < U := by
  obtain ⟨h0, G, rfl, hf⟩ := hg
  rcases h with h | ⟨G', cur, e, hO⟩
  · exact absurd h h0
  · injection e with e
    injection e with e
    subst e
    have hr := hO.foot hf
    rcases hf with rfl | ⟨i, v, hi, hn, ha⟩
    · exact ⟨_, _, hO.blk, (fun e => node_ne_ver e.symm), hr⟩
    · rcases hO.own i v hi with q | ⟨g', c', e1, q1, q2, q3, _⟩
      · exact absurd q hn
      · rw [e1] at ha
        injection ha with ha
        injection ha with ha
        subst ha
        exact ⟨_, _, q3, (fun e => node_ne_tag e.symm), hr⟩
/-- How many marks nodes bear. -/
def wtN (n : Nd) : Int := wts n.ss + wts n.ws
def wtNs (ns : List Nd) : Int := (ns.map wtN).sum
def mkN (k : Int) (n : Nd) : Nd := ⟨n.sa, n.sc, mkVs k n.ss, n.wa, n.wc, mkVs (k + wts n.ss) n.ws⟩
def mkNs : Int → List Nd → List Nd
  | _, [] => []
  | k, n :: r => mkN k n :: mkNs (k + wtN n) r
end Go.Proofs.YtjnloillcgeodaaGreat
/- How rows of nodes and chains are marked, and the marks found again. Condition: what is said of each. -/
namespace Go.Proofs.YtjnloillcgeodaaGreat
open Go.RowKit Go.Joins
attribute [local go_sem ↓] Go.wp_at_zero Go.wp_at_succ

theorem NRow.turned {P : Nat → Prop} {w w' : World} {B U G : Nat} {ns : List Nd} {cur : Array Value} (h : NRow w B U G ns cur) (ht : Turn P w w') (hg : ¬ P G) (hp : ∀ (i : Nat) n, ns[i]? = some n → ∀ g, FootN n g → ¬ P g) : NRow w' B U G ns cur :=
  ⟨h.blk.turned ht hg, h.lo, h.hi, h.size, h.at', fun i n hi => (h.store i n hi).turnF ht (fun g hf => hp i n hi g (.inl hf)), fun i n hi => (h.wait i n hi).turnF ht (fun g hf => hp i n hi g (.inr hf)), h.two, h.apart⟩
theorem NRow.on {w w' : World} {B U G : Nat} {ns : List Nd} {cur : Array Value} (h : NRow w B U G ns cur) (hb : Below w.heap.size w w') : NRow w' B U G ns cur := h.turned (P := fun _ => False) (.below hb) (fun h => h) (fun _ _ _ _ _ h => h)
/-- The blocks of a row of nodes. -/
def FootNs (ns : List Nd) (g : Nat) : Prop := ∃ (i : Nat) (n : Nd), ns[i]? = some n ∧ FootN n g
/-- Nodes of few versions. -/
def SmallN (ns : List Nd) : Prop := ∀ n ∈ ns, n.ss.length ≤ 1048576 ∧ n.ws.length ≤ 1048576 ∧ (∀ v ∈ n.ss, v.ts.length ≤ 1048576) ∧ ∀ v ∈ n.ws, v.ts.length ≤ 1048576
def MarkedNF (w : World) (B U G : Nat) (ns : List Nd) (k : Int) (e : Ending) (w' : World) : Prop :=
  e = .returned (.int .i64 (k + wtNs ns)) ∧ (∃ cur, NRow w' B U G (mkNs k ns) cur) ∧ Turn (FootNs ns) w w'

end Go.Proofs.YtjnloillcgeodaaGreat
/- Whether two nodes, two rows of nodes, two chains are the same; marks on chains. Condition: what is said of each. -/
namespace Go.Proofs.YtjnloillcgeodaaGreat
open Go.RowKit Go.Joins
attribute [local go_sem ↓] Go.wp_at_zero Go.wp_at_succ

end Go.Proofs.YtjnloillcgeodaaGreat
/- Contracts of the making of an empty store, in the program and in the model. No condition. -/
namespace Go.Proofs.YtjnloillcgeodaaGreat
open Go.RowKit Go.Joins

/-- No version. -/
def v0 : V := ⟨0, 0, 0, none, 0, [], ⟨#[]⟩, false⟩
abbrev zero24 : Array Value := #[.int .i64 0, .int .i64 0, .int .i64 0, .slice none 0 0, .string ⟨#[]⟩, .bool false, .int .i64 0, .int .i64 0, .int .i64 0, .slice none 0 0, .string ⟨#[]⟩, .bool false, .int .i64 0, .int .i64 0, .int .i64 0, .slice none 0 0, .string ⟨#[]⟩, .bool false, .int .i64 0, .int .i64 0, .int .i64 0, .slice none 0 0, .string ⟨#[]⟩, .bool false]
theorem zero24_at : ∀ (i : Nat) (v : V), [v0, v0, v0, v0][i]? = some v → VerAt zero24 i v := by
  intro i v h
  match i with
  | 0 => simp at h; subst h; exact ⟨rfl, rfl, rfl, rfl, rfl, rfl⟩
  | 1 => simp at h; subst h; exact ⟨rfl, rfl, rfl, rfl, rfl, rfl⟩
  | 2 => simp at h; subst h; exact ⟨rfl, rfl, rfl, rfl, rfl, rfl⟩
  | 3 => simp at h; subst h; exact ⟨rfl, rfl, rfl, rfl, rfl, rfl⟩
  | n + 4 => simp at h
theorem v0_mem {v : V} {i : Nat} (h : [v0, v0, v0, v0][i]? = some v) : v = v0 := by
  have := List.mem_of_getElem? h
  simpa using this
/-- What StoreNew leaves. -/
def NewSt (w : World) (e : Ending) (w' : World) : Prop :=
  ∃ g : Nat, e = .returned (.agg #[.slice (some ⟨g, 0, none⟩) 4 4]) ∧ w.heap.size ≤ g ∧ Blk w' g 51 zero24 ∧ Below w.heap.size w w'
set_option maxRecDepth 100000 in
set_option maxHeartbeats 1000000 in
theorem l2New_any (w : World) : Calls Tryz.prog 120 #[] w (NewSt w) := by
  have hmk : ∀ W : World, (Instr.makeSlice 33 (.int .i64 4) (.int .i64 4)).run Tryz.prog W = .ok (.slice (some ⟨W.heap.size, 0, none⟩) 4 4) (W.alloc (.cells zero24 51)) := fun _ => by kernel_rfl
  go_enter Tryz.func120, Tryz.ntmps120
  go_wp2
  refine bodyPost_ret (v := .agg #[.slice (some ⟨w.heap.size + 1, 0, none⟩) 4 4]) (by simp [results, Tryz.results120, go_sem]) rfl ?_
  have B0 := Blk.made (w.alloc (.cells #[.slice (some ⟨w.heap.size + 1, 0, none⟩) 4 4] 35)) 51 zero24
  simp only [World.size_alloc] at B0
  exact ⟨w.heap.size + 1, rfl, Nat.le_succ _, B0, below_alloc2 _ _ _⟩
end Go.Proofs.YtjnloillcgeodaaGreat
/- Contracts of ChainNew, in the program and in the model. No condition. -/
namespace Go.Proofs.YtjnloillcgeodaaGreat
open Go.RowKit Go.Joins
attribute [local go_sem ↓] Go.wp_at_zero Go.wp_at_succ

/-- The cells of a new node whose store lies in block g. -/
def cells2 (g : Nat) : List Value := [.slice (some ⟨g, 0, none⟩) 4 4, .slice none 0 0]
def flat2 (gs : List Nat) : List Value := gs.flatMap cells2
def nd0 (g : Nat) : Nd := ⟨some ⟨g, 0, none⟩, 4, [v0, v0, v0, v0], none, 0, []⟩
theorem flat2_snoc (gs : List Nat) (g : Nat) : flat2 (gs ++ [g]) = flat2 gs ++ cells2 g := by simp [flat2]
theorem flat2_at : ∀ (gs : List Nat) (i g m : Nat), gs[i]? = some g → m < 2 → (flat2 gs)[i * 2 + m]? = (cells2 g)[m]?
  | [], i, v, m, h, _ => by simp at h
  | x :: r, 0, v, m, h, hm => by
    simp at h
    subst h
    have e : flat2 (x :: r) = cells2 x ++ flat2 r := by simp [flat2]
    rw [e, Nat.zero_mul, Nat.zero_add, List.getElem?_append_left (by simp [cells2]; omega)]
  | x :: r, i + 1, v, m, h, hm => by
    have e : flat2 (x :: r) = cells2 x ++ flat2 r := by simp [flat2]
    have h6 : (cells2 x).length = 2 := rfl
    rw [e, List.getElem?_append_right (by omega), h6]
    have : (i + 1) * 2 + m - 2 = i * 2 + m := by omega
    rw [this]
    exact flat2_at r i v m (by simpa using h) hm
theorem ndAt_of {cur : Array Value} {gs : List Nat} {n : Nat} (h : cur.toList.take n = flat2 gs) (i g : Nat) (hi : gs[i]? = some g) : NdAt cur i (nd0 g) := by
  have key : ∀ m, m < 2 → cur[i * 2 + m]? = (cells2 g)[m]? := by
    intro m hm
    have h1 := flat2_at gs i g m hi hm
    rw [← h] at h1
    have h2 : ∃ u, (cells2 g)[m]? = some u := ⟨_, List.getElem?_eq_getElem (by simp [cells2]; omega)⟩
    obtain ⟨u, hu⟩ := h2
    rw [hu] at h1 ⊢
    obtain ⟨hl, _⟩ := List.getElem?_eq_some_iff.1 h1
    rw [List.length_take] at hl
    rw [List.getElem?_take_of_lt (by omega)] at h1
    simpa using h1
  exact ⟨key 0 (by omega), key 1 (by omega)⟩
theorem node_info : (Tryz.prog.info? 37).map (fun i => (i.zero, i.size, i.bytes)) = some (some (.agg #[.slice none 0 0, .slice none 0 0]), 2, 48) := by kernel_rfl

/-- A row of new nodes as it grows. -/
structure NwRow (base : Nat) (wr : World) (x : Value) (gs : List Nat) : Prop where
  row : wr.ownsRow base 37 2 x gs.length (flat2 gs)
  own : ∀ (i g : Nat), gs[i]? = some g → Blk wr g 51 zero24 ∧ base ≤ g
  apart : ∀ (i j g g' : Nat), i ≠ j → gs[i]? = some g → gs[j]? = some g' → g ≠ g'
  lo : base ≤ wr.heap.size
theorem NwRow.start (base : Nat) (w : World) (h : base ≤ w.heap.size) : NwRow base w (.slice none 0 0) [] :=
  ⟨World.ownsRow_nil _ _ _ _, fun i v h => by simp at h, fun i j v v' _ h => by simp at h, h⟩
theorem NwRow.typed {base : Nat} {wr : World} {x : Value} {us : List Nat} (h : NwRow base wr x us) (r : Nat) (hr : x.ownBlock = some r) : ∃ cs, Blk wr r 37 cs ∧ base ≤ r ∧ r < wr.heap.size := by
  rcases h.row.2 with ⟨rfl, _⟩ | ⟨g', cap, cr, rfl, hg', hb', _⟩
  · simp [Value.ownBlock] at hr
  · simp [Value.ownBlock] at hr
    subst hr
    exact ⟨cr, hb', hg', Blk.inside hb'⟩
theorem NwRow.form {base : Nat} {wr : World} {x : Value} {us : List Nat} (h : NwRow base wr x us) : ∃ A n c, x = .slice A n c := by
  rcases h.row.2 with ⟨rfl, _⟩ | ⟨g', cap, cr, rfl, hg', hb', _⟩
  · exact ⟨_, _, _, rfl⟩
  · exact ⟨_, _, _, rfl⟩
theorem NwRow.on {base : Nat} {wr w2 : World} {x : Value} {us : List Nat} (h : NwRow base wr x us) (hb : Below wr.heap.size wr w2) : NwRow base w2 x us :=
  ⟨World.ownsRow.kept h.row (grown_none (row := none) hb) (Classical.em _), fun i v hi => ⟨(h.own i v hi).1.on hb, (h.own i v hi).2⟩, h.apart, Nat.le_trans h.lo hb.size⟩
theorem NwRow.aside {base : Nat} {wr : World} {x : Value} {us : List Nat} (h : NwRow base wr x us) {p : Addr} (hp : p.block < base) (u : Value) : NwRow base (wr.setCell p u) x us :=
  ⟨ownsRow_setCell_below h.row hp u, fun i v hi => ⟨(h.own i v hi).1.aside (by have := (h.own i v hi).2; omega) u, (h.own i v hi).2⟩, h.apart, by simpa [World.setCell] using h.lo⟩
theorem NwRow.down {base base' : Nat} {wr : World} {x : Value} {us : List Nat} (h : NwRow base wr x us) (hb : base' ≤ base) : NwRow base' wr x us :=
  ⟨⟨h.row.1, by
    rcases h.row.2 with h | ⟨g, cap, cr, h1, h2, h3⟩
    · exact .inl h
    · exact .inr ⟨g, cap, cr, h1, by omega, h3⟩⟩, fun i v hi => ⟨(h.own i v hi).1, by have := (h.own i v hi).2; omega⟩, h.apart, by have := h.lo; omega⟩
/-- One node more. -/
theorem NwRow.push {base : Nat} {wr w1 w2 : World} {x : Value} {us : List Nat} {v g cap : Nat} (h : NwRow base wr x us) (hb : Below wr.heap.size wr w1) (hv : wr.heap.size ≤ v) (ho : Blk w1 v 51 zero24)
    (hown : w2.ownsRow base 37 2 (.slice (some ⟨g, 0, none⟩) (us.length + 1) cap) (us.length + 1) (flat2 us ++ cells2 v)) (hg : w1.grownBy w2 x.ownBlock) : NwRow base w2 (.slice (some ⟨g, 0, none⟩) (us.length + 1) cap) (us ++ [v]) := by
  have hk : ∀ y, Blk w1 y 51 zero24 → Blk w2 y 51 zero24 := fun y hy => hy.kept hg (fun e => by
    obtain ⟨cs, h1, _⟩ := h.typed y e
    exact node_ne_ver (blk_one (h1.on hb) hy))
  have zb := h.lo
  have z1 := hb.size
  have z2 := hg.size
  have hget : ∀ (i : Nat) y, (us ++ [v])[i]? = some y → (i = us.length ∧ y = v) ∨ (i < us.length ∧ us[i]? = some y) := by
    intro i y hy
    by_cases e : i < us.length
    · rw [List.getElem?_append_left e] at hy
      exact .inr ⟨e, hy⟩
    · rw [List.getElem?_append_right (by omega)] at hy
      have h0 : i - us.length = 0 := by
        have := (List.getElem?_eq_some_iff.1 hy).1
        simp at this
        omega
      rw [h0] at hy
      simp at hy
      exact .inl ⟨by omega, hy.symm⟩
  have hap : ∀ (i : Nat) y, us[i]? = some y → y ≠ v := fun i y hy => by have := (h.own i y hy).1.inside; omega
  refine ⟨by simpa [flat2_snoc] using hown, fun i y hy => ?_, fun i j y y' hne hy hy' => ?_, by omega⟩
  · rcases hget i y hy with ⟨rfl, rfl⟩ | ⟨_, hy⟩
    · exact ⟨hk _ ho, by omega⟩
    · exact ⟨hk _ ((h.own i y hy).1.on hb), (h.own i y hy).2⟩
  · rcases hget i y hy with ⟨e1, e2⟩ | ⟨e, hq⟩ <;> rcases hget j y' hy' with ⟨e3, e4⟩ | ⟨e', hq'⟩
    · omega
    · rw [e2]; exact fun e => hap j y' hq' e.symm
    · rw [e4]; exact hap i y hq
    · exact h.apart i j y y' hne hq hq'
theorem foot0 {g h : Nat} (hf : FootN (nd0 g) h) : h = g := by
  rcases hf with ⟨_, G, e, hf⟩ | ⟨h0, _⟩
  · simp only [nd0] at e hf
    injection e with e
    injection e with e
    subst e
    rcases hf with hf | ⟨i, v, hi, hn, _⟩
    · exact hf
    · rw [v0_mem hi] at hn
      exact absurd rfl hn
  · exact absurd rfl h0
theorem NwRow.res {base : Nat} {wr : World} {A : Option Addr} {n c : Nat} {gs : List Nat} (h : NwRow base wr (.slice A n c) gs) : n = gs.length ∧ (gs = [] ∨ ∃ G cur, A = some ⟨G, 0, none⟩ ∧ NRow wr base wr.heap.size G (gs.map nd0) cur) := by
  have hget : ∀ (i : Nat) y, (gs.map nd0)[i]? = some y → ∃ g, gs[i]? = some g ∧ y = nd0 g := by
    intro i y hy
    rw [List.getElem?_map] at hy
    cases hx : gs[i]? with
    | none => rw [hx] at hy; cases hy
    | some x =>
      rw [hx] at hy
      simp only [Option.map_some] at hy
      injection hy with hy
      exact ⟨x, rfl, hy.symm⟩
  rcases h.row.2 with ⟨e0, e⟩ | ⟨g', cap, cr, e0, hg', hb', hn, hm, hs, ht⟩
  · injection e0 with _ e1 _
    exact ⟨by omega, .inl (List.length_eq_zero_iff.1 (by omega))⟩
  · injection e0 with e0 e1 e2
    subst e0 e1 e2
    refine ⟨rfl, .inr ⟨g', cr, rfl, hb', hg', Blk.inside hb', by rw [List.length_map]; omega, ?_, ?_, ?_, ?_, ?_⟩⟩
    · intro i y hy
      obtain ⟨g, hg, rfl⟩ := hget i y hy
      exact ndAt_of ht i g hg
    · intro i y hy
      obtain ⟨g, hg, rfl⟩ := hget i y hy
      have ho := h.own i g hg
      exact .inr ⟨g, zero24, rfl, ho.1, ho.2, ho.1.inside, by simp [nd0], zero24_at, fun i v hi => .inl (by rw [v0_mem hi]; rfl), fun i j v v' _ hi _ hn => by rw [v0_mem hi] at hn; exact absurd rfl hn⟩
    · intro i y hy
      obtain ⟨g, hg, rfl⟩ := hget i y hy
      exact .inl rfl
    · intro i y hy g h1 h2
      obtain ⟨g, hg, rfl⟩ := hget i y hy
      exact absurd rfl h2.1
    · intro i j y y' hne hy hy' x h1 h2
      obtain ⟨g, hg, rfl⟩ := hget i y hy
      obtain ⟨g', hg', rfl⟩ := hget j y' hy'
      exact h.apart i j g g' hne hg hg' ((foot0 h1).symm.trans (foot0 h2))

/-- How many nodes a new chain has. -/
def chN (n : Int) : Nat := if 1 ≤ n ∧ n ≤ 4 then n.toNat else 0
/-- A new chain as a call has made it. -/
def ResC (w : World) (B U : Nat) (A : Option Addr) (gs : List Nat) : Prop := gs = [] ∨ ∃ G cur, A = some ⟨G, 0, none⟩ ∧ NRow w B U G (gs.map nd0) cur
def NewC (w : World) (n : Int) (e : Ending) (w' : World) : Prop :=
  ∃ (A : Option Addr) (cap : Nat) (gs : List Nat), e = .returned (.agg #[.slice A (chN n) cap]) ∧ gs.length = chN n ∧ ResC w' w.heap.size w'.heap.size A gs ∧ Below w.heap.size w w'

def NewR (w : World) (n : Int) (e : Ending) (w' : World) : Prop :=
  ∃ (x : Value) (gs : List Nat), e = .returned (.agg #[x]) ∧ gs.length = chN n ∧ NwRow w.heap.size w' x gs ∧ Below w.heap.size w w'

set_option maxRecDepth 100000 in
set_option maxHeartbeats 8000000 in
theorem specChainNewR_any (n : Int) (w : World) : Calls Tryz.prog 85 #[.int .i64 n] w (NewR w n) := by
  obtain ⟨i0, hi0, hz0, hz1, hz2⟩ := info_parts node_info
  have I0 := hide hi0
  have I1 := hide hz0
  have I2 := hide hz1
  have I3 := hide hz2
  clear hi0 hz0 hz1 hz2
  by_cases h12 : 1 ≤ n ∧ n ≤ 4
  rotate_left
  · have HC : Hid (chN n = 0) := by unfold Hid chN; rw [if_neg h12]
    have HD := hide (decide_eq_false h12)
    have S0 := (Inv.start w).box 25 #[.slice none 0 0]
    have S1 := S0.box 25 #[.slice none 0 0]
    simp only [World.size_alloc] at S1
    clear S0
    go_enter Tryz.func85, Tryz.ntmps85
    go_wp2_with fail
    refine (l1In_any n 1 4 _).mono ?_
    rw [HD.out]
    rintro e w1 ⟨rfl, rfl⟩
    go_wp2
    refine bodyPost_ret (v := .agg #[.slice none 0 0]) (by simp [results, Tryz.results85, go_sem]) rfl ?_
    exact ⟨_, [], rfl, HC.out.symm, NwRow.start _ _ (below_alloc2 _ _ _).size, below_alloc2 _ _ _⟩
  · obtain ⟨m, rfl⟩ : ∃ m : Nat, n = (m : Int) := ⟨n.toNat, by omega⟩
    have HC : Hid (chN (m : Int) = m) := by unfold Hid chN; rw [if_pos (by omega)]; simp
    have hm4 : m ≤ 4 := by omega
    have S0 := (Inv.start w).box 25 #[.slice none 0 0]
    have V0 := Blk.made (w.alloc (.cells #[.slice none 0 0] 25)) 25 #[.slice none 0 0]
    have S1 := S0.alloc (.cells #[.slice none 0 0] 25)
    simp only [World.size_alloc] at S1 V0
    have HC0 := hide (NwRow.start (w.heap.size + 1 + 1) ((w.alloc (.cells #[.slice none 0 0] 25)).alloc (.cells #[.slice none 0 0] 25)) (by simp))
    clear S0
    have HD := hide (decide_eq_true h12)
    go_enter Tryz.func85, Tryz.ntmps85
    go_wp2_with fail
    refine (l1In_any (m : Int) 1 4 _).mono ?_
    rw [HD.out]
    rintro e w1 ⟨rfl, rfl⟩
    go_wp2
    go_loopw [4] (fun i wr => ∃ (k : Nat) (x : Value) (us : List Nat), k ≤ m ∧ i = .int .i64 (k : Int) ∧ Blk wr (w.heap.size + 1) 25 #[x] ∧ Hid (us.length = k) ∧ Hid (NwRow (w.heap.size + 1 + 1) wr x us) ∧ Inv w (w.heap.size + 1) [(w.heap.size, 25, #[.slice none 0 0])] wr) (fun i _ => m - (intOf i).toNat)
    case atStart => exact ⟨0, _, [], Nat.zero_le _, rfl, V0, rfl, HC0.out, S1⟩
    case round =>
      obtain ⟨k, x, us, hk, rfl, hV, HU, HCC, hI⟩ := hrel
      clear S1 V0 HC0
      by_cases hlt : k < m
      · have i2 : (k : Int) < (m : Int) := by omega
        obtain ⟨xa, xn, xc, rfl⟩ := HCC.out.form
        have HV := hide (HCC.out.typed)
        have hlo := HCC.out.lo
        have V1 := hV.drew
        have q1 := V1.one.1
        have C1 := hide (HCC.out.on (Below.refl _ _).drew)
        go_wp2_with fail
        refine wp_region_noPanic ?_
        refine wp_region_held_drew (S := (fun w' => Inv w (w.heap.size + 1) [(w.heap.size, 25, #[.slice none 0 0])] w')) (by kernel_rfl) (by exact hI.drew) (fun hHeld => ?_)
        refine take_run 0 (some 15) (v := ?_) rfl rfl (by kernel_rfl) (by kernel_rfl) (by kernel_rfl) (fun _ _ _ h => h) (by rfl) ?_ hHeld ?_
        rotate_left
        · ((intro w hSw); (try dsimp only at hSw); go_simp <;> with_reducible rfl)
        simp only [Act.put, List.setIfInBounds_toArray, List.set_cons_zero, List.set_cons_succ]
        refine wpAnyH_ready (rs := [1, 2]) (by kernel_rfl) (by simp) ?_
        refine AllReadyH.cons rfl (fun K hK => ?_) (AllReadyH.cons rfl (fun K hK => ?_) AllReadyH.nil)
        · skip
          go_simp
          refine hK.out _ _ (by exact hHeld) (fun hHeld => ?_)
          clear hK K
          refine take_one 2 (by kernel_rfl) rfl (fun K hK => ?_)
          go_simp
          (refine (l2New_any _).mono ?_; rintro e w1 ⟨g1, rfl, hg1, hB1, hb1⟩; have C2 := hide (C1.out.on hb1); have V2 := V1.on hb1; have HG := hide hB1; have HG1 := hide (show wr.heap.size ≤ g1 by simpa using hg1); have z1 : wr.heap.size ≤ w1.heap.size := (by have := hb1.size; simpa using this); have HR := hide (show w1.ownsRow (w.heap.size + 1 + 1) 37 2 (.slice xa xn xc) k (flat2 us) by have := C2.out.row; rw [HU.out] at this; exact this); have HB1 := hide hb1; have q2 := V2.one.1; have q4 := (V2.more (.cells #[.slice (some ⟨g1, 0, none⟩) 4 4, .slice none 0 0] 37)).one.1)
          try go_wp2_with fail
          refine hK.out _ _ (by exact hHeld.on HB1.out) (fun hHeld => ?_)
          clear hK K
          refine take_run 3 (some 18) (v := ?_) rfl rfl (by kernel_rfl) (by kernel_rfl) (by kernel_rfl) (fun _ _ _ h => h) (by rfl) ?_ hHeld ?_
          rotate_left
          · ((intro w hSw); (try dsimp only at hSw); go_simp <;> with_reducible rfl)
          simp only [Act.put, List.setIfInBounds_toArray, List.set_cons_zero, List.set_cons_succ]
          refine take_one 4 (by kernel_rfl) rfl (fun K hK => ?_)
          go_simp
          refine hK.out _ _ (by exact hHeld.alloc _) (fun hHeld => ?_)
          clear hK K
          refine take_one 5 (by kernel_rfl) rfl (fun K hK => ?_)
          (refine step_append_lies _ (by rfl) _ _ _ (by rfl) (w.heap.size + 1 + 1) 37 i0 _ 2 48 Tryz.underlying23 I0.out I1.out I2.out I3.out rfl (by omega) (.slice xa xn xc) k (flat2 us) (by rfl) (HR.out.alloc _) ⟨w1.heap.size, 0, none⟩ 1 1 (cells2 g1) (by rfl) (by rfl) (World.news_of_block (cs := #[.slice (some ⟨g1, 0, none⟩) 4 4, .slice none 0 0]) (t := 37) (fr := (0, 0)) (heap_alloc_new w1 _)) (by simp [cells2, Value.oneCell']) (by omega) (by unfold maxLen; omega) (by omega) (by simp; omega) _ rfl ?_; intro g cap w2 hown2 hgrow hat hlt2; have V3 := (V2.more (.cells #[.slice (some ⟨g1, 0, none⟩) 4 4, .slice none 0 0] 37)).kept hgrow (by intro e; have hq := HV.out _ e; obtain ⟨_, _, h1, _⟩ := hq; omega); have q3 := V3.one; have OW := hide hown2; have GW := hide hgrow; clear hown2)
          simp only [List.getElem_toArray, List.getElem_cons_zero, List.getElem_cons_succ, Act.put, List.setIfInBounds_toArray, List.set_cons_zero, List.set_cons_succ]
          refine hK.out _ _ (by exact Inv.grow hHeld hgrow (fun g' e => by have hq := HV.out _ e; obtain ⟨_, _, h1, _⟩ := hq; omega)) (fun hHeld => ?_)
          clear hK K
          refine take_run 6 (some 21) (v := ?_) rfl rfl (by kernel_rfl) (by kernel_rfl) (by kernel_rfl) (fun _ _ _ h => h) (by rfl) ?_ hHeld ?_
          rotate_left
          · ((intro w hSw); (try dsimp only at hSw); go_simp <;> with_reducible rfl)
          simp only [Act.put, List.setIfInBounds_toArray, List.set_cons_zero, List.set_cons_succ]
          refine take_one 7 (by kernel_rfl) rfl (fun K hK => ?_)
          go_simp
          refine hK.out _ _ (by exact hHeld.set (by simp) (by simp <;> omega) _) (fun hHeld => ?_)
          clear hK K
          refine wpAnyH_done (by kernel_rfl) ?_ _
          refine NoPanic.normal ?_
          have I9 := hHeld
          have C9 := HCC.out.push (w1 := w1.alloc (.cells #[.slice (some ⟨g1, 0, none⟩) 4 4, .slice none 0 0] 37)) (v := g1) (g := g) (cap := cap) (w2 := w2) (((Below.refl _ _).drew.trans (HB1.out.mono (Nat.le_refl _))).trans ((below_alloc1 w1 _).mono z1)) HG1.out (HG.out.more _) (by rw [HU.out]; exact OW.out) GW.out
          rw [HU.out] at C9
          have C10 := hide (C9.aside (p := ⟨w.heap.size + 1, 0, none⟩) (by simp only; omega) (.slice (some ⟨g, 0, none⟩) (k + 1) cap))
          have V9 := V3.put 0 (.slice (some ⟨g, 0, none⟩) (k + 1) cap)
          have HU9 : Hid ((us ++ [g1]).length = k + 1) := (by unfold Hid; rw [List.length_append, HU.out]; rfl)
          clear hHeld V3 q3 q1 q2 q4 V1 V2 C9 C1 C2 HCC
          go_wp2
          exact ⟨⟨k + 1, _, _, by omega, by go_num, V9, HU9, C10, I9⟩, by simp [intOf]; omega⟩
        · skip
          go_simp
          (refine (l2New_any _).mono ?_; rintro e w1 ⟨g1, rfl, hg1, hB1, hb1⟩; have C2 := hide (C1.out.on hb1); have V2 := V1.on hb1; have HG := hide hB1; have HG1 := hide (show wr.heap.size ≤ g1 by simpa using hg1); have z1 : wr.heap.size ≤ w1.heap.size := (by have := hb1.size; simpa using this); have HR := hide (show w1.ownsRow (w.heap.size + 1 + 1) 37 2 (.slice xa xn xc) k (flat2 us) by have := C2.out.row; rw [HU.out] at this; exact this); have HB1 := hide hb1; have q2 := V2.one.1; have q4 := (V2.more (.cells #[.slice (some ⟨g1, 0, none⟩) 4 4, .slice none 0 0] 37)).one.1)
          try go_wp2_with fail
          refine hK.out _ _ (by exact hHeld.on HB1.out) (fun hHeld => ?_)
          clear hK K
          refine take_run 3 (some 18) (v := ?_) rfl rfl (by kernel_rfl) (by kernel_rfl) (by kernel_rfl) (fun _ _ _ h => h) (by rfl) ?_ hHeld ?_
          rotate_left
          · ((intro w hSw); (try dsimp only at hSw); go_simp <;> with_reducible rfl)
          simp only [Act.put, List.setIfInBounds_toArray, List.set_cons_zero, List.set_cons_succ]
          refine wpAnyH_ready (rs := [1, 4]) (by kernel_rfl) (by simp) ?_
          refine AllReadyH.cons rfl (fun K hK => ?_) (AllReadyH.cons rfl (fun K hK => ?_) AllReadyH.nil)
          · skip
            go_simp
            refine hK.out _ _ (by exact hHeld) (fun hHeld => ?_)
            clear hK K
            refine take_one 4 (by kernel_rfl) rfl (fun K hK => ?_)
            go_simp
            refine hK.out _ _ (by exact hHeld.alloc _) (fun hHeld => ?_)
            clear hK K
            refine take_one 5 (by kernel_rfl) rfl (fun K hK => ?_)
            (refine step_append_lies _ (by rfl) _ _ _ (by rfl) (w.heap.size + 1 + 1) 37 i0 _ 2 48 Tryz.underlying23 I0.out I1.out I2.out I3.out rfl (by omega) (.slice xa xn xc) k (flat2 us) (by rfl) (HR.out.alloc _) ⟨w1.heap.size, 0, none⟩ 1 1 (cells2 g1) (by rfl) (by rfl) (World.news_of_block (cs := #[.slice (some ⟨g1, 0, none⟩) 4 4, .slice none 0 0]) (t := 37) (fr := (0, 0)) (heap_alloc_new w1 _)) (by simp [cells2, Value.oneCell']) (by omega) (by unfold maxLen; omega) (by omega) (by simp; omega) _ rfl ?_; intro g cap w2 hown2 hgrow hat hlt2; have V3 := (V2.more (.cells #[.slice (some ⟨g1, 0, none⟩) 4 4, .slice none 0 0] 37)).kept hgrow (by intro e; have hq := HV.out _ e; obtain ⟨_, _, h1, _⟩ := hq; omega); have q3 := V3.one; have OW := hide hown2; have GW := hide hgrow; clear hown2)
            simp only [List.getElem_toArray, List.getElem_cons_zero, List.getElem_cons_succ, Act.put, List.setIfInBounds_toArray, List.set_cons_zero, List.set_cons_succ]
            refine hK.out _ _ (by exact Inv.grow hHeld hgrow (fun g' e => by have hq := HV.out _ e; obtain ⟨_, _, h1, _⟩ := hq; omega)) (fun hHeld => ?_)
            clear hK K
            refine take_run 6 (some 21) (v := ?_) rfl rfl (by kernel_rfl) (by kernel_rfl) (by kernel_rfl) (fun _ _ _ h => h) (by rfl) ?_ hHeld ?_
            rotate_left
            · ((intro w hSw); (try dsimp only at hSw); go_simp <;> with_reducible rfl)
            simp only [Act.put, List.setIfInBounds_toArray, List.set_cons_zero, List.set_cons_succ]
            refine take_one 7 (by kernel_rfl) rfl (fun K hK => ?_)
            go_simp
            refine hK.out _ _ (by exact hHeld.set (by simp) (by simp <;> omega) _) (fun hHeld => ?_)
            clear hK K
            refine wpAnyH_done (by kernel_rfl) ?_ _
            refine NoPanic.normal ?_
            have I9 := hHeld
            have C9 := HCC.out.push (w1 := w1.alloc (.cells #[.slice (some ⟨g1, 0, none⟩) 4 4, .slice none 0 0] 37)) (v := g1) (g := g) (cap := cap) (w2 := w2) (((Below.refl _ _).drew.trans (HB1.out.mono (Nat.le_refl _))).trans ((below_alloc1 w1 _).mono z1)) HG1.out (HG.out.more _) (by rw [HU.out]; exact OW.out) GW.out
            rw [HU.out] at C9
            have C10 := hide (C9.aside (p := ⟨w.heap.size + 1, 0, none⟩) (by simp only; omega) (.slice (some ⟨g, 0, none⟩) (k + 1) cap))
            have V9 := V3.put 0 (.slice (some ⟨g, 0, none⟩) (k + 1) cap)
            have HU9 : Hid ((us ++ [g1]).length = k + 1) := (by unfold Hid; rw [List.length_append, HU.out]; rfl)
            clear hHeld V3 q3 q1 q2 q4 V1 V2 C9 C1 C2 HCC
            go_wp2
            exact ⟨⟨k + 1, _, _, by omega, by go_num, V9, HU9, C10, I9⟩, by simp [intOf]; omega⟩
          · skip
            go_simp
            refine hK.out _ _ (by exact hHeld.alloc _) (fun hHeld => ?_)
            clear hK K
            refine take_one 1 (by kernel_rfl) rfl (fun K hK => ?_)
            go_simp
            refine hK.out _ _ (by exact hHeld) (fun hHeld => ?_)
            clear hK K
            refine take_one 5 (by kernel_rfl) rfl (fun K hK => ?_)
            (refine step_append_lies _ (by rfl) _ _ _ (by rfl) (w.heap.size + 1 + 1) 37 i0 _ 2 48 Tryz.underlying23 I0.out I1.out I2.out I3.out rfl (by omega) (.slice xa xn xc) k (flat2 us) (by rfl) (HR.out.alloc _) ⟨w1.heap.size, 0, none⟩ 1 1 (cells2 g1) (by rfl) (by rfl) (World.news_of_block (cs := #[.slice (some ⟨g1, 0, none⟩) 4 4, .slice none 0 0]) (t := 37) (fr := (0, 0)) (heap_alloc_new w1 _)) (by simp [cells2, Value.oneCell']) (by omega) (by unfold maxLen; omega) (by omega) (by simp; omega) _ rfl ?_; intro g cap w2 hown2 hgrow hat hlt2; have V3 := (V2.more (.cells #[.slice (some ⟨g1, 0, none⟩) 4 4, .slice none 0 0] 37)).kept hgrow (by intro e; have hq := HV.out _ e; obtain ⟨_, _, h1, _⟩ := hq; omega); have q3 := V3.one; have OW := hide hown2; have GW := hide hgrow; clear hown2)
            simp only [List.getElem_toArray, List.getElem_cons_zero, List.getElem_cons_succ, Act.put, List.setIfInBounds_toArray, List.set_cons_zero, List.set_cons_succ]
            refine hK.out _ _ (by exact Inv.grow hHeld hgrow (fun g' e => by have hq := HV.out _ e; obtain ⟨_, _, h1, _⟩ := hq; omega)) (fun hHeld => ?_)
            clear hK K
            refine take_run 6 (some 21) (v := ?_) rfl rfl (by kernel_rfl) (by kernel_rfl) (by kernel_rfl) (fun _ _ _ h => h) (by rfl) ?_ hHeld ?_
            rotate_left
            · ((intro w hSw); (try dsimp only at hSw); go_simp <;> with_reducible rfl)
            simp only [Act.put, List.setIfInBounds_toArray, List.set_cons_zero, List.set_cons_succ]
            refine take_one 7 (by kernel_rfl) rfl (fun K hK => ?_)
            go_simp
            refine hK.out _ _ (by exact hHeld.set (by simp) (by simp <;> omega) _) (fun hHeld => ?_)
            clear hK K
            refine wpAnyH_done (by kernel_rfl) ?_ _
            refine NoPanic.normal ?_
            have I9 := hHeld
            have C9 := HCC.out.push (w1 := w1.alloc (.cells #[.slice (some ⟨g1, 0, none⟩) 4 4, .slice none 0 0] 37)) (v := g1) (g := g) (cap := cap) (w2 := w2) (((Below.refl _ _).drew.trans (HB1.out.mono (Nat.le_refl _))).trans ((below_alloc1 w1 _).mono z1)) HG1.out (HG.out.more _) (by rw [HU.out]; exact OW.out) GW.out
            rw [HU.out] at C9
            have C10 := hide (C9.aside (p := ⟨w.heap.size + 1, 0, none⟩) (by simp only; omega) (.slice (some ⟨g, 0, none⟩) (k + 1) cap))
            have V9 := V3.put 0 (.slice (some ⟨g, 0, none⟩) (k + 1) cap)
            have HU9 : Hid ((us ++ [g1]).length = k + 1) := (by unfold Hid; rw [List.length_append, HU.out]; rfl)
            clear hHeld V3 q3 q1 q2 q4 V1 V2 C9 C1 C2 HCC
            go_wp2
            exact ⟨⟨k + 1, _, _, by omega, by go_num, V9, HU9, C10, I9⟩, by simp [intOf]; omega⟩
      · have hkn : k = m := by omega
        subst hkn
        clear hlt
        obtain ⟨xa, xn, xc, rfl⟩ := HCC.out.form
        have q0 := hV.one
        have q1 := (hI.nth 0 rfl).one
        have hL := hI.below
        have HF := hide ((HCC.out.aside (p := ⟨w.heap.size, 0, none⟩) (by simp only; omega) (.slice xa xn xc)).down (base' := w.heap.size) (by omega))
        go_wp2
        refine bodyPost_ret (v := .agg #[.slice xa xn xc]) (by simp [results, Tryz.results85, go_sem, q1]) rfl ?_
        exact ⟨_, us, rfl, by rw [HC.out, HU.out], HF.out, hL.setCell (by simp) _⟩
end Go.Proofs.YtjnloillcgeodaaGreat
/- Chains that a call answers: compared, marked, and the marks found again. Condition: what is said of each. -/
namespace Go.Proofs.YtjnloillcgeodaaGreat
open Go.RowKit Go.Joins
attribute [local go_sem ↓] Go.wp_at_zero Go.wp_at_succ

/-- A slice of nodes that a call has made: none, or in blocks of its own from B on and below U. -/
def ResN (w : World) (B U : Nat) (A : Option Addr) (ns : List Nd) : Prop := ns = [] ∨ ∃ G cur, A = some ⟨G, 0, none⟩ ∧ NRow w B U G ns cur
theorem NRow.range {w : World} {B U G : Nat} {ns : List Nd} {cur : Array Value} (h : NRow w B U G ns cur) {i : Nat} {n : Nd} (hi : ns[i]? = some n) {g : Nat} (hf : FootN n g) : B ≤ g ∧ g < U := by
  rcases hf with hf | hf
  · obtain ⟨_, _, _, _, h1⟩ := (h.store i n hi).typed hf
    exact h1
  · obtain ⟨_, _, _, _, h1⟩ := (h.wait i n hi).typed hf
    exact h1
theorem ResN.turn {P : Nat → Prop} {w w' : World} {B U : Nat} {A : Option Addr} {ns : List Nd} (h : ResN w B U A ns) (ht : Turn P w w') (hp : ∀ g, B ≤ g → g < U → ¬ P g) : ResN w' B U A ns := by
  rcases h with h | ⟨G, cur, h1, h2⟩
  · exact .inl h
  · exact .inr ⟨G, cur, h1, h2.turned ht (hp G h2.lo h2.hi) (fun i n hi g hf => hp g (h2.range hi hf).1 (h2.range hi hf).2)⟩
theorem ResN.on {w w' : World} {B U : Nat} {A : Option Addr} {ns : List Nd} (h : ResN w B U A ns) (hb : Below w.heap.size w w') : ResN w' B U A ns := h.turn (P := fun _ => False) (.below hb) (fun _ _ _ h => h)
theorem ResN.alloc {w : World} {B U : Nat} {A : Option Addr} {ns : List Nd} (h : ResN w B U A ns) (o : Obj) : ResN (w.alloc o) B U A ns := h.on (below_alloc1 w o)
theorem ResC.n {w : World} {B U : Nat} {A : Option Addr} {gs : List Nat} (h : ResC w B U A gs) : ResN w B U A (gs.map nd0) := by
  rcases h with h | h
  · exact .inl (by rw [h]; rfl)
  · exact .inr h
end Go.Proofs.YtjnloillcgeodaaGreat
/- Contracts of the program's links: a node at its place in a chain, and the way to the next one. Condition: a chain's nodes, none or from the beginning of a block. -/
namespace Go.Proofs.YtjnloillcgeodaaGreat
open Go.RowKit Go.Joins
attribute [local go_sem ↓] Go.wp_at_zero Go.wp_at_succ

/-- The link of node k as it lies in memory, in blocks from B on. -/
def LinkAt (w : World) (B L : Nat) (A : Option Addr) (G n c k : Nat) : Prop :=
  ∃ b1 b2 : Nat, B ≤ L ∧ B ≤ b1 ∧ B ≤ b2 ∧ Blk w L 76 #[.pointer (some ⟨G, k * 2, none⟩), .func (.func 61) #[] #[.pointer (some ⟨b1, 0, none⟩), .pointer (some ⟨b2, 0, none⟩)]] ∧ Blk w b1 23 #[.slice A n c] ∧ Blk w b2 3 #[.int .i64 (k : Int)]
theorem LinkAt.on {w w' : World} {B L G n c k : Nat} {A : Option Addr} (h : LinkAt w B L A G n c k) (hb : Below w.heap.size w w') : LinkAt w' B L A G n c k := by
  obtain ⟨b1, b2, h1, h2, h3, h4, h5, h6⟩ := h
  exact ⟨b1, b2, h1, h2, h3, h4.on hb, h5.on hb, h6.on hb⟩
theorem LinkAt.low {w : World} {B B' L G n c k : Nat} {A : Option Addr} (h : LinkAt w B L A G n c k) (hb : B' ≤ B) : LinkAt w B' L A G n c k := by
  obtain ⟨b1, b2, h1, h2, h3, h4, h5, h6⟩ := h
  exact ⟨b1, b2, by omega, by omega, by omega, h4, h5, h6⟩
/-- What linkAt leaves: nothing behind the last node, else a link. -/
def LinkEnd (w : World) (A : Option Addr) (G n c k : Nat) (e : Ending) (w' : World) : Prop :=
  (if k < n then ∃ L, e = .returned (.pointer (some ⟨L, 0, none⟩)) ∧ LinkAt w' w.heap.size L A G n c k else e = .returned (.pointer none)) ∧ Below w.heap.size w w'
set_option maxRecDepth 100000 in
set_option maxHeartbeats 2000000 in
theorem linkAt_any (G n c k : Nat) (w : World) (_hn : n ≤ 1048576) (hk : k ≤ 1048576) :
    Calls Tryz.prog 34 #[.slice (some ⟨G, 0, none⟩) n c, .int .i64 (k : Int)] w (LinkEnd w (some ⟨G, 0, none⟩) G n c k) := by
  have hmf : ∀ (fn : Fn) (first cap : Array Value) (w : World), (Instr.makeFunc fn first cap).run Tryz.prog w = .ok (.func fn first cap) w := fun _ _ _ _ => rfl
  have h0 : ¬ ((k : Int) < 0) := by omega
  have S0 := ((Inv.start w).box 23 #[.slice (some ⟨G, 0, none⟩) n c]).box 3 #[.int .i64 (k : Int)]
  simp only [World.size_alloc] at S0
  by_cases hlt : k < n
  · have h1 : ¬ ((k : Int) ≥ (n : Int)) := by omega
    have h2 : (k : Int) < (n : Int) := by omega
    have i1 : (0 : Int) ≤ (k : Int) := by omega
    go_enter Tryz.func34, Tryz.ntmps34
    go_wp2
    go_ret
    have S1 := (((Inv.start w).box 23 #[.slice (some ⟨G, 0, none⟩) n c]).box 3 #[.int .i64 (k : Int)]).box 76 #[.pointer (some ⟨G, k * 2, none⟩), .func (.func 61) #[] #[.pointer (some ⟨w.heap.size, 0, none⟩), .pointer (some ⟨w.heap.size + 1, 0, none⟩)]]
    simp only [World.size_alloc] at S1
    refine ⟨?_, S1.below⟩
    rw [if_pos hlt]
    exact ⟨w.heap.size + 1 + 1, rfl, w.heap.size, w.heap.size + 1, by omega, by omega, by omega, S1.nth 0 rfl, S1.nth 2 rfl, S1.nth 1 rfl⟩
  · have h1 : (k : Int) ≥ (n : Int) := by omega
    have h2 : ¬ ((k : Int) < (n : Int)) := by omega
    go_enter Tryz.func34, Tryz.ntmps34
    go_wp2
    go_ret
    exact ⟨by rw [if_neg hlt]; rfl, S0.below⟩
set_option maxRecDepth 100000 in
set_option maxHeartbeats 2000000 in
/-- The way to the next one. -/
theorem next_any (G n c k b1 b2 : Nat) (w : World) (hn : n ≤ 1048576) (hk : k ≤ 1048575) (h1 : Blk w b1 23 #[.slice (some ⟨G, 0, none⟩) n c]) (h2 : Blk w b2 3 #[.int .i64 (k : Int)]) :
    Calls Tryz.prog 61 #[.pointer (some ⟨b1, 0, none⟩), .pointer (some ⟨b2, 0, none⟩)] w (LinkEnd w (some ⟨G, 0, none⟩) G n c (k + 1)) := by
  have q1 := h1.one.1
  have q2 := h2.one.1
  go_enter Tryz.func61, Tryz.ntmps61
  go_wp2_with fail
  have e1 : (k : Int) + 1 = ((k + 1 : Nat) : Int) := by omega
  have CT := linkAt_any G n c (k + 1) w hn (by omega)
  rw [← e1] at CT
  clear e1
  with_reducible refine CT.mono ?_
  clear CT
  rintro e w1 ⟨hE, hb⟩
  have HE := hide hE
  have HB := hide hb
  clear hE hb
  by_cases hlt : k + 1 < n
  · have hq := HE.out
    rw [if_pos hlt] at hq
    obtain ⟨L, rfl, hL⟩ := hq
    have HLL := hide hL
    clear hL
    go_wp2
    go_ret
    exact ⟨by rw [if_pos hlt]; exact ⟨L, rfl, HLL.out⟩, HB.out⟩
  · have hq := HE.out
    rw [if_neg hlt] at hq
    subst hq
    go_wp2
    go_ret
    exact ⟨by rw [if_neg hlt]; rfl, HB.out⟩
end Go.Proofs.YtjnloillcgeodaaGreat
/- Whether nodes, links and chains are valid, said plainly; such as say the same are alike in that. No condition. -/
namespace Go.Proofs.YtjnloillcgeodaaGreat

/-- Two slices of versions say the same. -/
def LL (us us' : List V) : Prop := us.length = us'.length ∧ Like us us'
theorem vlike_refl (v : V) : V.like v v := ⟨rfl, rfl, rfl, rfl, rfl, rfl⟩
theorem vlike_symm {v u : V} (h : V.like v u) : V.like u v := ⟨h.1.symm, h.2.1.symm, h.2.2.1.symm, h.2.2.2.1.symm, h.2.2.2.2.1.symm, h.2.2.2.2.2.symm⟩
theorem vlike_trans {v u x : V} (h : V.like v u) (k : V.like u x) : V.like v x := ⟨h.1.trans k.1, h.2.1.trans k.2.1, h.2.2.1.trans k.2.2.1, h.2.2.2.1.trans k.2.2.2.1, h.2.2.2.2.1.trans k.2.2.2.2.1, h.2.2.2.2.2.trans k.2.2.2.2.2⟩
theorem ll_refl (us : List V) : LL us us := ⟨rfl, like_refl us⟩
theorem ll_symm {us us' : List V} (h : LL us us') : LL us' us := ⟨h.1.symm, h.2.swap⟩
theorem ll_trans {us us' us'' : List V} (h : LL us us') (k : LL us' us'') : LL us us'' := ⟨h.1.trans k.1, fun i v v' hv hv' => by
  have hlt : i < us'.length := by have := (List.getElem?_eq_some_iff.1 hv).1; have := h.1; omega
  exact vlike_trans (h.2 i v _ hv (List.getElem?_eq_getElem hlt)) (k.2 i _ v' (List.getElem?_eq_getElem hlt) hv')⟩
theorem ll_at {us us' : List V} (h : LL us us') {i : Nat} {v : V} (hv : us[i]? = some v) : ∃ v', us'[i]? = some v' ∧ V.like v v' := by
  have hlt : i < us'.length := by have := (List.getElem?_eq_some_iff.1 hv).1; have := h.1; omega
  exact ⟨_, List.getElem?_eq_getElem hlt, h.2 i v _ hv (List.getElem?_eq_getElem hlt)⟩
theorem ll_none {us us' : List V} (h : LL us us') {i : Nat} (hv : us[i]? = none) : us'[i]? = none := by
  rw [List.getElem?_eq_none_iff] at *
  have := h.1
  omega
theorem ll_set {us us' : List V} {v v' : V} (h : LL us us') (hv : V.like v v') (j : Nat) : LL (us.set j v) (us'.set j v') := by
  refine ⟨by rw [List.length_set, List.length_set]; exact h.1, fun i x y hx hy => ?_⟩
  by_cases e : i = j
  · subst e
    have hlt : i < us.length := by have := (List.getElem?_eq_some_iff.1 hx).1; rw [List.length_set] at this; exact this
    have hlt' : i < us'.length := by have := h.1; omega
    rw [List.getElem?_set_self hlt] at hx
    rw [List.getElem?_set_self hlt'] at hy
    injection hx with hx
    injection hy with hy
    rw [← hx, ← hy]
    exact hv
  · rw [List.getElem?_set_ne (Ne.symm e)] at hx hy
    exact h.2 i x y hx hy
theorem likesB_ll (us us' : List V) : likesB us us' = true ↔ LL us us' := likesB_iff us us'
theorem likesB_like {a a' b b' : List V} (h : LL a a') (k : LL b b') : likesB a b = likesB a' b' := by
  rw [Bool.eq_iff_iff, likesB_ll, likesB_ll]
  exact ⟨fun q => ll_trans (ll_symm h) (ll_trans q k), fun q => ll_trans h (ll_trans q (ll_symm k))⟩
/-- Whether a node is valid by itself. -/
def nodeB (n : Nd) : Bool := storeB n.ss && decide (n.ws.length ≤ 6) && n.ws.all verV
/-- One version that waits comes to a store, if it is later. -/
def stepL (us : List V) (v : V) : Option (List V) := match us[v.k.toNat]? with | some x => if lessB x.t x.u v.t v.u = true then some (us.set v.k.toNat v) else none | none => none
/-- All that waits comes to a store. -/
def walkL (us : List V) (ws : List V) : Option (List V) := ws.foldl (fun o v => o.bind fun us => stepL us v) (some us)
theorem walkL_step {us ws : List V} {k : Nat} {v : V} (h : ws[k]? = some v) : walkL us (ws.take (k + 1)) = (walkL us (ws.take k)).bind fun us => stepL us v := by
  unfold walkL
  rw [List.take_add_one, h, List.foldl_append]
  rfl
theorem walk_none (ws : List V) : ws.foldl (fun o v => o.bind fun us => stepL us v) (none : Option (List V)) = none := by
  induction ws with
  | nil => rfl
  | cons v r ih => exact ih
theorem walkL_none {us ws : List V} {k : Nat} (h : walkL us (ws.take k) = none) : walkL us ws = none := by
  unfold walkL at *
  rw [← List.take_append_drop k ws, List.foldl_append, h, walk_none]
/-- What waits at a node is what the next one lacks. -/
def linkB (n m : Nd) : Bool := match walkL m.ss n.ws with | some us => likesB us n.ss | none => false
theorem linkB_none {n m : Nd} {k : Nat} (h : walkL m.ss (n.ws.take k) = none) : linkB n m = false := by
  unfold linkB
  rw [walkL_none h]
theorem linkB_some {n m : Nd} {us : List V} (h : walkL m.ss n.ws = some us) : linkB n m = likesB us n.ss := by
  unfold linkB
  rw [h]
def stepB (ns : List Nd) (k : Nat) : Bool := match ns[k]? with | some n => (match ns[k + 1]? with | some m => linkB n m | none => decide (n.ws.length = 0)) | none => true
/-- Whether a chain is valid. -/
def chainB (ns : List Nd) : Bool := decide (1 ≤ ns.length ∧ ns.length ≤ 4) && ns.all nodeB && (List.range ns.length).all (stepB ns)
theorem chainB_len {ns : List Nd} (h : ¬ (1 ≤ ns.length ∧ ns.length ≤ 4)) : chainB ns = false := by unfold chainB; rw [decide_eq_false h]; rfl
theorem chainB_node {ns : List Nd} {i : Nat} {n : Nd} (hi : ns[i]? = some n) (h : nodeB n = false) : chainB ns = false := by
  unfold chainB
  have : ns.all nodeB = false := by
    rw [List.all_eq_false]
    exact ⟨n, List.mem_of_getElem? hi, by rw [h]; decide⟩
  rw [this]
  simp
theorem chainB_step {ns : List Nd} {i : Nat} (hi : i < ns.length) (h : stepB ns i = false) : chainB ns = false := by
  unfold chainB
  have : (List.range ns.length).all (stepB ns) = false := by
    rw [List.all_eq_false]
    exact ⟨i, List.mem_range.2 hi, by rw [h]; decide⟩
  rw [this]
  simp
theorem chainB_ok {ns : List Nd} (h0 : 1 ≤ ns.length ∧ ns.length ≤ 4) (h1 : ∀ (i : Nat) n, ns[i]? = some n → nodeB n = true) (h2 : ∀ i, i < ns.length → stepB ns i = true) : chainB ns = true := by
  unfold chainB
  rw [decide_eq_true h0, Bool.true_and, Bool.and_eq_true, List.all_eq_true, List.all_eq_true]
  refine ⟨fun n hn => ?_, fun i hi => h2 i (List.mem_range.1 hi)⟩
  obtain ⟨i, hi⟩ := List.getElem?_of_mem hn
  exact h1 i n hi
theorem chainB_parts {ns : List Nd} (h : chainB ns = true) : (1 ≤ ns.length ∧ ns.length ≤ 4) ∧ (∀ (i : Nat) n, ns[i]? = some n → nodeB n = true) ∧ ∀ i, i < ns.length → stepB ns i = true := by
  unfold chainB at h
  rw [Bool.and_eq_true, Bool.and_eq_true, decide_eq_true_eq, List.all_eq_true, List.all_eq_true] at h
  exact ⟨h.1.1, fun i n hi => h.1.2 n (List.mem_of_getElem? hi), fun i hi => h.2 i (List.mem_range.2 hi)⟩
theorem nodeB_parts {n : Nd} (h : nodeB n = true) : storeB n.ss = true ∧ n.ws.length ≤ 6 ∧ ∀ v ∈ n.ws, verV v = true := by
  unfold nodeB at h
  rw [Bool.and_eq_true, Bool.and_eq_true, decide_eq_true_eq, List.all_eq_true] at h
  exact ⟨h.1.1, h.1.2, h.2⟩
theorem stepL_like {us us' : List V} {v v' : V} (h : LL us us') (hv : V.like v v') : (stepL us v = none ∧ stepL us' v' = none) ∨ ∃ x x', stepL us v = some x ∧ stepL us' v' = some x' ∧ LL x x' := by
  unfold stepL
  rw [← hv.1, ← hv.2.1, ← hv.2.2.1]
  cases hx : us[v.k.toNat]? with
  | none => exact .inl ⟨rfl, by rw [ll_none h hx]⟩
  | some x =>
    obtain ⟨x', hx', hl⟩ := ll_at h hx
    rw [hx']
    simp only
    rw [← hl.2.1, ← hl.2.2.1]
    by_cases q : lessB x.t x.u v.t v.u = true
    · rw [if_pos q, if_pos q]
      exact .inr ⟨_, _, rfl, rfl, ll_set h hv _⟩
    · rw [if_neg q, if_neg q]
      exact .inl ⟨rfl, rfl⟩
theorem ll_cons {v v' : V} {r r' : List V} (h : LL (v :: r) (v' :: r')) : V.like v v' ∧ LL r r' := ⟨h.2 0 v v' rfl rfl, by simpa using h.1, fun i x y hx hy => h.2 (i + 1) x y hx hy⟩
theorem walkL_like : ∀ {ws ws' us us' : List V}, LL ws ws' → LL us us' → (walkL us ws = none ∧ walkL us' ws' = none) ∨ ∃ x x', walkL us ws = some x ∧ walkL us' ws' = some x' ∧ LL x x'
  | [], [], us, us', _, h => .inr ⟨us, us', rfl, rfl, h⟩
  | [], _ :: _, _, _, h, _ => by simp [LL] at h
  | _ :: _, [], _, _, h, _ => by simp [LL] at h
  | v :: r, v' :: r', us, us', hw, h => by
    obtain ⟨h1, h2⟩ := ll_cons hw
    have e : walkL us (v :: r) = r.foldl (fun o v => o.bind fun us => stepL us v) (stepL us v) := rfl
    have e' : walkL us' (v' :: r') = r'.foldl (fun o v => o.bind fun us => stepL us v) (stepL us' v') := rfl
    rw [e, e']
    rcases stepL_like h h1 with ⟨q1, q2⟩ | ⟨x, x', q1, q2, q3⟩
    · rw [q1, q2, walk_none, walk_none]
      exact .inl ⟨rfl, rfl⟩
    · rw [q1, q2]
      exact walkL_like h2 q3
theorem linkB_like {n n' m m' : Nd} (h : Nd.like n n') (k : Nd.like m m') : linkB n m = linkB n' m' := by
  unfold linkB
  rcases walkL_like (ws := n.ws) (ws' := n'.ws) (us := m.ss) (us' := m'.ss) ⟨h.2.2.1, h.2.2.2⟩ ⟨k.1, k.2.1⟩ with ⟨q1, q2⟩ | ⟨x, x', q1, q2, q3⟩
  · rw [q1, q2]
  · rw [q1, q2]
    exact likesB_like q3 ⟨h.1, h.2.1⟩
theorem verV_like {v v' : V} (h : V.like v v') : verV v = verV v' := by
  unfold verV
  rw [h.1, h.2.1, h.2.2.1, h.2.2.2.1, h.2.2.2.2.1, h.2.2.2.2.2]
theorem allV_like : ∀ {ws ws' : List V}, LL ws ws' → ws.all verV = ws'.all verV
  | [], [], _ => rfl
  | [], _ :: _, h => by simp [LL] at h
  | _ :: _, [], h => by simp [LL] at h
  | v :: r, v' :: r', h => by
    obtain ⟨h1, h2⟩ := ll_cons h
    rw [List.all_cons, List.all_cons, verV_like h1, allV_like h2]
theorem nodeB_like {n n' : Nd} (h : Nd.like n n') : nodeB n = nodeB n' := by
  unfold nodeB
  rw [storeB_like h.1 h.2.1, h.2.2.1, allV_like (ws := n.ws) (ws' := n'.ws) ⟨h.2.2.1, h.2.2.2⟩]
/-- Two slices of nodes say the same. -/
def NL (ns us : List Nd) : Prop := ns.length = us.length ∧ ∀ (i : Nat) v v', ns[i]? = some v → us[i]? = some v' → Nd.like v v'
theorem nl_at {us us' : List Nd} (h : NL us us') {i : Nat} {v : Nd} (hv : us[i]? = some v) : ∃ v', us'[i]? = some v' ∧ Nd.like v v' := by
  have hlt : i < us'.length := by have := (List.getElem?_eq_some_iff.1 hv).1; have := h.1; omega
  exact ⟨_, List.getElem?_eq_getElem hlt, h.2 i v _ hv (List.getElem?_eq_getElem hlt)⟩
theorem nl_none {us us' : List Nd} (h : NL us us') {i : Nat} (hv : us[i]? = none) : us'[i]? = none := by
  rw [List.getElem?_eq_none_iff] at *
  have := h.1
  omega
theorem stepB_like {ns us : List Nd} (h : NL ns us) (k : Nat) : stepB ns k = stepB us k := by
  unfold stepB
  cases hx : ns[k]? with
  | none => rw [nl_none h hx]
  | some n =>
    obtain ⟨n', hx', hl⟩ := nl_at h hx
    rw [hx']
    cases hy : ns[k + 1]? with
    | none => rw [nl_none h hy]; simp only [hl.2.2.1]
    | some m =>
      obtain ⟨m', hy', hm⟩ := nl_at h hy
      rw [hy']
      exact linkB_like hl hm
theorem ndlike_symm {n n' : Nd} (h : Nd.like n n') : Nd.like n' n := ⟨h.1.symm, h.2.1.swap, h.2.2.1.symm, h.2.2.2.swap⟩
theorem ndlike_trans {n n' n'' : Nd} (h : Nd.like n n') (k : Nd.like n' n'') : Nd.like n n'' :=
  ⟨h.1.trans k.1, (ll_trans (us := n.ss) (us' := n'.ss) ⟨h.1, h.2.1⟩ ⟨k.1, k.2.1⟩).2, h.2.2.1.trans k.2.2.1, (ll_trans (us := n.ws) (us' := n'.ws) ⟨h.2.2.1, h.2.2.2⟩ ⟨k.2.2.1, k.2.2.2⟩).2⟩
theorem nl_symm {ns us : List Nd} (h : NL ns us) : NL us ns := ⟨h.1.symm, fun i v v' hv hv' => ndlike_symm (h.2 i v' v hv' hv)⟩
theorem nl_trans {a b c : List Nd} (h : NL a b) (k : NL b c) : NL a c := ⟨h.1.trans k.1, fun i v v' hv hv' => by
  obtain ⟨x, hx, hl⟩ := nl_at h hv
  exact ndlike_trans hl (k.2 i x v' hx hv')⟩
theorem chainB_like {ns us : List Nd} (h : NL ns us) : chainB ns = chainB us := by
  have key : ∀ {ns us : List Nd}, NL ns us → chainB ns = true → chainB us = true := fun {ns us} h hq => by
    obtain ⟨h0, h1, h2⟩ := chainB_parts hq
    refine chainB_ok (by rw [← h.1]; exact h0) (fun i n hi => ?_) (fun i hi => ?_)
    · obtain ⟨n', hn', hl⟩ := nl_at (nl_symm h) hi
      rw [nodeB_like hl]
      exact h1 i n' hn'
    · rw [← stepB_like h]
      exact h2 i (by have := h.1; omega)
  rw [Bool.eq_iff_iff]
  exact ⟨key h, key (nl_symm h)⟩
end Go.Proofs.YtjnloillcgeodaaGreat
