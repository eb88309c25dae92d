/- Contracts of StoreTags, of program and model, at every store. Condition: as many versions and tags as a law lets by. -/
import Derived.Test.YtjnloillcgeodaaJStoreTags
import Derived.Test.YtjnloillcgeodaaJPastRes
import Derived.Test.YtjnloillcgeodaaJStoreAdd
import Derived.Test.YtjnloillcgeodaaJStores2
namespace Go.Proofs.Ytjnloillcgeodaa
open Go.RowKit Go.Joins

theorem Res.turn {P : Nat → Prop} {w w' : World} {B U : Nat} {A : Option Addr} {rs : List (Int × Int)} (h : Res w B U A rs) (ht : Turn P w w') (hp : ∀ g, B ≤ g → g < U → ¬ P g) : Res w' B U A rs := by
  rcases h with h | ⟨g, T, cur, rfl, hB, hU, hb, hs, hc⟩
  · exact .inl h
  · exact .inr ⟨g, T, cur, rfl, hB, hU, hb.turned ht (hp g hB hU), hs, hc⟩
/-- What StoreTags answers. -/
def tagsR (vs : List V) : List (Int × Int) := if storeB vs = true then tagsL vs else []
theorem tagsR_len (vs : List V) : (tagsR vs).length ≤ 4 := by
  unfold tagsR
  split
  · rename_i h
    rw [tagsL_len]
    exact Nat.le_of_eq (storeB_four h)
  · simp
theorem tagsL_like {us vs : List V} (hl : us.length = vs.length) (h : Like us vs) : tagsL us = tagsL vs := by
  apply List.ext_getElem?
  intro i
  unfold tagsL
  rw [List.getElem?_map, List.getElem?_map]
  by_cases hi : i < us.length
  · have h1 := List.getElem?_eq_getElem hi
    have h2 := List.getElem?_eq_getElem (l := vs) (i := i) (by omega)
    obtain ⟨_, e1, e2, _⟩ := h i _ _ h1 h2
    rw [h1, h2]
    simp [e1, e2]
  · rw [List.getElem?_eq_none (by omega), List.getElem?_eq_none (by omega)]
theorem tagsR_like {us vs : List V} (hl : us.length = vs.length) (h : Like us vs) : tagsR us = tagsR vs := by
  unfold tagsR
  rw [storeB_like hl h, tagsL_like hl h]
theorem answer_joined {w : World} {rs : List (Int × Int)} {e : Ending} {w' : World} (h4 : rs.length = 4) (h : JoinedP w rs e w') : Answer w rs e w' := by
  obtain ⟨g, cap, T, cur, he, hg, hB, hsz, hcur, hb⟩ := h
  exact ⟨some ⟨g, 0, none⟩, cap, by rw [he, h4], Res.of hg hB.inside hB (by rw [h4]; exact hsz) hcur, hb⟩
theorem answer_empty {w : World} {rs : List (Int × Int)} {w' : World} (h : rs = []) (hb : Below w.heap.size w w') : Answer w rs (.returned (.agg #[.slice none 0 0])) w' := by
  subst h
  exact ⟨none, 0, rfl, .inl ⟨rfl, rfl⟩, hb⟩

set_option maxHeartbeats 2000000 in
theorem implStoreTags_any (a : Option Addr) (c : Nat) (vs : List V) (w : World) (hn : vs.length ≤ 1048576) (hm : Small vs) (hv : Vg w w.heap.size a vs) :
    Calls Try.prog 56 #[.agg #[.slice a vs.length c]] w (Answer w (tagsR vs)) := by
  cases ho : storeB vs
  · have hE : tagsR vs = [] := by unfold tagsR; rw [ho]; rfl
    have S0 := ((Inv.start w).box 43 #[.slice a vs.length c]).box 30 #[.slice none 0 0]
    simp only [World.size_alloc] at S0
    have HE := hide hE
    have HO := hide ho
    clear ho hE
    go_enter Try.func56, Try.ntmps56
    go_wp2_with fail
    refine (implStoreOk_any a c vs _ hn hm ((hv.on S0.below).up S0.base)).mono ?_
    rintro e w1 ⟨rfl, hb1⟩
    rw [HO.out]
    have S1 := S0.on hb1
    have q1 := (S1.nth 0 rfl).one
    clear S0 hm
    go_wp2
    refine bodyPost_ret (v := .agg #[.slice none 0 0]) (by simp [results, Try.results56, go_sem, q1]) rfl ?_
    exact answer_empty HE.out (S1.below.setCell (by simp) _)
  · have hE : tagsR vs = tagsL vs := by unfold tagsR; rw [ho]; rfl
    have h4 := storeB_four ho
    have C := implStoreTags_ok a c vs w ho hm hv
    rw [hE, h4]
    exact C.mono fun e w' h => answer_joined (by rw [tagsL_len]; exact h4) h
end Go.Proofs.Ytjnloillcgeodaa
/- Stores that a call answers: how such an answer is kept, marked, and the marks found again. -/
namespace Go.Proofs.Ytjnloillcgeodaa
open Go.RowKit Go.Joins

/-- A slice of versions that a call has made: none, or in blocks of its own from B on and below U. -/
def ResS (w : World) (B U : Nat) (A : Option Addr) (us : List V) : Prop := us = [] ∨ ∃ G cur, A = some ⟨G, 0, none⟩ ∧ ORow w B U G us cur
theorem ResS.turn {P : Nat → Prop} {w w' : World} {B U : Nat} {A : Option Addr} {us : List V} (h : ResS w B U A us) (ht : Turn P w w') (hp : ∀ g, B ≤ g → g < U → ¬ P g) : ResS w' B U A us := by
  rcases h with h | ⟨G, cur, h1, h2⟩
  · exact .inl h
  · exact .inr ⟨G, cur, h1, h2.turned ht hp⟩
theorem ResS.on {w w' : World} {B U : Nat} {A : Option Addr} {us : List V} (h : ResS w B U A us) (hb : Below w.heap.size w w') : ResS w' B U A us := h.turn (P := fun _ => False) (.below hb) (fun _ _ _ h => h)
theorem ResS.drew {w : World} {B U : Nat} {A : Option Addr} {us : List V} (h : ResS w B U A us) : ResS w.drew B U A us := h.on (Below.refl _ _).drew
theorem ResS.alloc {w : World} {B U : Nat} {A : Option Addr} {us : List V} (h : ResS w B U A us) (o : Obj) : ResS (w.alloc o) B U A us := h.on (below_alloc1 w o)
theorem ResS.set {w : World} {B U : Nat} {A : Option Addr} {us : List V} (h : ResS w B U A us) {p : Addr} (hp : p.block < B ∨ U ≤ p.block) (u : Value) : ResS (w.setCell p u) B U A us :=
  h.turn (P := fun g => g = p.block) ((Turn.refl (fun g => g = p.block) w).set (p := p) rfl u) (fun g h1 h2 e => by omega)
theorem ResS.swap {w : World} {B U : Nat} {A : Option Addr} {us : List V} {o o' : Obj} (h : ResS (w.alloc o) B U A us) (hU : U ≤ w.heap.size) : ResS (w.alloc o') B U A us := by
  have ht : Turn (fun g => g = w.heap.size) (w.alloc o) (w.alloc o') := ⟨rfl, rfl, rfl, by simp, fun k hk hn => by
    have hk' : k < w.heap.size := by simp at hk; omega
    rw [Below.heap_alloc w o' k hk', Below.heap_alloc w o k hk']⟩
  exact h.turn ht (fun g h1 h2 e => by omega)
theorem ResS.vg {w : World} {B U : Nat} {A : Option Addr} {us : List V} (h : ResS w B U A us) : Vg w w.heap.size A us := by
  rcases h with h | ⟨G, cur, rfl, h2⟩
  · exact .inl h
  · exact h2.vg
theorem answerS_form {w w' : World} {rs : List V} {e : Ending} (h : AnswerS w rs e w') : ∃ (A : Option Addr) (cap : Nat) (us : List V), e = .returned (.agg #[.slice A rs.length cap]) ∧ us.length = rs.length ∧ Like us rs ∧ ResS w' w.heap.size w'.heap.size A us ∧ Below w.heap.size w w' := by
  obtain ⟨x, us, he, hl, hli, hR, hb⟩ := h
  rcases hR with ⟨h0, A, cap, rfl⟩ | ⟨G, cap, cur, rfl, hO⟩
  · subst h0
    exact ⟨A, cap, [], by rw [he, ← hl]; rfl, hl, hli, .inl rfl, hb⟩
  · exact ⟨some ⟨G, 0, none⟩, cap, us, by rw [he, hl], hl, hli, .inr ⟨G, cur, rfl, hO⟩, hb⟩

/-- Few versions, of few causes each. -/
def Few (us : List V) : Prop := us.length ≤ 4 ∧ ∀ v ∈ us, v.ts.length ≤ 4
theorem few_like {us vs : List V} (hl : us.length = vs.length) (h : Like us vs) (hf : Few vs) : Few us := ⟨by rw [hl]; exact hf.1, fun v hv => by
  obtain ⟨i, hi⟩ := List.getElem?_of_mem hv
  have hlt := (List.getElem?_eq_some_iff.1 hi).1
  have hx := List.getElem?_eq_getElem (l := vs) (i := i) (by omega)
  obtain ⟨_, _, _, e4, _⟩ := h i v _ hi hx
  rw [e4]
  exact hf.2 _ (List.mem_of_getElem? hx)⟩
theorem few_wts : ∀ (us : List V), (∀ v ∈ us, v.ts.length ≤ 4) → wts us ≤ 13 * (us.length : Int)
  | [], _ => by simp [wts]
  | v :: r, h => by
    have h1 := few_wts r (fun x hx => h x (List.mem_cons_of_mem _ hx))
    have h2 := h v (List.mem_cons_self ..)
    unfold wts at *
    simp [wt] at *
    omega
theorem Few.wts {us : List V} (h : Few us) : wts us ≤ 52 := by
  have := few_wts us h.2
  have := h.1
  omega
theorem few_store {vs : List V} (h : storeB vs = true) : Few vs := by
  refine ⟨Nat.le_of_eq (storeB_four h), fun v hv => ?_⟩
  obtain ⟨i, hi⟩ := List.getElem?_of_mem hv
  apply Classical.byContradiction
  intro hn
  have hs : slotB i v = false := by
    have h1 : noneC v.k v.t v.u v.ts.length v.s v.g = false := noneC_f (.inr (.inr (.inl (by omega))))
    have h2 : verB v.k v.t v.u v.ts v.s v.g = false := by
      cases hb : pastB v.ts with
      | false => exact verB_f (.inr (.inr (.inr (.inr (.inr (.inl hb))))))
      | true =>
        have := pastB_four hb
        omega
    exact slotB_bad h1 h2
  rw [storeB_bad hi hs] at h
  cases h
theorem few_keep {vs : List V} {v : V} (h : Few vs) (hv : v.ts.length ≤ 4) : Few (keepL vs v) := by
  refine ⟨by rw [keepL_len]; exact h.1, fun x hx => ?_⟩
  unfold keepL at hx
  split at hx
  · split at hx
    · rcases List.mem_or_eq_of_mem_set hx with hx | rfl
      · exact h.2 x hx
      · exact hv
    · exact h.2 x hx
  · exact h.2 x hx
theorem few_ver {v : V} (h : verV v = true) : v.ts.length ≤ 4 := by
  apply Classical.byContradiction
  intro hn
  have h2 : verV v = false := by
    cases hb : pastB v.ts with
    | false => exact verB_f (.inr (.inr (.inr (.inr (.inr (.inl hb))))))
    | true =>
      have := pastB_four hb
      omega
  rw [h2] at h
  cases h
theorem few_add (vs : List V) (v : V) : Few (addR vs v) := by
  unfold addR
  split
  · rename_i h
    rw [Bool.and_eq_true] at h
    exact few_keep (few_store h.1) (few_ver h.2)
  · exact ⟨by simp, fun v hv => by simp at hv⟩

/-- What marking an answer leaves. -/
def MarkedRS (w : World) (B U : Nat) (A : Option Addr) (us : List V) (k : Int) (e : Ending) (w' : World) : Prop :=
  e = .returned (.int .i64 (k + wts us)) ∧ ResS w' B U A (mkVs k us) ∧ Turn (fun g => B ≤ g ∧ g < U) w w'
end Go.Proofs.Ytjnloillcgeodaa
/- Rows of nodes in memory of their own: each node two rows of versions; how they are compared, marked, and the marks found again. Condition: what is said of each. -/
namespace Go.Proofs.Ytjnloillcgeodaa
open Go.RowKit Go.Joins
attribute [local go_sem ↓] Go.wp_at_zero Go.wp_at_succ

/-- The blocks of a slice of versions. -/
def FootS (A : Option Addr) (us : List V) (g : Nat) : Prop := us ≠ [] ∧ ∃ G, A = some ⟨G, 0, none⟩ ∧ Foot G us g
theorem ORow.turnF {P : Nat → Prop} {w w' : World} {B U G : Nat} {vs : List V} {cur : Array Value} (h : ORow w B U G vs cur) (ht : Turn P w w') (hp : ∀ g, Foot G vs g → ¬ P g) : ORow w' B U G vs cur :=
  ⟨h.blk.turned ht (hp G (.inl rfl)), h.lo, h.hi, h.size, h.at', fun i v hi => (h.own i v hi).turned ht (fun g hg _ _ hne => hp g (.inr ⟨i, v, hi, hne, hg⟩)), h.apart⟩
theorem ResS.turnF {P : Nat → Prop} {w w' : World} {B U : Nat} {A : Option Addr} {us : List V} (h : ResS w B U A us) (ht : Turn P w w') (hp : ∀ g, FootS A us g → ¬ P g) : ResS w' B U A us := by
  by_cases h0 : us = []
  · exact .inl h0
  · rcases h with h | ⟨G, cur, rfl, hO⟩
    · exact .inl h
    · exact .inr ⟨G, cur, rfl, hO.turnF ht (fun g hg => hp g ⟨h0, G, rfl, hg⟩)⟩
theorem foot_mk {G : Nat} {k : Int} {us : List V} {g : Nat} (h : Foot G (mkVs k us) g) : Foot G us g := by
  rcases h with h | ⟨i, v, hi, hn, ha⟩
  · exact .inl h
  · rw [mkVs_at] at hi
    cases hx : us[i]? with
    | none => rw [hx] at hi; cases hi
    | some x =>
      rw [hx] at hi
      simp only [Option.map_some] at hi
      injection hi with hi
      subst hi
      refine .inr ⟨i, x, hx, fun h0 => hn ?_, ha⟩
      show marksL _ _ = []
      rw [h0]
      rfl
theorem footS_mk {A : Option Addr} {k : Int} {us : List V} {g : Nat} (h : FootS A (mkVs k us) g) : FootS A us g := by
  obtain ⟨h0, G, ha, hf⟩ := h
  exact ⟨fun e => h0 (by rw [e]; rfl), G, ha, foot_mk hf⟩
set_option maxHeartbeats 1000000 in
theorem markVerS_nil (A : Option Addr) (c : Nat) (k : Int) (W : World) :
    Calls Try.prog 93 #[.slice A 0 c, .int .i64 k] W fun e w' => e = .returned (.int .i64 k) ∧ W = w' := by
  go_enter Try.func93, Try.ntmps93
  go_wp2
  go_loop [1, 5] (fun v i => v = .int .i64 k ∧ i = .int .i64 0) (fun _ _ => 0)
  case atStart => exact ⟨rfl, rfl⟩
  case round =>
    obtain ⟨rfl, rfl⟩ := hrel
    go_wp2
    go_ret
    exact ⟨rfl, rfl⟩
set_option maxHeartbeats 1000000 in
theorem heldVerS_nil (A : Option Addr) (c : Nat) (k : Int) (W : World) :
    Calls Try.prog 94 #[.slice A 0 c, .int .i64 k] W fun e w' => e = .returned (.int .i64 k) ∧ W = w' := by
  go_enter Try.func94, Try.ntmps94
  go_wp2
  go_loop [1, 5] (fun v i => v = .int .i64 k ∧ i = .int .i64 0) (fun _ _ => 0)
  case atStart => exact ⟨rfl, rfl⟩
  case round =>
    obtain ⟨rfl, rfl⟩ := hrel
    go_wp2
    go_ret
    exact ⟨rfl, rfl⟩
/-- What marking a slice of versions leaves: only its own blocks have turned. -/
def MarkedSF (w : World) (B U : Nat) (A : Option Addr) (us : List V) (k : Int) (e : Ending) (w' : World) : Prop :=
  e = .returned (.int .i64 (k + wts us)) ∧ ResS w' B U A (mkVs k us) ∧ Turn (FootS A us) w w'
theorem markSF_any (B U : Nat) (A : Option Addr) (c : Nat) (us : List V) (k : Int) (w : World) (hR : ResS w B U A us) (hm : ∀ v ∈ us, v.ts.length ≤ 1048576) (hn : us.length ≤ 1048576) (hk0 : 1 ≤ k) (hk : k + wts us ≤ 8388000) :
    Calls Try.prog 93 #[.slice A us.length c, .int .i64 k] w (MarkedSF w B U A us k) := by
  by_cases h0 : us = []
  · subst h0
    exact (markVerS_nil A c k w).mono fun e w' ⟨he, hw⟩ => ⟨by rw [he]; simp [wts], .inl rfl, by rw [← hw]; exact Turn.refl _ _⟩
  · rcases hR with h | ⟨G, cur, rfl, hO⟩
    · exact absurd h h0
    · exact (markVerS_foot B U G c us cur k w hO hm hn hk0 hk).mono fun e w' ⟨he, ⟨cur', h1⟩, h2⟩ => ⟨he, .inr ⟨G, cur', rfl, h1⟩, ⟨h2.os, h2.tape, h2.output, h2.size, fun i hi hn => h2.block i hi (fun hf => hn ⟨h0, G, rfl, hf⟩)⟩⟩
theorem heldSF_any (B U : Nat) (A : Option Addr) (c : Nat) (us : List V) (k : Int) (w : World) (hR : ResS w B U A (mkVs k us)) (hm : ∀ v ∈ us, v.ts.length ≤ 1048576) (hn : us.length ≤ 1048576) (hk0 : 1 ≤ k) (hk : k + wts us ≤ 8388000) :
    Calls Try.prog 94 #[.slice A us.length c, .int .i64 k] w fun e w' => e = .returned (.int .i64 (k + wts us)) ∧ Below w.heap.size w w' := by
  by_cases h0 : us = []
  · subst h0
    exact (heldVerS_nil A c k w).mono fun e w' ⟨he, hw⟩ => ⟨by rw [he]; simp [wts], by rw [← hw]; exact Below.refl _ _⟩
  · rcases hR with h | ⟨G, cur, rfl, hO⟩
    · have := mkVs_len k us
      rw [h] at this
      exact absurd (List.length_eq_zero_iff.1 this.symm) h0
    · exact heldVerS_any B U G c us cur k w hO hm hn hk0 hk

/-- A node as it lies in memory: its store, and what waits. -/
structure Nd where
  sa : Option Addr
  sc : Nat
  ss : List V
  wa : Option Addr
  wc : Nat
  ws : List V
/-- The two cells of the node at place i of a row of cells. -/
def NdAt (cur : Array Value) (i : Nat) (n : Nd) : Prop := cur[i * 2]? = some (.slice n.sa n.ss.length n.sc) ∧ cur[i * 2 + 1]? = some (.slice n.wa n.ws.length n.wc)
/-- Two nodes say the same. -/
def Nd.like (n n' : Nd) : Prop := n.ss.length = n'.ss.length ∧ Like n.ss n'.ss ∧ n.ws.length = n'.ws.length ∧ Like n.ws n'.ws
def FootN (n : Nd) (g : Nat) : Prop := FootS n.sa n.ss g ∨ FootS n.wa n.ws g
/-- A row of nodes in a block of its own, the rows of each node in others. -/
structure NRow (w : World) (B U G : Nat) (ns : List Nd) (cur : Array Value) : Prop where
  blk : Blk w G 45 cur
  lo : B ≤ G
  hi : G < U
  size : ns.length * 2 ≤ cur.size
  at' : ∀ (i : Nat) n, ns[i]? = some n → NdAt cur i n
  store : ∀ (i : Nat) n, ns[i]? = some n → ResS w B U n.sa n.ss
  wait : ∀ (i : Nat) n, ns[i]? = some n → ResS w B U n.wa n.ws
  two : ∀ (i : Nat) n, ns[i]? = some n → ∀ g, FootS n.sa n.ss g → ¬ FootS n.wa n.ws g
  apart : ∀ (i j : Nat) n n', i ≠ j → ns[i]? = some n → ns[j]? = some n' → ∀ g, FootN n g → ¬ FootN n' g
theorem node_ne_ver : (45 : TypeId) ≠ 32 := by decide
theorem node_ne_tag : (45 : TypeId) ≠ 27 := by decide
theorem ResS.typed {w : World} {B U : Nat} {A : Option Addr} {us : List V} (h : ResS w B U A us) {g : Nat} (hg : FootS A us g) : ∃ T cs, Blk w g T cs ∧ T ≠ 45 ∧ B ≤ g ∧ g < U := by
  obtain ⟨h0, G, rfl, hf⟩ := hg
  rcases h with h | ⟨G', cur, e, hO⟩
  · exact absurd h h0
  · injection e with e
    injection e with e
    subst e
    have hr := hO.foot hf
    rcases hf with rfl | ⟨i, v, hi, hn, ha⟩
    · exact ⟨_, _, hO.blk, (fun e => node_ne_ver e.symm), hr⟩
    · rcases hO.own i v hi with q | ⟨g', c', e1, q1, q2, q3, _⟩
      · exact absurd q hn
      · rw [e1] at ha
        injection ha with ha
        injection ha with ha
        subst ha
        exact ⟨_, _, q3, (fun e => node_ne_tag e.symm), hr⟩
/-- How many marks nodes bear. -/
def wtN (n : Nd) : Int := wts n.ss + wts n.ws
def wtNs (ns : List Nd) : Int := (ns.map wtN).sum
def mkN (k : Int) (n : Nd) : Nd := ⟨n.sa, n.sc, mkVs k n.ss, n.wa, n.wc, mkVs (k + wts n.ss) n.ws⟩
def mkNs : Int → List Nd → List Nd
  | _, [] => []
  | k, n :: r => mkN k n :: mkNs (k + wtN n) r
theorem mkNs_len (k : Int) (ns : List Nd) : (mkNs k ns).length = ns.length := by
  induction ns generalizing k with
  | nil => rfl
  | cons v r ih => simp [mkNs, ih]
theorem wtNs_step {ns : List Nd} {j : Nat} {n : Nd} (h : ns[j]? = some n) : wtNs (ns.take (j + 1)) = wtNs (ns.take j) + wtN n := by
  unfold wtNs
  rw [List.take_add_one, h]
  simp
theorem wtN_pos (n : Nd) : 0 ≤ wtN n := by have := wts_pos n.ss; have := wts_pos n.ws; unfold wtN; omega
theorem wtNs_pos (ns : List Nd) : 0 ≤ wtNs ns := by
  induction ns with
  | nil => simp [wtNs]
  | cons v r ih => have := wtN_pos v; unfold wtNs at *; simp; omega
theorem wtNs_le (ns : List Nd) (j : Nat) : wtNs (ns.take j) ≤ wtNs ns := by
  have e : wtNs ns = wtNs (ns.take j) + wtNs (ns.drop j) := by
    unfold wtNs
    rw [← List.sum_append, ← List.map_append, List.take_append_drop]
  have := wtNs_pos (ns.drop j)
  omega
theorem mkNs_at (k : Int) (ns : List Nd) (j : Nat) : (mkNs k ns)[j]? = (ns[j]?).map (mkN (k + wtNs (ns.take j))) := by
  induction ns generalizing k j with
  | nil => simp [mkNs]
  | cons v r ih =>
    cases j with
    | zero => simp [mkNs, wtNs]
    | succ j =>
      simp only [mkNs, List.getElem?_cons_succ, ih, List.take_succ_cons]
      congr 1
      funext x
      unfold wtNs
      simp [Int.add_assoc]
end Go.Proofs.Ytjnloillcgeodaa
/- How rows of nodes and chains are marked, and the marks found again. Condition: what is said of each. -/
namespace Go.Proofs.Ytjnloillcgeodaa
open Go.RowKit Go.Joins
attribute [local go_sem ↓] Go.wp_at_zero Go.wp_at_succ

theorem wtNs_all (ns : List Nd) : wtNs (ns.take ns.length) = wtNs ns := by rw [List.take_length]
theorem NRow.notG {w : World} {B U G : Nat} {ns : List Nd} {cur : Array Value} (h : NRow w B U G ns cur) {i : Nat} {n : Nd} (hi : ns[i]? = some n) : ¬ FootN n G := by
  intro hf
  rcases hf with hf | hf
  · obtain ⟨T, cs, hb, hT, _⟩ := (h.store i n hi).typed hf
    exact hT (blk_one hb h.blk)
  · obtain ⟨T, cs, hb, hT, _⟩ := (h.wait i n hi).typed hf
    exact hT (blk_one hb h.blk)
theorem NRow.turned {P : Nat → Prop} {w w' : World} {B U G : Nat} {ns : List Nd} {cur : Array Value} (h : NRow w B U G ns cur) (ht : Turn P w w') (hg : ¬ P G) (hp : ∀ (i : Nat) n, ns[i]? = some n → ∀ g, FootN n g → ¬ P g) : NRow w' B U G ns cur :=
  ⟨h.blk.turned ht hg, h.lo, h.hi, h.size, h.at', fun i n hi => (h.store i n hi).turnF ht (fun g hf => hp i n hi g (.inl hf)), fun i n hi => (h.wait i n hi).turnF ht (fun g hf => hp i n hi g (.inr hf)), h.two, h.apart⟩
theorem NRow.on {w w' : World} {B U G : Nat} {ns : List Nd} {cur : Array Value} (h : NRow w B U G ns cur) (hb : Below w.heap.size w w') : NRow w' B U G ns cur := h.turned (P := fun _ => False) (.below hb) (fun h => h) (fun _ _ _ _ _ h => h)
theorem footN_mk {k : Int} {n : Nd} {g : Nat} (h : FootN (mkN k n) g) : FootN n g := by
  rcases h with h | h
  · exact .inl (footS_mk h)
  · exact .inr (footS_mk h)
/-- One node of a row is marked. -/
theorem NRow.turn1 {w w' : World} {B U G j : Nat} {l : List Nd} {cur : Array Value} {n : Nd} {k : Int} (h : NRow w B U G l cur) (hj : l[j]? = some n)
    (hs : ResS w' B U n.sa (mkVs k n.ss)) (hw : ResS w' B U n.wa (mkVs (k + wts n.ss) n.ws)) (ht : Turn (FootN n) w w') : NRow w' B U G (l.set j (mkN k n)) cur := by
  have hjl := (List.getElem?_eq_some_iff.1 hj).1
  have key : ∀ (i : Nat) x, (l.set j (mkN k n))[i]? = some x → (i = j ∧ x = mkN k n) ∨ (i ≠ j ∧ l[i]? = some x) := by
    intro i x hx
    by_cases e : i = j
    · subst e
      rw [List.getElem?_set_self hjl] at hx
      injection hx with hx
      exact .inl ⟨rfl, hx.symm⟩
    · rw [List.getElem?_set_ne (fun e' => e e'.symm)] at hx
      exact .inr ⟨e, hx⟩
  have old : ∀ (i : Nat) x, (l.set j (mkN k n))[i]? = some x → ∃ y, l[i]? = some y ∧ ∀ g, FootN x g → FootN y g := by
    intro i x hx
    rcases key i x hx with ⟨rfl, rfl⟩ | ⟨_, hy⟩
    · exact ⟨n, hj, fun g => footN_mk⟩
    · exact ⟨x, hy, fun g hg => hg⟩
  refine ⟨h.blk.turned ht (h.notG hj), h.lo, h.hi, by rw [List.length_set]; exact h.size, ?_, ?_, ?_, ?_, ?_⟩
  · intro i x hx
    rcases key i x hx with ⟨rfl, rfl⟩ | ⟨_, hy⟩
    · have := h.at' i n hj
      refine ⟨?_, ?_⟩
      · rw [this.1]; simp [mkN, mkVs_len]
      · rw [this.2]; simp [mkN, mkVs_len]
    · exact h.at' i x hy
  · intro i x hx
    rcases key i x hx with ⟨rfl, rfl⟩ | ⟨hne, hy⟩
    · exact hs
    · exact (h.store i x hy).turnF ht (fun g hf hn => h.apart j i n x (fun e => hne e.symm) hj hy g hn (.inl hf))
  · intro i x hx
    rcases key i x hx with ⟨rfl, rfl⟩ | ⟨hne, hy⟩
    · exact hw
    · exact (h.wait i x hy).turnF ht (fun g hf hn => h.apart j i n x (fun e => hne e.symm) hj hy g hn (.inr hf))
  · intro i x hx g h1 h2
    rcases key i x hx with ⟨rfl, rfl⟩ | ⟨hne, hy⟩
    · exact h.two i n hj g (footS_mk h1) (footS_mk h2)
    · exact h.two i x hy g h1 h2
  · intro i i' x x' hne hx hx' g h1 h2
    obtain ⟨y, hy, e⟩ := old i x hx
    obtain ⟨y', hy', e'⟩ := old i' x' hx'
    exact h.apart i i' y y' hne hy hy' g (e g h1) (e' g h2)

/-- The blocks of a row of nodes. -/
def FootNs (ns : List Nd) (g : Nat) : Prop := ∃ (i : Nat) (n : Nd), ns[i]? = some n ∧ FootN n g
/-- Nodes of few versions. -/
def SmallN (ns : List Nd) : Prop := ∀ n ∈ ns, n.ss.length ≤ 1048576 ∧ n.ws.length ≤ 1048576 ∧ (∀ v ∈ n.ss, v.ts.length ≤ 1048576) ∧ ∀ v ∈ n.ws, v.ts.length ≤ 1048576
def MarkedNF (w : World) (B U G : Nat) (ns : List Nd) (k : Int) (e : Ending) (w' : World) : Prop :=
  e = .returned (.int .i64 (k + wtNs ns)) ∧ (∃ cur, NRow w' B U G (mkNs k ns) cur) ∧ Turn (FootNs ns) w w'

set_option maxRecDepth 100000 in
set_option maxHeartbeats 4000000 in
theorem markNodeS_foot (B U G c : Nat) (ns : List Nd) (cur : Array Value) (k : Int) (w : World) (hR : NRow w B U G ns cur) (hm : SmallN ns) (hn : ns.length ≤ 1048576) (hk0 : 1 ≤ k) (hk : k + wtNs ns ≤ 8388000) :
    Calls Try.prog 61 #[.slice (some ⟨G, 0, none⟩) ns.length c, .int .i64 k] w (MarkedNF w B U G ns k) := by
  have HM := hide hm
  clear hm
  have HT : Hid (wtNs (ns.take ns.length) = wtNs ns) := wtNs_all ns
  generalize hnn : ns.length = n at *
  have HN := hide hnn
  clear hnn
  go_enter Try.func61, Try.ntmps61
  go_wp2
  go_loopw [1, 5] (fun v i wr => ∃ (j : Nat) (m : Int) (l : List Nd), j ≤ n ∧ i = .int .i64 (j : Int) ∧ v = .int .i64 m ∧ Hid (m = k + wtNs (ns.take j)) ∧ NRow wr B U G l cur ∧ Hid (l.length = n ∧ (∀ i, i < j → l[i]? = (mkNs k ns)[i]?) ∧ ∀ i, j ≤ i → l[i]? = ns[i]?) ∧ Turn (FootNs ns) w wr) (fun _ i _ => n - (intOf i).toNat)
  case atStart => exact ⟨0, k, ns, Nat.zero_le _, rfl, rfl, by unfold Hid wtNs; simp, hR, ⟨HN.out, fun i hi => absurd hi (by omega), fun _ _ => rfl⟩, Turn.refl _ _⟩
  case round =>
    obtain ⟨j, m, l, hj, rfl, rfl, HMM, hO, HL, hT⟩ := hrel
    clear hR
    by_cases hlt : j < n
    · obtain ⟨v, hv⟩ : ∃ v, ns[j]? = some v := ⟨_, List.getElem?_eq_getElem (by have := HN.out; omega)⟩
      have hlj : l[j]? = some v := by rw [HL.out.2.2 j (Nat.le_refl _), hv]
      have HB := hide (HM.out v (List.mem_of_getElem? hv))
      have st := wtNs_step hv
      have le := wtNs_le ns (j + 1)
      have ps := wtNs_pos (ns.take j)
      have p1 := wts_pos v.ss
      have p2 := wts_pos v.ws
      have HV := hide hv
      have HLJ := hide hlj
      have HWT : Hid (wtN v = wts v.ss + wts v.ws) := rfl
      have b1 : 1 ≤ m := by have := HMM.out; omega
      have b2 : m + wts v.ss + wts v.ws ≤ 8388000 := by have := HMM.out; have := HWT.out; omega
      have H2 : Hid (m + wts v.ss + wts v.ws = k + wtNs (ns.take (j + 1))) := by have := HMM.out; have := HWT.out; unfold Hid; omega
      have hA := hO.at' j v hlj
      have HA := hide hA
      have d0 := (hO.blk.at (j * 2)).trans hA.1
      have HO := hide hO
      have RS := hide (hO.store j v hlj)
      have RW := hide (hO.wait j v hlj)
      have HTT := hide hT
      have i1 : (0 : Int) ≤ (j : Int) := by omega
      have i2 : (j : Int) < (n : Int) := by omega
      clear st le ps hv hlj hA hO hT
      go_wp2_with fail
      refine (markSF_any B U v.sa v.sc v.ss m wr RS.out HB.out.2.2.1 HB.out.1 (by omega) (by omega)).mono ?_
      rintro e w1 ⟨rfl, hM1, T1⟩
      have HM1 := hide hM1
      have HT1 := hide T1
      have d1 := ((HO.out.blk.turned T1 (fun hf => HO.out.notG HLJ.out (.inl hf))).at (j * 2 + 1)).trans HA.out.2
      have RW1 := hide (RW.out.turnF T1 (fun g hf hn => HO.out.two j v HLJ.out g hn hf))
      clear d0 hM1 T1
      go_wp2_with fail
      refine (markSF_any B U v.wa v.wc v.ws (m + wts v.ss) w1 RW1.out HB.out.2.2.2 HB.out.2.1 (by omega) (by omega)).mono ?_
      rintro e w2 ⟨rfl, hM2, T2⟩
      have TT : Hid (Turn (FootN v) wr w2) := Turn.trans ⟨HT1.out.os, HT1.out.tape, HT1.out.output, HT1.out.size, fun i hi hn => HT1.out.block i hi (fun e => hn (.inl e))⟩ ⟨T2.os, T2.tape, T2.output, T2.size, fun i hi hn => T2.block i hi (fun e => hn (.inr e))⟩
      have HR9 : Hid (NRow w2 B U G (l.set j (mkN m v)) cur) := HO.out.turn1 HLJ.out (HM1.out.turnF T2 (fun g hf hn => HO.out.two j v HLJ.out g (footS_mk hf) hn)) hM2 TT.out
      have HT9 : Hid (Turn (FootNs ns) w w2) := HTT.out.trans ⟨TT.out.os, TT.out.tape, TT.out.output, TT.out.size, fun i hi hn => TT.out.block i hi (fun e => hn ⟨j, v, HV.out, e⟩)⟩
      have HL9 : Hid ((l.set j (mkN m v)).length = n ∧ (∀ i, i < j + 1 → (l.set j (mkN m v))[i]? = (mkNs k ns)[i]?) ∧ ∀ i, j + 1 ≤ i → (l.set j (mkN m v))[i]? = ns[i]?) := by
        refine ⟨by rw [List.length_set]; exact HL.out.1, fun i hi => ?_, fun i hi => ?_⟩
        · by_cases e : i = j
          · subst e
            rw [List.getElem?_set_self (by have := HL.out.1; omega), mkNs_at, HV.out, ← HMM.out]
            rfl
          · rw [List.getElem?_set_ne (fun e' => e e'.symm)]
            exact HL.out.2.1 i (by omega)
        · rw [List.getElem?_set_ne (by omega)]
          exact HL.out.2.2 i (by omega)
      clear d1 hM2 T2 HL HA
      go_wp2
      exact ⟨⟨j + 1, _, _, by omega, by go_num, rfl, H2, HR9.out, HL9, HT9.out⟩, by simp [intOf]; omega⟩
    · have hjn : j = n := by omega
      subst hjn
      clear hlt
      have hl : l = mkNs k ns := by
        apply List.ext_getElem?
        intro i
        by_cases hi : i < j
        · exact HL.out.2.1 i hi
        · rw [HL.out.2.2 i (by omega), List.getElem?_eq_none (by have := HN.out; omega), List.getElem?_eq_none (by rw [mkNs_len]; have := HN.out; omega)]
      subst hl
      have HO := hide hO
      have HTT := hide hT
      clear hO hT
      go_wp2
      go_ret
      exact ⟨ret_int (by rw [HMM.out, HT.out]), ⟨cur, HO.out⟩, HTT.out⟩

set_option maxRecDepth 100000 in
set_option maxHeartbeats 4000000 in
theorem heldNodeS_any (B U G c : Nat) (ns : List Nd) (cur : Array Value) (k : Int) (w : World) (hR : NRow w B U G (mkNs k ns) cur) (hm : SmallN ns) (hn : ns.length ≤ 1048576) (hk0 : 1 ≤ k) (hk : k + wtNs ns ≤ 8388000) :
    Calls Try.prog 62 #[.slice (some ⟨G, 0, none⟩) ns.length c, .int .i64 k] w fun e w' => e = .returned (.int .i64 (k + wtNs ns)) ∧ Below w.heap.size w w' := by
  have HM := hide hm
  clear hm
  have HT : Hid (wtNs (ns.take ns.length) = wtNs ns) := wtNs_all ns
  generalize hnn : ns.length = n at *
  have HN := hide hnn
  clear hnn
  have HR := hide hR
  clear hR
  go_enter Try.func62, Try.ntmps62
  go_wp2
  go_loopw [1, 5] (fun v i wr => ∃ (j : Nat) (m : Int), j ≤ n ∧ i = .int .i64 (j : Int) ∧ v = .int .i64 m ∧ Hid (m = k + wtNs (ns.take j)) ∧ Hid (Below w.heap.size w wr)) (fun _ i _ => n - (intOf i).toNat)
  case atStart => exact ⟨0, k, Nat.zero_le _, rfl, rfl, by unfold Hid wtNs; simp, Below.refl _ _⟩
  case round =>
    obtain ⟨j, m, hj, rfl, rfl, HMM, hL⟩ := hrel
    have hRw := HR.out.on hL.out
    by_cases hlt : j < n
    · obtain ⟨v, hv⟩ : ∃ v, ns[j]? = some v := ⟨_, List.getElem?_eq_getElem (by have := HN.out; omega)⟩
      have hmj : (mkNs k ns)[j]? = some (mkN m v) := by rw [mkNs_at, hv, HMM.out]; rfl
      have HB := hide (HM.out v (List.mem_of_getElem? hv))
      have st := wtNs_step hv
      have le := wtNs_le ns (j + 1)
      have ps := wtNs_pos (ns.take j)
      have p1 := wts_pos v.ss
      have p2 := wts_pos v.ws
      have HWT : Hid (wtN v = wts v.ss + wts v.ws) := rfl
      have b1 : 1 ≤ m := by have := HMM.out; omega
      have b2 : m + wts v.ss + wts v.ws ≤ 8388000 := by have := HMM.out; have := HWT.out; omega
      have H2 : Hid (m + wts v.ss + wts v.ws = k + wtNs (ns.take (j + 1))) := by have := HMM.out; have := HWT.out; unfold Hid; omega
      obtain ⟨q0, q1⟩ := hRw.at' j _ hmj
      have RS : Hid (ResS wr B U v.sa (mkVs m v.ss)) := hRw.store j _ hmj
      have RW : Hid (ResS wr B U v.wa (mkVs (m + wts v.ss) v.ws)) := hRw.wait j _ hmj
      simp only [mkN, mkVs_len] at q0 q1
      have d0 := (hRw.blk.at (j * 2)).trans q0
      have Q1 := hide q1
      have BK := hide hRw.blk
      have i1 : (0 : Int) ≤ (j : Int) := by omega
      have i2 : (j : Int) < (n : Int) := by omega
      clear st le ps hv hmj q0 q1 hRw
      go_wp2_with fail
      refine (heldSF_any B U v.sa v.sc v.ss m wr RS.out HB.out.2.2.1 HB.out.1 (by omega) (by omega)).mono ?_
      rintro e w1 ⟨rfl, hb1⟩
      have hpos : ¬ (m + wts v.ss < 0) := by omega
      have d1 := ((BK.out.on hb1).at (j * 2 + 1)).trans Q1.out
      have HB1 := hide hb1
      clear d0 hb1
      go_wp2_with fail
      refine (heldSF_any B U v.wa v.wc v.ws (m + wts v.ss) w1 (RW.out.on HB1.out) HB.out.2.2.2 HB.out.2.1 (by omega) (by omega)).mono ?_
      rintro e w2 ⟨rfl, hb2⟩
      have hpos2 : ¬ (m + wts v.ss + wts v.ws < 0) := by omega
      have HB2 : Hid (Below w.heap.size w w2) := hL.out.trans ((HB1.out.trans (hb2.mono HB1.out.size)).mono hL.out.size)
      clear d1 hb2
      go_wp2
      exact ⟨⟨j + 1, _, by omega, by go_num, rfl, H2, HB2⟩, by simp [intOf]; omega⟩
    · have hjn : j = n := by omega
      subst hjn
      clear hlt hRw
      go_wp2
      go_ret
      exact ⟨ret_int (by rw [HMM.out, HT.out]), hL.out⟩
end Go.Proofs.Ytjnloillcgeodaa
/- Whether two nodes, two rows of nodes, two chains are the same; marks on chains. Condition: what is said of each. -/
namespace Go.Proofs.Ytjnloillcgeodaa
open Go.RowKit Go.Joins
attribute [local go_sem ↓] Go.wp_at_zero Go.wp_at_succ

set_option maxHeartbeats 2000000 in
theorem eqNode_same (a a' b b' : Option Addr) (c c' d d' p q : Nat) (vs us vs' us' : List V) (w : World) (hp : p ≤ 1048576) (hq : q ≤ 1048576) (h1 : vs.length = p) (h2 : us.length = p) (h3 : vs'.length = q) (h4 : us'.length = q)
    (hl : Like vs us) (hl' : Like vs' us') (hm : ∀ v ∈ vs, v.ts.length ≤ 1048576) (hm' : ∀ v ∈ vs', v.ts.length ≤ 1048576) (hv : Vg w w.heap.size a vs) (hu : Vg w w.heap.size a' us) (hv' : Vg w w.heap.size b vs') (hu' : Vg w w.heap.size b' us') :
    Calls Try.prog 92 #[.agg #[.slice a p c, .slice b q d], .agg #[.slice a' p c', .slice b' q d']] w fun e w' => e = .returned (.bool true) ∧ Below w.heap.size w w' := by
  have HM := hide hm
  have HM' := hide hm'
  have HL := hide hl
  have HL' := hide hl'
  have E1 := hide h1
  have E2 := hide h2
  have E3 := hide h3
  have E4 := hide h4
  have HV := hide hv
  have HU := hide hu
  have HV' := hide hv'
  have HU' := hide hu'
  clear hm hm' hl hl' h1 h2 h3 h4 hv hu hv' hu'
  have S0 := ((Inv.start w).box 45 #[.slice a p c, .slice b q d]).box 45 #[.slice a' p c', .slice b' q d']
  simp only [World.size_alloc] at S0
  go_enter Try.func92, Try.ntmps92
  go_wp2_with fail
  refine (eqStore_same a a' c c' p vs us _ hp E1.out E2.out HL.out HM.out ((HV.out.on S0.below).up S0.base) ((HU.out.on S0.below).up S0.base)).mono ?_
  rintro e w1 ⟨rfl, hb1⟩
  have S1 := S0.on hb1
  have q0 := (S1.nth 0 rfl).two
  have q1 := (S1.nth 1 rfl).two
  clear S0
  go_wp2_with fail
  refine (eqVerS_same b b' d d' q vs' us' _ hq E3.out E4.out HL'.out HM'.out ((HV'.out.on S1.below).up S1.base) ((HU'.out.on S1.below).up S1.base)).mono ?_
  rintro e w2 ⟨rfl, hb2⟩
  have S2 := S1.on hb2
  clear S1 q0 q1
  go_wp2
  go_ret
  exact ⟨rfl, S2.below⟩
set_option maxRecDepth 100000 in
set_option maxHeartbeats 4000000 in
theorem eqNodeS_same (B U G c B' U' G' c' n : Nat) (ns us : List Nd) (cur cur' : Array Value) (w : World) (hn : n ≤ 1048576) (hvn : ns.length = n) (hun : us.length = n)
    (hlike : ∀ (i : Nat) v v', ns[i]? = some v → us[i]? = some v' → Nd.like v v') (hm : SmallN ns) (hv : NRow w B U G ns cur) (hu : NRow w B' U' G' us cur') :
    Calls Try.prog 60 #[.slice (some ⟨G, 0, none⟩) n c, .slice (some ⟨G', 0, none⟩) n c'] w fun e w' => e = .returned (.bool true) ∧ Below w.heap.size w w' := by
  have HN := hide hvn
  have HU := hide hun
  have HK := hide hlike
  have HM := hide hm
  have HV := hide hv
  have HW := hide hu
  clear hvn hun hlike hm hv hu
  go_enter Try.func60, Try.ntmps60
  go_wp2
  go_loopw [5] (fun i wr => ∃ k : Nat, k ≤ n ∧ i = .int .i64 (k : Int) ∧ Hid (Below w.heap.size w wr)) (fun i _ => n - (intOf i).toNat)
  case atStart => exact ⟨0, Nat.zero_le _, rfl, Below.refl _ _⟩
  case round =>
    obtain ⟨k, hk, rfl, hL⟩ := hrel
    by_cases hlt : k < n
    · obtain ⟨v, hv⟩ : ∃ v, ns[k]? = some v := ⟨_, List.getElem?_eq_getElem (by have := HN.out; omega)⟩
      obtain ⟨u, hu⟩ : ∃ u, us[k]? = some u := ⟨_, List.getElem?_eq_getElem (by have := HU.out; omega)⟩
      have HB := hide (HM.out v (List.mem_of_getElem? hv))
      obtain ⟨e1, e2, e3, e4⟩ := HK.out k v u hv hu
      have E1 := hide e1
      have E2 := hide e2
      have E3 := hide e3
      have E4 := hide e4
      have A1 := HV.out.at' k v hv
      have A2 := HW.out.at' k u hu
      rw [NdAt, ← e1, ← e3] at A2
      have Q1 := hide A1
      have Q2 := hide A2
      have R1 := hide (HV.out.store k v hv)
      have R2 := hide (HV.out.wait k v hv)
      have R3 := hide (HW.out.store k u hu)
      have R4 := hide (HW.out.wait k u hu)
      clear A1 A2 hv hu e1 e2 e3 e4
      have i1 : (0 : Int) ≤ (k : Int) := by omega
      have i2 : (k : Int) < (n : Int) := by omega
      have jh : ∀ w', Below w.heap.size w w' → w'.cell? ⟨G, k * 2, none⟩ = some (.slice v.sa v.ss.length v.sc) ∧ w'.cell? ⟨G, k * 2 + 1, none⟩ = some (.slice v.wa v.ws.length v.wc) ∧ w'.cell? ⟨G', k * 2, none⟩ = some (.slice u.sa v.ss.length u.sc) ∧ w'.cell? ⟨G', k * 2 + 1, none⟩ = some (.slice u.wa v.ws.length u.wc) ∧ Below w.heap.size w w' := fun w' hb =>
        ⟨((HV.out.blk.on hb).at _).trans Q1.out.1, ((HV.out.blk.on hb).at _).trans Q1.out.2, ((HW.out.blk.on hb).at _).trans Q2.out.1, ((HW.out.blk.on hb).at _).trans Q2.out.2, hb⟩
      go_wp2_with fail
      refine wp_region_noPanic ?_
      refine wp_region_held_drew (S := (fun w' => w'.cell? ⟨G, k * 2, none⟩ = some (.slice v.sa v.ss.length v.sc) ∧ w'.cell? ⟨G, k * 2 + 1, none⟩ = some (.slice v.wa v.ws.length v.wc) ∧ w'.cell? ⟨G', k * 2, none⟩ = some (.slice u.sa v.ss.length u.sc) ∧ w'.cell? ⟨G', k * 2 + 1, none⟩ = some (.slice u.wa v.ws.length u.wc) ∧ Below w.heap.size w w')) (by kernel_rfl) (by exact jh _ hL.out.drew) (fun hHeld => ?_)
      refine take_run 0 (some 17) (v := ?_) rfl rfl (by kernel_rfl) (by kernel_rfl) (by kernel_rfl) (fun _ _ _ h => h) (by rfl) ?_ hHeld ?_
      rotate_left
      · ((intro w hSw); (try dsimp only at hSw); go_simp <;> with_reducible rfl)
      simp only [Act.put, List.setIfInBounds_toArray, List.set_cons_zero, List.set_cons_succ]
      refine take_run 1 (some 18) (v := ?_) rfl rfl (by kernel_rfl) (by kernel_rfl) (by kernel_rfl) (fun _ _ _ h => h) (by rfl) ?_ hHeld ?_
      rotate_left
      · ((intro w hSw); (try dsimp only at hSw); go_simp <;> with_reducible rfl)
      simp only [Act.put, List.setIfInBounds_toArray, List.set_cons_zero, List.set_cons_succ]
      refine take_run 2 (some 19) (v := ?_) rfl rfl (by kernel_rfl) (by kernel_rfl) (by kernel_rfl) (fun _ _ _ h => h) (by rfl) ?_ hHeld ?_
      rotate_left
      · ((intro w hSw); (try dsimp only at hSw); go_simp <;> with_reducible rfl)
      simp only [Act.put, List.setIfInBounds_toArray, List.set_cons_zero, List.set_cons_succ]
      refine take_run 3 (some 20) (v := ?_) rfl rfl (by kernel_rfl) (by kernel_rfl) (by kernel_rfl) (fun _ _ _ h => h) (by rfl) ?_ hHeld ?_
      rotate_left
      · ((intro w hSw); (try dsimp only at hSw); go_simp <;> with_reducible rfl)
      simp only [Act.put, List.setIfInBounds_toArray, List.set_cons_zero, List.set_cons_succ]
      refine take_run 4 (some 21) (v := ?_) rfl rfl (by kernel_rfl) (by kernel_rfl) (by kernel_rfl) (fun _ _ _ h => h) (by rfl) ?_ hHeld ?_
      rotate_left
      · ((intro w hSw); (try dsimp only at hSw); go_simp <;> with_reducible rfl)
      simp only [Act.put, List.setIfInBounds_toArray, List.set_cons_zero, List.set_cons_succ]
      refine take_run 5 (some 22) (v := ?_) rfl rfl (by kernel_rfl) (by kernel_rfl) (by kernel_rfl) (fun _ _ _ h => h) (by rfl) ?_ hHeld ?_
      rotate_left
      · ((intro w hSw); (try dsimp only at hSw); go_simp <;> with_reducible rfl)
      simp only [Act.put, List.setIfInBounds_toArray, List.set_cons_zero, List.set_cons_succ]
      refine take_run 6 (some 23) (v := ?_) rfl rfl (by kernel_rfl) (by kernel_rfl) (by kernel_rfl) (fun _ _ _ h => h) (by rfl) ?_ hHeld ?_
      rotate_left
      · ((intro w hSw); (try dsimp only at hSw); go_simp <;> with_reducible rfl)
      simp only [Act.put, List.setIfInBounds_toArray, List.set_cons_zero, List.set_cons_succ]
      refine take_run 7 (some 24) (v := ?_) rfl rfl (by kernel_rfl) (by kernel_rfl) (by kernel_rfl) (fun _ _ _ h => h) (by rfl) ?_ hHeld ?_
      rotate_left
      · ((intro w hSw); (try dsimp only at hSw); go_simp <;> with_reducible rfl)
      simp only [Act.put, List.setIfInBounds_toArray, List.set_cons_zero, List.set_cons_succ]
      refine take_one 8 (by kernel_rfl) rfl (fun K hK => ?_)
      go_simp
      (refine (eqNode_same v.sa u.sa v.wa u.wa v.sc u.sc v.wc u.wc v.ss.length v.ws.length v.ss u.ss v.ws u.ws _ HB.out.1 HB.out.2.1 rfl E1.out.symm rfl E3.out.symm E2.out E4.out HB.out.2.2.1 HB.out.2.2.2 (R1.out.on hHeld.2.2.2.2).vg (R3.out.on hHeld.2.2.2.2).vg (R2.out.on hHeld.2.2.2.2).vg (R4.out.on hHeld.2.2.2.2).vg).mono ?_; rintro e w1 ⟨rfl, hb1⟩)
      try go_wp2_with fail
      refine hK.out _ _ (by exact jh _ (hHeld.2.2.2.2.trans (hb1.mono hHeld.2.2.2.2.size))) (fun hHeld => ?_)
      clear hK K
      refine take_run 9 (some 26) (v := ?_) rfl rfl (by kernel_rfl) (by kernel_rfl) (by kernel_rfl) (fun _ _ _ h => h) (by rfl) ?_ hHeld ?_
      rotate_left
      · ((intro w hSw); (try dsimp only at hSw); go_simp <;> with_reducible rfl)
      simp only [Act.put, List.setIfInBounds_toArray, List.set_cons_zero, List.set_cons_succ]
      refine wpAnyH_done (by kernel_rfl) ?_ _
      refine NoPanic.normal ?_
      have hL2 := hide hHeld.2.2.2.2
      clear hHeld hL
      go_wp2
      exact ⟨⟨k + 1, by omega, by go_num, hL2⟩, by simp [intOf]; omega⟩
    · have hkn : k = n := by omega
      subst hkn
      clear hlt
      go_wp2
      go_ret
      exact ⟨rfl, hL.out⟩
set_option maxHeartbeats 1000000 in
theorem eqNodeS_nil (a a' : Option Addr) (c c' : Nat) (w : World) :
    Calls Try.prog 60 #[.slice a 0 c, .slice a' 0 c'] w fun e w' => e = .returned (.bool true) ∧ w = w' := by
  go_enter Try.func60, Try.ntmps60
  go_wp2
  go_loop [5] (fun i => i = .int .i64 0) (fun _ => 0)
  case atStart => exact rfl
  case round =>
    subst hrel
    go_wp2
    go_ret
    exact ⟨rfl, rfl⟩
set_option maxHeartbeats 1000000 in
theorem markNodeS_nil (A : Option Addr) (c : Nat) (k : Int) (W : World) :
    Calls Try.prog 61 #[.slice A 0 c, .int .i64 k] W fun e w' => e = .returned (.int .i64 k) ∧ W = w' := by
  go_enter Try.func61, Try.ntmps61
  go_wp2
  go_loop [1, 5] (fun v i => v = .int .i64 k ∧ i = .int .i64 0) (fun _ _ => 0)
  case atStart => exact ⟨rfl, rfl⟩
  case round =>
    obtain ⟨rfl, rfl⟩ := hrel
    go_wp2
    go_ret
    exact ⟨rfl, rfl⟩
set_option maxHeartbeats 1000000 in
theorem heldNodeS_nil (A : Option Addr) (c : Nat) (k : Int) (W : World) :
    Calls Try.prog 62 #[.slice A 0 c, .int .i64 k] W fun e w' => e = .returned (.int .i64 k) ∧ W = w' := by
  go_enter Try.func62, Try.ntmps62
  go_wp2
  go_loop [1, 5] (fun v i => v = .int .i64 k ∧ i = .int .i64 0) (fun _ _ => 0)
  case atStart => exact ⟨rfl, rfl⟩
  case round =>
    obtain ⟨rfl, rfl⟩ := hrel
    go_wp2
    go_ret
    exact ⟨rfl, rfl⟩
end Go.Proofs.Ytjnloillcgeodaa
/- Contracts of the making of an empty store, in the program and in the model. No condition. -/
namespace Go.Proofs.Ytjnloillcgeodaa
open Go.RowKit Go.Joins

/-- No version. -/
def v0 : V := ⟨0, 0, 0, none, 0, [], ⟨#[]⟩, false⟩
abbrev zero24 : Array Value := #[.int .i64 0, .int .i64 0, .int .i64 0, .slice none 0 0, .string ⟨#[]⟩, .bool false, .int .i64 0, .int .i64 0, .int .i64 0, .slice none 0 0, .string ⟨#[]⟩, .bool false, .int .i64 0, .int .i64 0, .int .i64 0, .slice none 0 0, .string ⟨#[]⟩, .bool false, .int .i64 0, .int .i64 0, .int .i64 0, .slice none 0 0, .string ⟨#[]⟩, .bool false]
theorem zero24_at : ∀ (i : Nat) (v : V), [v0, v0, v0, v0][i]? = some v → VerAt zero24 i v := by
  intro i v h
  match i with
  | 0 => simp at h; subst h; exact ⟨rfl, rfl, rfl, rfl, rfl, rfl⟩
  | 1 => simp at h; subst h; exact ⟨rfl, rfl, rfl, rfl, rfl, rfl⟩
  | 2 => simp at h; subst h; exact ⟨rfl, rfl, rfl, rfl, rfl, rfl⟩
  | 3 => simp at h; subst h; exact ⟨rfl, rfl, rfl, rfl, rfl, rfl⟩
  | n + 4 => simp at h
theorem v0_mem {v : V} {i : Nat} (h : [v0, v0, v0, v0][i]? = some v) : v = v0 := by
  have := List.mem_of_getElem? h
  simpa using this
theorem zero24_vg {w : World} {g : Nat} (h : Blk w g 32 zero24) : Vg w w.heap.size (some ⟨g, 0, none⟩) [v0, v0, v0, v0] :=
  .inr ⟨g, 0, rfl, h.inside, fun i v hi => by
    obtain ⟨h0, h1, h2, h3, h4, h5⟩ := zero24_at i v hi
    refine ⟨⟨?_, ?_, ?_, ?_, ?_, ?_⟩, ?_⟩
    · rw [Nat.zero_add, h.at]; exact h0
    · rw [Nat.zero_add, h.at]; exact h1
    · rw [Nat.zero_add, h.at]; exact h2
    · rw [Nat.zero_add, h.at]; exact h3
    · rw [Nat.zero_add, h.at]; exact h4
    · rw [Nat.zero_add, h.at]; exact h5
    · rw [v0_mem hi]; exact .inl rfl⟩
theorem like0 : Like [v0, v0, v0, v0] [v0, v0, v0, v0] := fun i v v' h h' => by
  rw [v0_mem h, v0_mem h']
  exact ⟨rfl, rfl, rfl, rfl, rfl, rfl⟩
/-- What StoreNew leaves. -/
def NewSt (w : World) (e : Ending) (w' : World) : Prop :=
  ∃ g : Nat, e = .returned (.agg #[.slice (some ⟨g, 0, none⟩) 4 4]) ∧ w.heap.size ≤ g ∧ Blk w' g 32 zero24 ∧ Below w.heap.size w w'
theorem eqStore_new (g g' : Nat) (w : World) (h : Blk w g 32 zero24) (h' : Blk w g' 32 zero24) :
    Calls Try.prog 110 #[.agg #[.slice (some ⟨g, 0, none⟩) 4 4], .agg #[.slice (some ⟨g', 0, none⟩) 4 4]] w fun e w' => e = .returned (.bool true) ∧ Below w.heap.size w w' :=
  eqStore_same _ _ 4 4 4 [v0, v0, v0, v0] [v0, v0, v0, v0] w (by omega) rfl rfl like0 (fun v hv => by
    have : v = v0 := by simpa using hv
    rw [this]; simp [v0]) (zero24_vg h) (zero24_vg h')

set_option maxRecDepth 100000 in
set_option maxHeartbeats 1000000 in
theorem l2New_any (w : World) : Calls Try.prog 115 #[] w (NewSt w) := by
  have hmk : ∀ W : World, (Instr.makeSlice 41 (.int .i64 4) (.int .i64 4)).run Try.prog W = .ok (.slice (some ⟨W.heap.size, 0, none⟩) 4 4) (W.alloc (.cells zero24 32)) := fun _ => by kernel_rfl
  go_enter Try.func115, Try.ntmps115
  go_wp2
  refine bodyPost_ret (v := .agg #[.slice (some ⟨w.heap.size + 1, 0, none⟩) 4 4]) (by simp [results, Try.results115, go_sem]) rfl ?_
  have B0 := Blk.made (w.alloc (.cells #[.slice (some ⟨w.heap.size + 1, 0, none⟩) 4 4] 43)) 32 zero24
  simp only [World.size_alloc] at B0
  exact ⟨w.heap.size + 1, rfl, Nat.le_succ _, B0, below_alloc2 _ _ _⟩
end Go.Proofs.Ytjnloillcgeodaa
