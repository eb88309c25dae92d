/- Chains of valid nodes that a call answers: few marks; compared, marked, and the marks found again. -/
import Derived.Test.YtbbaogpgapemhaaGreatJChainJoin3
import Derived.Test.YtbbaogpgapemhaaGreatJNodes
import Derived.Test.YtbbaogpgapemhaaGreatJPastOk
import Derived.Test.YtbbaogpgapemhaaGreatJPastRes
import Derived.Test.YtbbaogpgapemhaaGreatJStoreJoin
import Derived.Test.YtbbaogpgapemhaaGreatJNodeOk
namespace Go.Proofs.YtbbaogpgapemhaaGreat
open Go.RowKit Go.Joins

/-- At most four nodes, each valid by itself. -/
def FineN (rs : List Nd) : Prop := rs.length ≤ 4 ∧ ∀ (i : Nat) n, rs[i]? = some n → nodeB n = true
theorem FineN.like {us rs : List Nd} (h : NL us rs) (hr : FineN rs) : FineN us := ⟨by rw [h.1]; exact hr.1, fun i n hi => by
  obtain ⟨m, hm, hl⟩ := nl_at h hi
  rw [nodeB_like hl]
  exact hr.2 i m hm⟩
theorem node_ts {n : Nd} (h : nodeB n = true) : (n.ss.length = 4 ∧ ∀ v ∈ n.ss, v.ts.length ≤ 4) ∧ n.ws.length ≤ 6 ∧ ∀ v ∈ n.ws, v.ts.length ≤ 4 := by
  obtain ⟨h1, h2, h3⟩ := nodeB_parts h
  exact ⟨⟨storeB_four h1, (few_store h1).2⟩, h2, fun v hv => Nat.le_of_eq (pastB_len4 (verB_parts (h3 v hv)).2.2.2)⟩
theorem FineN.small {rs : List Nd} (h : FineN rs) : SmallN rs := fun n hn => by
  obtain ⟨i, hi⟩ := List.getElem?_of_mem hn
  obtain ⟨⟨h1, h2⟩, h3, h4⟩ := node_ts (h.2 i n hi)
  exact ⟨by omega, by omega, fun v hv => by have := h2 v hv; omega, fun v hv => by have := h4 v hv; omega⟩
theorem wtN_fine {n : Nd} (h : nodeB n = true) : wtN n ≤ 130 := by
  obtain ⟨⟨h1, h2⟩, h3, h4⟩ := node_ts h
  have := few_wts n.ss h2
  have := few_wts n.ws h4
  unfold wtN
  omega
theorem wtNs_fine : ∀ (rs : List Nd), (∀ n ∈ rs, nodeB n = true) → wtNs rs ≤ 130 * (rs.length : Int)
  | [], _ => by simp [wtNs]
  | n :: r, h => by
    have h1 := wtNs_fine r (fun x hx => h x (List.mem_cons_of_mem _ hx))
    have h2 := wtN_fine (h n (List.mem_cons_self ..))
    unfold wtNs at *
    simp at *
    omega
theorem FineN.wt {rs : List Nd} (h : FineN rs) : wtNs rs ≤ 520 := by
  have := wtNs_fine rs (fun n hn => by obtain ⟨i, hi⟩ := List.getElem?_of_mem hn; exact h.2 i n hi)
  have := h.1
  omega
end Go.Proofs.YtbbaogpgapemhaaGreat
/- A version comes to a node: said plainly; and one node of a row of nodes changed in memory. No condition. -/
namespace Go.Proofs.YtbbaogpgapemhaaGreat
open Go.RowKit Go.Joins

/-- A node to which a version comes, if that is later: it waits to be passed on, unless the node is the last one. -/
def addNd (n : Nd) (last : Bool) (v : V) : Nd := match stepL n.ss v with | some ss' => ⟨n.sa, n.sc, ss', n.wa, n.wc, if last = true then n.ws else n.ws ++ [v]⟩ | none => n
def addN (ns : List Nd) (k : Nat) (v : V) : List Nd := match ns[k]? with | some n => ns.set k (addNd n (decide (k + 1 = ns.length)) v) | none => ns
theorem CRow.tagFoot {base : Nat} {w : World} {A : Option Addr} {m c : Nat} {us : List V} (h : CRow base w (.slice A m c) us) {i : Nat} {v : V} (hi : us[i]? = some v) (hne : v.ts ≠ []) {g : Nat} (hg : v.a = some ⟨g, 0, none⟩) : FootS A us g := by
  have h0 : us ≠ [] := fun e => by rw [e] at hi; simp at hi
  rcases h.row.2 with ⟨_, e⟩ | ⟨G, cap, cr, e, _⟩
  · exact absurd (List.length_eq_zero_iff.1 e) h0
  · injection e with e _ _
    exact ⟨h0, G, e, .inr ⟨i, v, hi, hne, hg⟩⟩
/-- One node of a row of nodes is changed; what turns is its own, or the row's. -/
theorem GRow.set {P : Nat → Prop} {base : Nat} {wr w' : World} {x : Value} {us : List Nd} {k : Nat} {n n' : Nd} (h : GRow base wr x us) (hk : us[k]? = some n) (ht : Turn P wr w') (hrow : w'.ownsRow base 132 2 x us.length (flatN (us.set k n')))
    (hs : ResS w' base w'.heap.size n'.sa n'.ss) (hc : CRow base w' (.slice n'.wa n'.ws.length n'.wc) n'.ws) (h2 : ∀ g, FootS n'.sa n'.ss g → ¬ FootW n' g)
    (hP : ∀ g, P g → FootO n g ∨ x.ownBlock = some g) (hf : ∀ g, FootO n' g → FootO n g ∨ wr.heap.size ≤ g) : GRow base w' x (us.set k n') := by
  have hkl := (List.getElem?_eq_some_iff.1 hk).1
  have key : ∀ (i : Nat) y, (us.set k n')[i]? = some y → (i = k ∧ y = n') ∨ (i ≠ k ∧ us[i]? = some y) := by
    intro i y hy
    by_cases e : i = k
    · subst e
      rw [List.getElem?_set_self hkl] at hy
      injection hy with hy
      exact .inl ⟨rfl, hy.symm⟩
    · rw [List.getElem?_set_ne (fun e' => e e'.symm)] at hy
      exact .inr ⟨e, hy⟩
  have hno : ∀ (i : Nat) y, i ≠ k → us[i]? = some y → ∀ g, FootO y g → P g → x.ownBlock = some g := fun i y hne hy g hg hp => by
    rcases hP g hp with q | q
    · exact absurd q (h.apart i k y n hne hy hk g hg)
    · exact q
  have hkR : ∀ {B U : Nat} {A : Option Addr} {l : List V} {g : Nat}, ResS wr B U A l → FootS A l g → ¬ x.ownBlock = some g := fun hr hf e => by
    obtain ⟨cs, h1, _⟩ := h.typed _ e
    obtain ⟨T, cs', h3, h4, _⟩ := hr.typed hf
    exact h4 (blk_one h3 h1)
  refine ⟨by rw [List.length_set]; exact hrow, fun i y hy => ?_, fun i y hy => ?_, fun i y hy => ?_, fun i j y y' hne hy hy' => ?_, Nat.le_trans h.lo ht.size, fun i y hy => ?_⟩
  · rcases key i y hy with ⟨_, rfl⟩ | ⟨e, hq⟩
    · exact hs
    · exact ((h.store i y hq).turnF ht (fun g hg hp => hkR (h.store i y hq) hg (hno i y e hq g (.inl hg) hp))).wide ht.size
  · rcases key i y hy with ⟨_, rfl⟩ | ⟨e, hq⟩
    · obtain ⟨A, cap, e, hR⟩ := hc.resS
      injection e with e _ _
      rw [e]
      exact hR
    · exact ((h.wait i y hq).turnF ht (fun g hg hp => hkR (h.wait i y hq) hg (hno i y e hq g (.inr (.inl hg)) hp))).wide ht.size
  · rcases key i y hy with ⟨_, rfl⟩ | ⟨e, hq⟩
    · exact h2
    · exact h.two i y hq
  · intro g h3 h4
    rcases key i y hy with ⟨e1, rfl⟩ | ⟨e1, hq⟩ <;> rcases key j y' hy' with ⟨e2, rfl⟩ | ⟨e2, hq'⟩
    · omega
    · rcases hf g h3 with q | q
      · exact h.apart k j n y' (fun e => e2 e.symm) hk hq' g q h4
      · have := h.foot hq' h4; omega
    · rcases hf g h4 with q | q
      · exact h.apart k i n y (fun e => e1 e.symm) hk hq g q h3
      · have := h.foot hq h3; omega
    · exact h.apart i j y y' hne hq hq' g h3 h4
  · rcases key i y hy with ⟨_, rfl⟩ | ⟨e, hq⟩
    · exact hc
    · refine (h.own i y hq).turned ht (fun g hg hp => ?_) (fun l v hl g hg _ hne hp => ?_)
      · have e1 := hno i y e hq g (.inr (.inr hg)) hp
        obtain ⟨cs, b1, _⟩ := h.typed g e1
        obtain ⟨cs', b2, _⟩ := (h.own i y hq).typed g hg
        exact node_ne_ver (blk_one b1 b2)
      · have hft := (h.own i y hq).tagFoot hl hne hg
        exact hkR (h.wait i y hq) hft (hno i y e hq g (.inr (.inl hft)) hp)
end Go.Proofs.YtbbaogpgapemhaaGreat
/- What ChainPut answers, said plainly; contracts of whether there is room, in the program and in the model. -/
namespace Go.Proofs.YtbbaogpgapemhaaGreat
open Go.RowKit Go.Joins
attribute [local go_sem ↓] Go.wp_at_zero Go.wp_at_succ

/-- Whether there is room for one more at the head. -/
def roomB (ns : List Nd) : Bool := match ns[0]? with | some n => decide (n.ws.length < 6) | none => false
/-- What ChainPut answers. -/
def putN (ns : List Nd) (v : V) : List Nd := if chainB ns = true ∧ verV v = true then (if roomB ns = true then addN ns 0 v else ns) else []
def putK (ns : List Nd) (v : V) : Bool := chainB ns && verV v && roomB ns
end Go.Proofs.YtbbaogpgapemhaaGreat
/- One node of a row of nodes: a version put into its store, a version more that waits. No condition. -/
namespace Go.Proofs.YtbbaogpgapemhaaGreat
open Go.RowKit Go.Joins

end Go.Proofs.YtbbaogpgapemhaaGreat
/- The model lets a later version into a row: which one stands there then. Condition: a row of four, a key from 0 to 3. -/
namespace Go.Proofs.YtbbaogpgapemhaaGreat
open Go.RowKit Go.Joins
attribute [local go_sem ↓] Go.wp_at_zero Go.wp_at_succ

/-- What letting a later version in leaves: a copy of it in its place, the others as they were. -/
def PutL (w : World) (B G : Nat) (us : List V) (v : V) (kn : Nat) (x : Value) (e : Ending) (w' : World) : Prop :=
  ∃ (v' : V) (cur' : Array Value), e = .returned x ∧ V.like v' v ∧ Own1 w' w.heap.size w'.heap.size v' ∧ ORow w' B w'.heap.size G (us.set kn v') cur' ∧ Turn (fun g => g = G) w w'
end Go.Proofs.YtbbaogpgapemhaaGreat
/- Contract of the model's l3Add: a version comes to a node of a chain that is the caller's own. Condition: at most four nodes, the node valid. -/
namespace Go.Proofs.YtbbaogpgapemhaaGreat
open Go.RowKit Go.Joins
attribute [local go_sem ↓] Go.wp_at_zero Go.wp_at_succ

theorem Turn.mono {P Q : Nat → Prop} {w w' : World} (h : Turn P w w') (hq : ∀ g, P g → Q g) : Turn Q w w' := ⟨h.os, h.tape, h.output, h.size, fun k hk hn => h.block k hk (fun hp => hn (hq k hp))⟩
/-- Blocks that a version that comes may change: of versions or of nodes, from base on. -/
def TouchC (w : World) (base g : Nat) : Prop := base ≤ g ∧ ∃ cs, Blk w g 68 cs ∨ Blk w g 132 cs
/-- What l3Add leaves. -/
def AddedC (w : World) (base G xc : Nat) (us : List Nd) (k : Nat) (v : V) (e : Ending) (w' : World) : Prop :=
  ∃ us' : List Nd, e = .returned (.agg #[.slice (some ⟨G, 0, none⟩) us.length xc]) ∧ NL us' (addN us k v) ∧ GRow base w' (.slice (some ⟨G, 0, none⟩) us.length xc) us' ∧ Turn (TouchC w base) w w'
/-- A version with a key and causes as a valid one has; a node with room for such. -/
def shV (v : V) : Prop := (0 ≤ v.k ∧ v.k ≤ 3) ∧ v.ts.length = 4
def shN (n : Nd) : Prop := n.ss.length = 4 ∧ n.ws.length ≤ 6 ∧ ∀ v ∈ n.ws, shV v
end Go.Proofs.YtbbaogpgapemhaaGreat
/- Contract of the program's apply where the version is not later: nothing changes. Condition: at most four nodes, the node valid. -/
namespace Go.Proofs.YtbbaogpgapemhaaGreat
open Go.RowKit Go.Joins
attribute [local go_sem ↓] Go.wp_at_zero Go.wp_at_succ

/-- What apply leaves. -/
def AppliedC (w : World) (base G xc : Nat) (us : List Nd) (k : Nat) (v : V) (e : Ending) (w' : World) : Prop :=
  ∃ us' : List Nd, e = .returned (.tuple #[]) ∧ NL us' (addN us k v) ∧ GRow base w' (.slice (some ⟨G, 0, none⟩) us.length xc) us' ∧ Turn (TouchC w base) w w'
end Go.Proofs.YtbbaogpgapemhaaGreat
/- A copy of a version put into a row: its causes are new. No condition. -/
namespace Go.Proofs.YtbbaogpgapemhaaGreat
open Go.RowKit Go.Joins

end Go.Proofs.YtbbaogpgapemhaaGreat
/- Contract of the program's apply where the version is later: it comes into the store and, unless the node is the last, waits there. Condition: at most four nodes, the node valid. -/
namespace Go.Proofs.YtbbaogpgapemhaaGreat
open Go.RowKit Go.Joins
attribute [local go_sem ↓] Go.wp_at_zero Go.wp_at_succ

end Go.Proofs.YtbbaogpgapemhaaGreat
/- Contract of the program's ChainPut. Condition: sizes that memory holds. -/
namespace Go.Proofs.YtbbaogpgapemhaaGreat
open Go.RowKit Go.Joins
attribute [local go_sem ↓] Go.wp_at_zero Go.wp_at_succ

end Go.Proofs.YtbbaogpgapemhaaGreat
/- Contract of the model's ChainPut. Condition: sizes that memory holds. -/
namespace Go.Proofs.YtbbaogpgapemhaaGreat
open Go.RowKit Go.Joins
attribute [local go_sem ↓] Go.wp_at_zero Go.wp_at_succ

theorem ResN.set {w : World} {B U : Nat} {A : Option Addr} {us : List Nd} (h : ResN w B U A us) {p : Addr} (hp : p.block < B ∨ U ≤ p.block) (u : Value) : ResN (w.setCell p u) B U A us :=
  h.turn (P := fun g => g = p.block) ((Turn.refl (fun g => g = p.block) w).set (p := p) rfl u) (fun g h1 h2 e => by omega)
theorem ResN.swap {w : World} {B U : Nat} {A : Option Addr} {us : List Nd} {o o' : Obj} (h : ResN (w.alloc o) B U A us) (hU : U ≤ w.heap.size) : ResN (w.alloc o') B U A us := by
  have ht : Turn (fun g => g = w.heap.size) (w.alloc o) (w.alloc o') := ⟨rfl, rfl, rfl, by simp, fun k hk hn => by
    have hk' : k < w.heap.size := by simp at hk; omega
    rw [Below.heap_alloc w o' k hk', Below.heap_alloc w o k hk']⟩
  exact h.turn ht (fun g h1 h2 e => by omega)
theorem NRow.low {w : World} {B B' U G : Nat} {ns : List Nd} {cur : Array Value} (h : NRow w B U G ns cur) (hb : B' ≤ B) : NRow w B' U G ns cur :=
  ⟨h.blk, Nat.le_trans hb h.lo, h.hi, h.size, h.at', fun i n hi => (h.store i n hi).low hb, fun i n hi => (h.wait i n hi).low hb, h.two, h.apart⟩
end Go.Proofs.YtbbaogpgapemhaaGreat
/- What ChainPass answers, said plainly; what waits at a node replaced, in memory. No condition. -/
namespace Go.Proofs.YtbbaogpgapemhaaGreat
open Go.RowKit Go.Joins

/-- A node without the first that waits there. -/
def tailNd (n : Nd) : Nd := ⟨n.sa, n.sc, n.ss, n.wa, n.wc, n.ws.tail⟩
/-- Whether a node can pass something on. -/
def canB (ns : List Nd) (k : Nat) : Bool := match ns[k]?, ns[k + 1]? with | some n, some m => decide (0 < n.ws.length) && decide (m.ws.length < 6) | _, _ => false
/-- The first that waits at a node comes to the next one. -/
def goN (ns : List Nd) (k : Nat) : List Nd := match ns[k]? with | some n => (match n.ws with | v :: _ => addN (ns.set k (tailNd n)) (k + 1) v | [] => ns) | none => ns
/-- What ChainPass answers. -/
def passN (ns : List Nd) (k : Int) : List Nd := if chainB ns = true then (if 0 ≤ k ∧ canB ns k.toNat = true then goN ns k.toNat else ns) else []
def passK (ns : List Nd) (k : Int) : Bool := chainB ns && (decide (0 ≤ k) && canB ns k.toNat)
theorem Vg.tail {w : World} {B b off : Nat} {v : V} {r : List V} (h : Vg w B (some ⟨b, off, none⟩) (v :: r)) : Vg w B (some ⟨b, off + 6, none⟩) r := by
  rcases h with h | ⟨b', off', e, hb, hx⟩
  · cases h
  · injection e with e
    injection e with e1 e2
    subst e1 e2
    refine .inr ⟨b, off + 6, rfl, hb, fun i x hi => ?_⟩
    have := hx (i + 1) x (by simpa using hi)
    rw [show off + (i + 1) * 6 = off + 6 + i * 6 by omega] at this
    exact this
/-- A row without its first, laid anew: the causes stay where they are. -/
theorem CRow.tail {base : Nat} {wr w1 : World} {A : Option Addr} {m c : Nat} {x : Value} {v : V} {r : List V} (h : CRow base wr (.slice A m c) (v :: r)) (hb : Below wr.heap.size wr w1) (hrow : w1.ownsRow base 68 6 x r.length (flat6 r)) : CRow base w1 x r :=
  ⟨hrow, fun i y hi => ((h.own (i + 1) y (by simpa using hi)).on hb).wide hb.size, fun i j y y' hne hi hj => h.apart (i + 1) (j + 1) y y' (by omega) (by simpa using hi) (by simpa using hj), Nat.le_trans h.lo hb.size⟩
end Go.Proofs.YtbbaogpgapemhaaGreat
/- Contracts of the functions that compare vectors of tags, in the program and in the model. Condition: at most 1048576 tags. -/
namespace Go.Proofs.YtbbaogpgapemhaaGreat
open Go.RowKit Go.Joins
attribute [local go_sem ↓] Go.wp_at_zero Go.wp_at_succ

/-- Whether no tag of the first list is later than the other's at its place. -/
def withinB (ts us : List (Int × Int)) : Bool := (ts.zip us).all fun p => !lessB p.2.1 p.2.2 p.1.1 p.1.2
/-- Up to place k none is later. -/
def NoLater (ts us : List (Int × Int)) (k : Nat) : Prop := ∀ (j : Nat) (x y : Int × Int), j < k → ts[j]? = some x → us[j]? = some y → lessB y.1 y.2 x.1 x.2 = false
theorem noLater_zero (ts us : List (Int × Int)) : NoLater ts us 0 := fun j _ _ hj => absurd hj (by omega)
theorem noLater_step {ts us : List (Int × Int)} {k : Nat} {x y : Int × Int} (h : NoLater ts us k) (hx : ts[k]? = some x) (hy : us[k]? = some y) (hl : lessB y.1 y.2 x.1 x.2 = false) : NoLater ts us (k + 1) := by
  intro j x' y' hj hx' hy'
  by_cases e : j = k
  · subst e
    rw [hx] at hx'
    rw [hy] at hy'
    injection hx' with hx'
    injection hy' with hy'
    subst hx' hy'
    exact hl
  · exact h j x' y' (by omega) hx' hy'
theorem within_t {ts us : List (Int × Int)} (hl : ts.length = 4) (h : NoLater ts us 4) : withinB ts us = true := by
  unfold withinB
  rw [List.all_eq_true]
  intro p hp
  obtain ⟨j, hj⟩ := List.getElem?_of_mem hp
  rw [List.getElem?_zip_eq_some] at hj
  have hlt := (List.getElem?_eq_some_iff.1 hj.1).1
  have := h j p.1 p.2 (by omega) hj.1 hj.2
  simp [this]
theorem within_f {ts us : List (Int × Int)} {k : Nat} {x y : Int × Int} (hx : ts[k]? = some x) (hy : us[k]? = some y) (hl : lessB y.1 y.2 x.1 x.2 = true) : withinB ts us = false := by
  unfold withinB
  rw [List.all_eq_false]
  refine ⟨(x, y), List.mem_of_getElem? (i := k) ?_, by simp [hl]⟩
  rw [List.getElem?_zip_eq_some]
  exact ⟨hx, hy⟩

set_option maxRecDepth 100000 in
set_option maxHeartbeats 1000000 in
theorem l1Within_any (a a' : Option Addr) (c c' : Nat) (ts us : List (Int × Int)) (w : World) (h4 : ts.length = 4) (h4' : us.length = 4) (ht : Tg w w.heap.size a ts) (hu : Tg w w.heap.size a' us) :
    Calls Tryz.prog 132 #[.agg #[.slice a 4 c], .agg #[.slice a' 4 c']] w fun e w' => e = .returned (.bool (withinB ts us)) ∧ Below w.heap.size w w' := by
  have S0 := ((Inv.start w).box 51 #[.slice a 4 c]).box 51 #[.slice a' 4 c']
  simp only [World.size_alloc] at S0
  have H4 := hide h4
  have H4' := hide h4'
  clear h4 h4'
  go_enter Tryz.func132, Tryz.ntmps132
  go_wp2
  go_loopw [5] (fun i wr => ∃ k : Nat, k ≤ 4 ∧ i = .int .i64 (k : Int) ∧ NoLater ts us k ∧ Inv w (w.heap.size + 1 + 1) [(w.heap.size + 1, 51, #[.slice a' 4 c']), (w.heap.size, 51, #[.slice a 4 c])] wr) (fun i _ => 4 - (intOf i).toNat)
  case atStart => exact ⟨0, Nat.zero_le _, rfl, noLater_zero _ _, S0⟩
  case round =>
    obtain ⟨k, hk, rfl, hno, hI⟩ := hrel
    clear S0
    by_cases hlt : k < 4
    · rcases ht with h0 | ⟨b, off, rfl, hb, hx⟩
      · have := H4.out; subst h0; simp at this
      · rcases hu with h0 | ⟨b', off', rfl, hb', hx'⟩
        · have := H4'.out; subst h0; simp at this
        · have hkl : k < ts.length := by have := H4.out; omega
          have hkl' : k < us.length := by have := H4'.out; omega
          obtain ⟨hc0, hc1⟩ := hx k _ (List.getElem?_eq_getElem hkl)
          obtain ⟨hd0, hd1⟩ := hx' k _ (List.getElem?_eq_getElem hkl')
          have HX := hide (List.getElem?_eq_getElem hkl)
          have HY := hide (List.getElem?_eq_getElem hkl')
          generalize ts[k] = x at hc0 hc1 HX
          generalize us[k] = y at hd0 hd1 HY
          obtain ⟨x1, x2⟩ := x
          obtain ⟨y1, y2⟩ := y
          simp only at hc0 hc1 hd0 hd1
          have C0 := hide hc0
          have C1 := hide hc1
          have D0 := hide hd0
          have D1 := hide hd1
          clear hx hx' hc0 hc1 hd0 hd1
          have i1 : (0 : Int) ≤ (k : Int) := by omega
          have i2 : (k : Int) < 4 := by omega
          go_wp2_with fail
          refine wp_region_noPanic ?_
          refine wp_region_held_drew (S := (fun w' => w'.cell? ⟨b, off + k * 2, none⟩ = some (.int .i64 x1) ∧ w'.cell? ⟨b, off + k * 2 + 1, none⟩ = some (.int .i64 x2) ∧ w'.cell? ⟨b', off' + k * 2, none⟩ = some (.int .i64 y1) ∧ w'.cell? ⟨b', off' + k * 2 + 1, none⟩ = some (.int .i64 y2) ∧ w'.cell? ⟨w.heap.size, 0, none⟩ = some (.slice (some ⟨b, off, none⟩) 4 c) ∧ w'.cell? ⟨w.heap.size + 1, 0, none⟩ = some (.slice (some ⟨b', off', none⟩) 4 c') ∧ Inv w (w.heap.size + 1 + 1) [(w.heap.size + 1, 51, #[.slice (some ⟨b', off', none⟩) 4 c']), (w.heap.size, 51, #[.slice (some ⟨b, off, none⟩) 4 c])] w')) (by kernel_rfl) (by exact ⟨(hI.below.cell (p := ⟨b, off + k * 2, none⟩) hb).trans C0.out, (hI.below.cell (p := ⟨b, off + k * 2 + 1, none⟩) hb).trans C1.out, (hI.below.cell (p := ⟨b', off' + k * 2, none⟩) hb').trans D0.out, (hI.below.cell (p := ⟨b', off' + k * 2 + 1, none⟩) hb').trans D1.out, (hI.nth 1 rfl).at 0, (hI.nth 0 rfl).at 0, hI.drew⟩) (fun hHeld => ?_)
          refine take_run 0 (some 10) (v := ?_) rfl rfl (by kernel_rfl) (by kernel_rfl) (by kernel_rfl) (fun _ _ _ h => h) (by rfl) ?_ hHeld ?_
          rotate_left
          · ((intro w hSw); (try dsimp only at hSw); go_simp <;> with_reducible rfl)
          simp only [Act.put, List.setIfInBounds_toArray, List.set_cons_zero, List.set_cons_succ]
          refine take_run 1 (some 11) (v := ?_) rfl rfl (by kernel_rfl) (by kernel_rfl) (by kernel_rfl) (fun _ _ _ h => h) (by rfl) ?_ hHeld ?_
          rotate_left
          · ((intro w hSw); (try dsimp only at hSw); go_simp <;> with_reducible rfl)
          simp only [Act.put, List.setIfInBounds_toArray, List.set_cons_zero, List.set_cons_succ]
          refine take_run 2 (some 12) (v := ?_) rfl rfl (by kernel_rfl) (by kernel_rfl) (by kernel_rfl) (fun _ _ _ h => h) (by rfl) ?_ hHeld ?_
          rotate_left
          · ((intro w hSw); (try dsimp only at hSw); go_simp <;> with_reducible rfl)
          simp only [Act.put, List.setIfInBounds_toArray, List.set_cons_zero, List.set_cons_succ]
          refine take_run 3 (some 13) (v := ?_) rfl rfl (by kernel_rfl) (by kernel_rfl) (by kernel_rfl) (fun _ _ _ h => h) (by rfl) ?_ hHeld ?_
          rotate_left
          · ((intro w hSw); (try dsimp only at hSw); go_simp <;> with_reducible rfl)
          simp only [Act.put, List.setIfInBounds_toArray, List.set_cons_zero, List.set_cons_succ]
          refine take_run 4 (some 14) (v := ?_) rfl rfl (by kernel_rfl) (by kernel_rfl) (by kernel_rfl) (fun _ _ _ h => h) (by rfl) ?_ hHeld ?_
          rotate_left
          · ((intro w hSw); (try dsimp only at hSw); go_simp <;> with_reducible rfl)
          simp only [Act.put, List.setIfInBounds_toArray, List.set_cons_zero, List.set_cons_succ]
          refine take_run 5 (some 15) (v := ?_) rfl rfl (by kernel_rfl) (by kernel_rfl) (by kernel_rfl) (fun _ _ _ h => h) (by rfl) ?_ hHeld ?_
          rotate_left
          · ((intro w hSw); (try dsimp only at hSw); go_simp <;> with_reducible rfl)
          simp only [Act.put, List.setIfInBounds_toArray, List.set_cons_zero, List.set_cons_succ]
          refine take_run 6 (some 16) (v := ?_) rfl rfl (by kernel_rfl) (by kernel_rfl) (by kernel_rfl) (fun _ _ _ h => h) (by rfl) ?_ hHeld ?_
          rotate_left
          · ((intro w hSw); (try dsimp only at hSw); go_simp <;> with_reducible rfl)
          simp only [Act.put, List.setIfInBounds_toArray, List.set_cons_zero, List.set_cons_succ]
          refine take_run 7 (some 17) (v := ?_) rfl rfl (by kernel_rfl) (by kernel_rfl) (by kernel_rfl) (fun _ _ _ h => h) (by rfl) ?_ hHeld ?_
          rotate_left
          · ((intro w hSw); (try dsimp only at hSw); go_simp <;> with_reducible rfl)
          simp only [Act.put, List.setIfInBounds_toArray, List.set_cons_zero, List.set_cons_succ]
          refine take_run 8 (some 18) (v := ?_) rfl rfl (by kernel_rfl) (by kernel_rfl) (by kernel_rfl) (fun _ _ _ h => h) (by rfl) ?_ hHeld ?_
          rotate_left
          · ((intro w hSw); (try dsimp only at hSw); go_simp <;> with_reducible rfl)
          simp only [Act.put, List.setIfInBounds_toArray, List.set_cons_zero, List.set_cons_succ]
          refine take_run 9 (some 19) (v := ?_) rfl rfl (by kernel_rfl) (by kernel_rfl) (by kernel_rfl) (fun _ _ _ h => h) (by rfl) ?_ hHeld ?_
          rotate_left
          · ((intro w hSw); (try dsimp only at hSw); go_simp <;> with_reducible rfl)
          simp only [Act.put, List.setIfInBounds_toArray, List.set_cons_zero, List.set_cons_succ]
          refine take_one 10 (by kernel_rfl) rfl (fun K hK => ?_)
          go_simp
          (refine (l1Less_any _ _ _ _ _).mono ?_; rintro e w1 ⟨rfl, hb1⟩)
          try go_wp2_with fail
          refine hK.out _ _ (by exact ⟨((hHeld.2.2.2.2.2.2.on hb1).below.cell (p := ⟨b, off + k * 2, none⟩) hb).trans C0.out, ((hHeld.2.2.2.2.2.2.on hb1).below.cell (p := ⟨b, off + k * 2 + 1, none⟩) hb).trans C1.out, ((hHeld.2.2.2.2.2.2.on hb1).below.cell (p := ⟨b', off' + k * 2, none⟩) hb').trans D0.out, ((hHeld.2.2.2.2.2.2.on hb1).below.cell (p := ⟨b', off' + k * 2 + 1, none⟩) hb').trans D1.out, ((hHeld.2.2.2.2.2.2.on hb1).nth 1 rfl).at 0, ((hHeld.2.2.2.2.2.2.on hb1).nth 0 rfl).at 0, hHeld.2.2.2.2.2.2.on hb1⟩) (fun hHeld => ?_)
          clear hK K
          refine wpAnyH_done (by kernel_rfl) ?_ _
          refine NoPanic.normal ?_
          have hI2 := hHeld.2.2.2.2.2.2
          clear hHeld hI
          cases hl : lessB y1 y2 x1 x2
          · have HN := noLater_step hno HX.out HY.out hl
            clear hno hl
            go_wp2
            exact ⟨⟨k + 1, by omega, by go_num, HN, hI2⟩, by simp [intOf]; omega⟩
          · have hf := hide (within_f HX.out HY.out hl)
            clear hl hno
            go_wp2
            go_ret
            exact ⟨ret_bool hf.out.symm, hI2.below⟩
    · have hk4 : k = 4 := by omega
      subst hk4
      clear hlt
      have hf := hide (within_t H4.out hno)
      clear hno
      go_wp2
      go_ret
      exact ⟨ret_bool hf.out.symm, hI.below⟩

set_option maxRecDepth 100000 in
set_option maxHeartbeats 2000000 in
theorem within_any (x0 x1 x2 x3 y0 y1 y2 y3 : Int × Int) (w : World) :
    Calls Tryz.prog 142 #[.agg #[.int .i64 x0.1, .int .i64 x0.2, .int .i64 x1.1, .int .i64 x1.2, .int .i64 x2.1, .int .i64 x2.2, .int .i64 x3.1, .int .i64 x3.2], .agg #[.int .i64 y0.1, .int .i64 y0.2, .int .i64 y1.1, .int .i64 y1.2, .int .i64 y2.1, .int .i64 y2.2, .int .i64 y3.1, .int .i64 y3.2]] w fun e w' => e = .returned (.bool (withinB [x0, x1, x2, x3] [y0, y1, y2, y3])) ∧ Below w.heap.size w w' := by
  have S0 := ((Inv.start w).box 156 #[.int .i64 x0.1, .int .i64 x0.2, .int .i64 x1.1, .int .i64 x1.2, .int .i64 x2.1, .int .i64 x2.2, .int .i64 x3.1, .int .i64 x3.2]).box 156 #[.int .i64 y0.1, .int .i64 y0.2, .int .i64 y1.1, .int .i64 y1.2, .int .i64 y2.1, .int .i64 y2.2, .int .i64 y3.1, .int .i64 y3.2]
  simp only [World.size_alloc] at S0
  have S1 : Inv w ((w.alloc (.cells #[.int .i64 x0.1, .int .i64 x0.2, .int .i64 x1.1, .int .i64 x1.2, .int .i64 x2.1, .int .i64 x2.2, .int .i64 x3.1, .int .i64 x3.2] 156)).alloc (.cells #[.int .i64 y0.1, .int .i64 y0.2, .int .i64 y1.1, .int .i64 y1.2, .int .i64 y2.1, .int .i64 y2.2, .int .i64 y3.1, .int .i64 y3.2] 156)).heap.size [(w.heap.size + 1, 156, #[.int .i64 y0.1, .int .i64 y0.2, .int .i64 y1.1, .int .i64 y1.2, .int .i64 y2.1, .int .i64 y2.2, .int .i64 y3.1, .int .i64 y3.2])] ((w.alloc (.cells #[.int .i64 x0.1, .int .i64 x0.2, .int .i64 x1.1, .int .i64 x1.2, .int .i64 x2.1, .int .i64 x2.2, .int .i64 x3.1, .int .i64 x3.2] 156)).alloc (.cells #[.int .i64 y0.1, .int .i64 y0.2, .int .i64 y1.1, .int .i64 y1.2, .int .i64 y2.1, .int .i64 y2.2, .int .i64 y3.1, .int .i64 y3.2] 156)) := (S0.top).sub (by simp)
  clear S0
  have i0 : ∀ W : World, (Instr.index 154 (.agg #[.int .i64 x0.1, .int .i64 x0.2, .int .i64 x1.1, .int .i64 x1.2, .int .i64 x2.1, .int .i64 x2.2, .int .i64 x3.1, .int .i64 x3.2]) (.int .i64 0)).run Tryz.prog W = .ok (.agg #[.int .i64 x0.1, .int .i64 x0.2]) W := fun _ => by kernel_rfl
  have i1 : ∀ W : World, (Instr.index 154 (.agg #[.int .i64 x0.1, .int .i64 x0.2, .int .i64 x1.1, .int .i64 x1.2, .int .i64 x2.1, .int .i64 x2.2, .int .i64 x3.1, .int .i64 x3.2]) (.int .i64 1)).run Tryz.prog W = .ok (.agg #[.int .i64 x1.1, .int .i64 x1.2]) W := fun _ => by kernel_rfl
  have i2 : ∀ W : World, (Instr.index 154 (.agg #[.int .i64 x0.1, .int .i64 x0.2, .int .i64 x1.1, .int .i64 x1.2, .int .i64 x2.1, .int .i64 x2.2, .int .i64 x3.1, .int .i64 x3.2]) (.int .i64 2)).run Tryz.prog W = .ok (.agg #[.int .i64 x2.1, .int .i64 x2.2]) W := fun _ => by kernel_rfl
  have i3 : ∀ W : World, (Instr.index 154 (.agg #[.int .i64 x0.1, .int .i64 x0.2, .int .i64 x1.1, .int .i64 x1.2, .int .i64 x2.1, .int .i64 x2.2, .int .i64 x3.1, .int .i64 x3.2]) (.int .i64 3)).run Tryz.prog W = .ok (.agg #[.int .i64 x3.1, .int .i64 x3.2]) W := fun _ => by kernel_rfl
  go_enter Tryz.func142, Tryz.ntmps142
  go_wp2
  go_loopw [9] (fun i wr => ∃ k : Int, 0 ≤ k ∧ k ≤ 4 ∧ i = .int .i64 k ∧ Hid (NoLater [x0, x1, x2, x3] [y0, y1, y2, y3] k.toNat) ∧ Inv w wr.heap.size [(w.heap.size + 1, 156, #[.int .i64 y0.1, .int .i64 y0.2, .int .i64 y1.1, .int .i64 y1.2, .int .i64 y2.1, .int .i64 y2.2, .int .i64 y3.1, .int .i64 y3.2])] wr) (fun i _ => 4 - (intOf i).toNat)
  case atStart => exact ⟨0, by omega, by omega, rfl, noLater_zero _ _, S1⟩
  case round =>
    obtain ⟨k, hk0, hk, rfl, hno, hI⟩ := hrel
    clear S1
    have hcase : k = 0 ∨ k = 1 ∨ k = 2 ∨ k = 3 ∨ k = 4 := by omega
    rcases hcase with rfl | rfl | rfl | rfl | rfl
    · have V0 := (hI.top).box 46 #[.int .i64 x0.1, .int .i64 x0.2]
      simp only [World.size_alloc] at V0
      go_wp2_with fail
      generalize wr.alloc (.cells #[.int .i64 x0.1, .int .i64 x0.2] 46) = W at V0 ⊢
      refine wp_region_noPanic ?_
      refine wp_region_held_drew (S := (fun w' => w'.cell? ⟨wr.heap.size, 0, none⟩ = some (.int .i64 x0.1) ∧ w'.cell? ⟨wr.heap.size, 1, none⟩ = some (.int .i64 x0.2) ∧ w'.cell? ⟨w.heap.size + 1, 0, none⟩ = some (.int .i64 y0.1) ∧ w'.cell? ⟨w.heap.size + 1, 1, none⟩ = some (.int .i64 y0.2) ∧ Inv w (wr.heap.size + 1) [(wr.heap.size, 46, #[.int .i64 x0.1, .int .i64 x0.2]), (w.heap.size + 1, 156, #[.int .i64 y0.1, .int .i64 y0.2, .int .i64 y1.1, .int .i64 y1.2, .int .i64 y2.1, .int .i64 y2.2, .int .i64 y3.1, .int .i64 y3.2])] w')) (by kernel_rfl) (by exact ⟨(V0.nth 0 rfl).at 0, (V0.nth 0 rfl).at 1, (V0.nth 1 rfl).at 0, (V0.nth 1 rfl).at 1, V0.drew⟩) (fun hHeld => ?_)
      refine take_run 0 (some 13) (v := ?_) rfl rfl (by kernel_rfl) (by kernel_rfl) (by kernel_rfl) (fun _ _ _ h => h) (by rfl) ?_ hHeld ?_
      rotate_left
      · ((intro w hSw); (try dsimp only at hSw); go_simp <;> with_reducible rfl)
      simp only [Act.put, List.setIfInBounds_toArray, List.set_cons_zero, List.set_cons_succ]
      refine take_run 1 (some 14) (v := ?_) rfl rfl (by kernel_rfl) (by kernel_rfl) (by kernel_rfl) (fun _ _ _ h => h) (by rfl) ?_ hHeld ?_
      rotate_left
      · ((intro w hSw); (try dsimp only at hSw); go_simp <;> with_reducible rfl)
      simp only [Act.put, List.setIfInBounds_toArray, List.set_cons_zero, List.set_cons_succ]
      refine take_run 2 (some 15) (v := ?_) rfl rfl (by kernel_rfl) (by kernel_rfl) (by kernel_rfl) (fun _ _ _ h => h) (by rfl) ?_ hHeld ?_
      rotate_left
      · ((intro w hSw); (try dsimp only at hSw); go_simp <;> with_reducible rfl)
      simp only [Act.put, List.setIfInBounds_toArray, List.set_cons_zero, List.set_cons_succ]
      refine take_run 3 (some 16) (v := ?_) rfl rfl (by kernel_rfl) (by kernel_rfl) (by kernel_rfl) (fun _ _ _ h => h) (by rfl) ?_ hHeld ?_
      rotate_left
      · ((intro w hSw); (try dsimp only at hSw); go_simp <;> with_reducible rfl)
      simp only [Act.put, List.setIfInBounds_toArray, List.set_cons_zero, List.set_cons_succ]
      refine take_run 4 (some 17) (v := ?_) rfl rfl (by kernel_rfl) (by kernel_rfl) (by kernel_rfl) (fun _ _ _ h => h) (by rfl) ?_ hHeld ?_
      rotate_left
      · ((intro w hSw); (try dsimp only at hSw); go_simp <;> with_reducible rfl)
      simp only [Act.put, List.setIfInBounds_toArray, List.set_cons_zero, List.set_cons_succ]
      refine take_one 5 (by kernel_rfl) rfl (fun K hK => ?_)
      go_simp
      (refine (less_any _ _ _ _ _).mono ?_; rintro e w1 ⟨rfl, hb1⟩)
      try go_wp2_with fail
      refine hK.out _ _ (by exact ⟨((hHeld.2.2.2.2.on hb1).nth 0 rfl).at 0, ((hHeld.2.2.2.2.on hb1).nth 0 rfl).at 1, ((hHeld.2.2.2.2.on hb1).nth 1 rfl).at 0, ((hHeld.2.2.2.2.on hb1).nth 1 rfl).at 1, hHeld.2.2.2.2.on hb1⟩) (fun hHeld => ?_)
      clear hK K
      refine wpAnyH_done (by kernel_rfl) ?_ _
      refine NoPanic.normal ?_
      have hI2 : Inv w (wr.heap.size + 1) [(w.heap.size + 1, 156, #[.int .i64 y0.1, .int .i64 y0.2, .int .i64 y1.1, .int .i64 y1.2, .int .i64 y2.1, .int .i64 y2.2, .int .i64 y3.1, .int .i64 y3.2])] w1 := hHeld.2.2.2.2.sub (by simp)
      clear hHeld V0
      have hz := hI.base
      cases hl : lessB y0.1 y0.2 x0.1 x0.2
      · have HN : Hid (NoLater [x0, x1, x2, x3] [y0, y1, y2, y3] (1 : Int).toNat) := noLater_step (ts := [x0, x1, x2, x3]) (us := [y0, y1, y2, y3]) (k := 0) hno.out rfl rfl hl
        clear hno hl
        go_wp2
        exact ⟨⟨1, by omega, by omega, by go_num, HN, hI2.top⟩, by simp [intOf]⟩
      · have hf := hide (within_f (ts := [x0, x1, x2, x3]) (us := [y0, y1, y2, y3]) (k := 0) rfl rfl hl)
        clear hl hno
        go_wp2
        go_ret
        exact ⟨ret_bool hf.out.symm, hI2.below⟩
    · have V0 := (hI.top).box 46 #[.int .i64 x1.1, .int .i64 x1.2]
      simp only [World.size_alloc] at V0
      go_wp2_with fail
      generalize wr.alloc (.cells #[.int .i64 x1.1, .int .i64 x1.2] 46) = W at V0 ⊢
      refine wp_region_noPanic ?_
      refine wp_region_held_drew (S := (fun w' => w'.cell? ⟨wr.heap.size, 0, none⟩ = some (.int .i64 x1.1) ∧ w'.cell? ⟨wr.heap.size, 1, none⟩ = some (.int .i64 x1.2) ∧ w'.cell? ⟨w.heap.size + 1, 2, none⟩ = some (.int .i64 y1.1) ∧ w'.cell? ⟨w.heap.size + 1, 3, none⟩ = some (.int .i64 y1.2) ∧ Inv w (wr.heap.size + 1) [(wr.heap.size, 46, #[.int .i64 x1.1, .int .i64 x1.2]), (w.heap.size + 1, 156, #[.int .i64 y0.1, .int .i64 y0.2, .int .i64 y1.1, .int .i64 y1.2, .int .i64 y2.1, .int .i64 y2.2, .int .i64 y3.1, .int .i64 y3.2])] w')) (by kernel_rfl) (by exact ⟨(V0.nth 0 rfl).at 0, (V0.nth 0 rfl).at 1, (V0.nth 1 rfl).at 2, (V0.nth 1 rfl).at 3, V0.drew⟩) (fun hHeld => ?_)
      refine take_run 0 (some 13) (v := ?_) rfl rfl (by kernel_rfl) (by kernel_rfl) (by kernel_rfl) (fun _ _ _ h => h) (by rfl) ?_ hHeld ?_
      rotate_left
      · ((intro w hSw); (try dsimp only at hSw); go_simp <;> with_reducible rfl)
      simp only [Act.put, List.setIfInBounds_toArray, List.set_cons_zero, List.set_cons_succ]
      refine take_run 1 (some 14) (v := ?_) rfl rfl (by kernel_rfl) (by kernel_rfl) (by kernel_rfl) (fun _ _ _ h => h) (by rfl) ?_ hHeld ?_
      rotate_left
      · ((intro w hSw); (try dsimp only at hSw); go_simp <;> with_reducible rfl)
      simp only [Act.put, List.setIfInBounds_toArray, List.set_cons_zero, List.set_cons_succ]
      refine take_run 2 (some 15) (v := ?_) rfl rfl (by kernel_rfl) (by kernel_rfl) (by kernel_rfl) (fun _ _ _ h => h) (by rfl) ?_ hHeld ?_
      rotate_left
      · ((intro w hSw); (try dsimp only at hSw); go_simp <;> with_reducible rfl)
      simp only [Act.put, List.setIfInBounds_toArray, List.set_cons_zero, List.set_cons_succ]
      refine take_run 3 (some 16) (v := ?_) rfl rfl (by kernel_rfl) (by kernel_rfl) (by kernel_rfl) (fun _ _ _ h => h) (by rfl) ?_ hHeld ?_
      rotate_left
      · ((intro w hSw); (try dsimp only at hSw); go_simp <;> with_reducible rfl)
      simp only [Act.put, List.setIfInBounds_toArray, List.set_cons_zero, List.set_cons_succ]
      refine take_run 4 (some 17) (v := ?_) rfl rfl (by kernel_rfl) (by kernel_rfl) (by kernel_rfl) (fun _ _ _ h => h) (by rfl) ?_ hHeld ?_
      rotate_left
      · ((intro w hSw); (try dsimp only at hSw); go_simp <;> with_reducible rfl)
      simp only [Act.put, List.setIfInBounds_toArray, List.set_cons_zero, List.set_cons_succ]
      refine take_one 5 (by kernel_rfl) rfl (fun K hK => ?_)
      go_simp
      (refine (less_any _ _ _ _ _).mono ?_; rintro e w1 ⟨rfl, hb1⟩)
      try go_wp2_with fail
      refine hK.out _ _ (by exact ⟨((hHeld.2.2.2.2.on hb1).nth 0 rfl).at 0, ((hHeld.2.2.2.2.on hb1).nth 0 rfl).at 1, ((hHeld.2.2.2.2.on hb1).nth 1 rfl).at 2, ((hHeld.2.2.2.2.on hb1).nth 1 rfl).at 3, hHeld.2.2.2.2.on hb1⟩) (fun hHeld => ?_)
      clear hK K
      refine wpAnyH_done (by kernel_rfl) ?_ _
      refine NoPanic.normal ?_
      have hI2 : Inv w (wr.heap.size + 1) [(w.heap.size + 1, 156, #[.int .i64 y0.1, .int .i64 y0.2, .int .i64 y1.1, .int .i64 y1.2, .int .i64 y2.1, .int .i64 y2.2, .int .i64 y3.1, .int .i64 y3.2])] w1 := hHeld.2.2.2.2.sub (by simp)
      clear hHeld V0
      have hz := hI.base
      cases hl : lessB y1.1 y1.2 x1.1 x1.2
      · have HN : Hid (NoLater [x0, x1, x2, x3] [y0, y1, y2, y3] (2 : Int).toNat) := noLater_step (ts := [x0, x1, x2, x3]) (us := [y0, y1, y2, y3]) (k := 1) hno.out rfl rfl hl
        clear hno hl
        go_wp2
        exact ⟨⟨2, by omega, by omega, by go_num, HN, hI2.top⟩, by simp [intOf]⟩
      · have hf := hide (within_f (ts := [x0, x1, x2, x3]) (us := [y0, y1, y2, y3]) (k := 1) rfl rfl hl)
        clear hl hno
        go_wp2
        go_ret
        exact ⟨ret_bool hf.out.symm, hI2.below⟩
    · have V0 := (hI.top).box 46 #[.int .i64 x2.1, .int .i64 x2.2]
      simp only [World.size_alloc] at V0
      go_wp2_with fail
      generalize wr.alloc (.cells #[.int .i64 x2.1, .int .i64 x2.2] 46) = W at V0 ⊢
      refine wp_region_noPanic ?_
      refine wp_region_held_drew (S := (fun w' => w'.cell? ⟨wr.heap.size, 0, none⟩ = some (.int .i64 x2.1) ∧ w'.cell? ⟨wr.heap.size, 1, none⟩ = some (.int .i64 x2.2) ∧ w'.cell? ⟨w.heap.size + 1, 4, none⟩ = some (.int .i64 y2.1) ∧ w'.cell? ⟨w.heap.size + 1, 5, none⟩ = some (.int .i64 y2.2) ∧ Inv w (wr.heap.size + 1) [(wr.heap.size, 46, #[.int .i64 x2.1, .int .i64 x2.2]), (w.heap.size + 1, 156, #[.int .i64 y0.1, .int .i64 y0.2, .int .i64 y1.1, .int .i64 y1.2, .int .i64 y2.1, .int .i64 y2.2, .int .i64 y3.1, .int .i64 y3.2])] w')) (by kernel_rfl) (by exact ⟨(V0.nth 0 rfl).at 0, (V0.nth 0 rfl).at 1, (V0.nth 1 rfl).at 4, (V0.nth 1 rfl).at 5, V0.drew⟩) (fun hHeld => ?_)
      refine take_run 0 (some 13) (v := ?_) rfl rfl (by kernel_rfl) (by kernel_rfl) (by kernel_rfl) (fun _ _ _ h => h) (by rfl) ?_ hHeld ?_
      rotate_left
      · ((intro w hSw); (try dsimp only at hSw); go_simp <;> with_reducible rfl)
      simp only [Act.put, List.setIfInBounds_toArray, List.set_cons_zero, List.set_cons_succ]
      refine take_run 1 (some 14) (v := ?_) rfl rfl (by kernel_rfl) (by kernel_rfl) (by kernel_rfl) (fun _ _ _ h => h) (by rfl) ?_ hHeld ?_
      rotate_left
      · ((intro w hSw); (try dsimp only at hSw); go_simp <;> with_reducible rfl)
      simp only [Act.put, List.setIfInBounds_toArray, List.set_cons_zero, List.set_cons_succ]
      refine take_run 2 (some 15) (v := ?_) rfl rfl (by kernel_rfl) (by kernel_rfl) (by kernel_rfl) (fun _ _ _ h => h) (by rfl) ?_ hHeld ?_
      rotate_left
      · ((intro w hSw); (try dsimp only at hSw); go_simp <;> with_reducible rfl)
      simp only [Act.put, List.setIfInBounds_toArray, List.set_cons_zero, List.set_cons_succ]
      refine take_run 3 (some 16) (v := ?_) rfl rfl (by kernel_rfl) (by kernel_rfl) (by kernel_rfl) (fun _ _ _ h => h) (by rfl) ?_ hHeld ?_
      rotate_left
      · ((intro w hSw); (try dsimp only at hSw); go_simp <;> with_reducible rfl)
      simp only [Act.put, List.setIfInBounds_toArray, List.set_cons_zero, List.set_cons_succ]
      refine take_run 4 (some 17) (v := ?_) rfl rfl (by kernel_rfl) (by kernel_rfl) (by kernel_rfl) (fun _ _ _ h => h) (by rfl) ?_ hHeld ?_
      rotate_left
      · ((intro w hSw); (try dsimp only at hSw); go_simp <;> with_reducible rfl)
      simp only [Act.put, List.setIfInBounds_toArray, List.set_cons_zero, List.set_cons_succ]
      refine take_one 5 (by kernel_rfl) rfl (fun K hK => ?_)
      go_simp
      (refine (less_any _ _ _ _ _).mono ?_; rintro e w1 ⟨rfl, hb1⟩)
      try go_wp2_with fail
      refine hK.out _ _ (by exact ⟨((hHeld.2.2.2.2.on hb1).nth 0 rfl).at 0, ((hHeld.2.2.2.2.on hb1).nth 0 rfl).at 1, ((hHeld.2.2.2.2.on hb1).nth 1 rfl).at 4, ((hHeld.2.2.2.2.on hb1).nth 1 rfl).at 5, hHeld.2.2.2.2.on hb1⟩) (fun hHeld => ?_)
      clear hK K
      refine wpAnyH_done (by kernel_rfl) ?_ _
      refine NoPanic.normal ?_
      have hI2 : Inv w (wr.heap.size + 1) [(w.heap.size + 1, 156, #[.int .i64 y0.1, .int .i64 y0.2, .int .i64 y1.1, .int .i64 y1.2, .int .i64 y2.1, .int .i64 y2.2, .int .i64 y3.1, .int .i64 y3.2])] w1 := hHeld.2.2.2.2.sub (by simp)
      clear hHeld V0
      have hz := hI.base
      cases hl : lessB y2.1 y2.2 x2.1 x2.2
      · have HN : Hid (NoLater [x0, x1, x2, x3] [y0, y1, y2, y3] (3 : Int).toNat) := noLater_step (ts := [x0, x1, x2, x3]) (us := [y0, y1, y2, y3]) (k := 2) hno.out rfl rfl hl
        clear hno hl
        go_wp2
        exact ⟨⟨3, by omega, by omega, by go_num, HN, hI2.top⟩, by simp [intOf]⟩
      · have hf := hide (within_f (ts := [x0, x1, x2, x3]) (us := [y0, y1, y2, y3]) (k := 2) rfl rfl hl)
        clear hl hno
        go_wp2
        go_ret
        exact ⟨ret_bool hf.out.symm, hI2.below⟩
    · have V0 := (hI.top).box 46 #[.int .i64 x3.1, .int .i64 x3.2]
      simp only [World.size_alloc] at V0
      go_wp2_with fail
      generalize wr.alloc (.cells #[.int .i64 x3.1, .int .i64 x3.2] 46) = W at V0 ⊢
      refine wp_region_noPanic ?_
      refine wp_region_held_drew (S := (fun w' => w'.cell? ⟨wr.heap.size, 0, none⟩ = some (.int .i64 x3.1) ∧ w'.cell? ⟨wr.heap.size, 1, none⟩ = some (.int .i64 x3.2) ∧ w'.cell? ⟨w.heap.size + 1, 6, none⟩ = some (.int .i64 y3.1) ∧ w'.cell? ⟨w.heap.size + 1, 7, none⟩ = some (.int .i64 y3.2) ∧ Inv w (wr.heap.size + 1) [(wr.heap.size, 46, #[.int .i64 x3.1, .int .i64 x3.2]), (w.heap.size + 1, 156, #[.int .i64 y0.1, .int .i64 y0.2, .int .i64 y1.1, .int .i64 y1.2, .int .i64 y2.1, .int .i64 y2.2, .int .i64 y3.1, .int .i64 y3.2])] w')) (by kernel_rfl) (by exact ⟨(V0.nth 0 rfl).at 0, (V0.nth 0 rfl).at 1, (V0.nth 1 rfl).at 6, (V0.nth 1 rfl).at 7, V0.drew⟩) (fun hHeld => ?_)
      refine take_run 0 (some 13) (v := ?_) rfl rfl (by kernel_rfl) (by kernel_rfl) (by kernel_rfl) (fun _ _ _ h => h) (by rfl) ?_ hHeld ?_
      rotate_left
      · ((intro w hSw); (try dsimp only at hSw); go_simp <;> with_reducible rfl)
      simp only [Act.put, List.setIfInBounds_toArray, List.set_cons_zero, List.set_cons_succ]
      refine take_run 1 (some 14) (v := ?_) rfl rfl (by kernel_rfl) (by kernel_rfl) (by kernel_rfl) (fun _ _ _ h => h) (by rfl) ?_ hHeld ?_
      rotate_left
      · ((intro w hSw); (try dsimp only at hSw); go_simp <;> with_reducible rfl)
      simp only [Act.put, List.setIfInBounds_toArray, List.set_cons_zero, List.set_cons_succ]
      refine take_run 2 (some 15) (v := ?_) rfl rfl (by kernel_rfl) (by kernel_rfl) (by kernel_rfl) (fun _ _ _ h => h) (by rfl) ?_ hHeld ?_
      rotate_left
      · ((intro w hSw); (try dsimp only at hSw); go_simp <;> with_reducible rfl)
      simp only [Act.put, List.setIfInBounds_toArray, List.set_cons_zero, List.set_cons_succ]
      refine take_run 3 (some 16) (v := ?_) rfl rfl (by kernel_rfl) (by kernel_rfl) (by kernel_rfl) (fun _ _ _ h => h) (by rfl) ?_ hHeld ?_
      rotate_left
      · ((intro w hSw); (try dsimp only at hSw); go_simp <;> with_reducible rfl)
      simp only [Act.put, List.setIfInBounds_toArray, List.set_cons_zero, List.set_cons_succ]
      refine take_run 4 (some 17) (v := ?_) rfl rfl (by kernel_rfl) (by kernel_rfl) (by kernel_rfl) (fun _ _ _ h => h) (by rfl) ?_ hHeld ?_
      rotate_left
      · ((intro w hSw); (try dsimp only at hSw); go_simp <;> with_reducible rfl)
      simp only [Act.put, List.setIfInBounds_toArray, List.set_cons_zero, List.set_cons_succ]
      refine take_one 5 (by kernel_rfl) rfl (fun K hK => ?_)
      go_simp
      (refine (less_any _ _ _ _ _).mono ?_; rintro e w1 ⟨rfl, hb1⟩)
      try go_wp2_with fail
      refine hK.out _ _ (by exact ⟨((hHeld.2.2.2.2.on hb1).nth 0 rfl).at 0, ((hHeld.2.2.2.2.on hb1).nth 0 rfl).at 1, ((hHeld.2.2.2.2.on hb1).nth 1 rfl).at 6, ((hHeld.2.2.2.2.on hb1).nth 1 rfl).at 7, hHeld.2.2.2.2.on hb1⟩) (fun hHeld => ?_)
      clear hK K
      refine wpAnyH_done (by kernel_rfl) ?_ _
      refine NoPanic.normal ?_
      have hI2 : Inv w (wr.heap.size + 1) [(w.heap.size + 1, 156, #[.int .i64 y0.1, .int .i64 y0.2, .int .i64 y1.1, .int .i64 y1.2, .int .i64 y2.1, .int .i64 y2.2, .int .i64 y3.1, .int .i64 y3.2])] w1 := hHeld.2.2.2.2.sub (by simp)
      clear hHeld V0
      have hz := hI.base
      cases hl : lessB y3.1 y3.2 x3.1 x3.2
      · have HN : Hid (NoLater [x0, x1, x2, x3] [y0, y1, y2, y3] (4 : Int).toNat) := noLater_step (ts := [x0, x1, x2, x3]) (us := [y0, y1, y2, y3]) (k := 3) hno.out rfl rfl hl
        clear hno hl
        go_wp2
        exact ⟨⟨4, by omega, by omega, by go_num, HN, hI2.top⟩, by simp [intOf]⟩
      · have hf := hide (within_f (ts := [x0, x1, x2, x3]) (us := [y0, y1, y2, y3]) (k := 3) rfl rfl hl)
        clear hl hno
        go_wp2
        go_ret
        exact ⟨ret_bool hf.out.symm, hI2.below⟩
    · have hf := hide (within_t (ts := [x0, x1, x2, x3]) (us := [y0, y1, y2, y3]) rfl hno.out)
      clear hno
      go_wp2
      go_ret
      exact ⟨ret_bool hf.out.symm, hI.below⟩

/-- What PastWithin answers. -/
def pwB (ts us : List (Int × Int)) : Bool := pastB ts && pastB us && withinB ts us
theorem pwB_1 {ts us : List (Int × Int)} (h : pastB ts = false) : pwB ts us = false := by unfold pwB; simp [h]
theorem pwB_2 {ts us : List (Int × Int)} (h : pastB us = false) : pwB ts us = false := by unfold pwB; simp [h]
theorem pwB_3 {ts us : List (Int × Int)} (h : pastB ts = true) (h' : pastB us = true) : pwB ts us = withinB ts us := by unfold pwB; simp [h, h']

set_option maxHeartbeats 1000000 in
theorem implPastWithin_any (a a' : Option Addr) (c c' : Nat) (ts us : List (Int × Int)) (w : World) (hn : ts.length ≤ 1048576) (hn' : us.length ≤ 1048576) (ht : Tg w w.heap.size a ts) (hu : Tg w w.heap.size a' us) :
    Calls Tryz.prog 66 #[.agg #[.slice a ts.length c], .agg #[.slice a' us.length c']] w fun e w' => e = .returned (.bool (pwB ts us)) ∧ Below w.heap.size w w' := by
  have S0 := ((Inv.start w).box 51 #[.slice a ts.length c]).box 51 #[.slice a' us.length c']
  simp only [World.size_alloc] at S0
  go_enter Tryz.func66, Tryz.ntmps66
  go_wp2_with fail
  generalize (w.alloc (.cells #[.slice a ts.length c] 51)).alloc (.cells #[.slice a' us.length c'] 51) = W at S0 ⊢
  refine (vectorOf_any a c ts W hn ((ht.on S0.below).up S0.base)).mono ?_
  rintro e w1 ⟨h1, h2, hb1⟩
  cases hp : pastB ts
  · have he := h2 hp
    have hf := hide (pwB_1 (us := us) hp)
    subst he
    have S1 := ((S0.on hb1).top).box 156 zero8
    have k1 := (S1.nth 1 rfl).one.1
    clear h1 h2 hp S0
    go_wp2_with fail
    generalize w1.alloc (.cells zero8 156) = W1 at S1 k1 ⊢
    refine (vectorOf_any a' c' us W1 hn' ((hu.on S1.below).up S1.base)).mono ?_
    rintro e w2 ⟨h1, h2, hb2⟩
    have S2 := S1.on hb2
    clear k1 S1
    cases hq : pastB us
    · have he := h2 hq
      subst he
      clear h1 h2 hq
      go_wp2
      go_ret
      exact ⟨ret_bool hf.out.symm, (S2.alloc _).below⟩
    · have he := h1 hq
      obtain ⟨y0, y1, y2, y3, rfl⟩ := four_of hq
      rw [cells4_eq] at he
      subst he
      clear h1 h2 hq
      go_wp2
      go_ret
      exact ⟨ret_bool hf.out.symm, (S2.alloc _).below⟩
  · have he := h1 hp
    obtain ⟨x0, x1, x2, x3, rfl⟩ := four_of hp
    rw [cells4_eq] at he
    subst he
    have S1 := ((S0.on hb1).top).box 156 #[.int .i64 x0.1, .int .i64 x0.2, .int .i64 x1.1, .int .i64 x1.2, .int .i64 x2.1, .int .i64 x2.2, .int .i64 x3.1, .int .i64 x3.2]
    have k1 := (S1.nth 1 rfl).one.1
    clear h1 h2 S0
    go_wp2_with fail
    generalize w1.alloc (.cells #[.int .i64 x0.1, .int .i64 x0.2, .int .i64 x1.1, .int .i64 x1.2, .int .i64 x2.1, .int .i64 x2.2, .int .i64 x3.1, .int .i64 x3.2] 156) = W1 at S1 k1 ⊢
    refine (vectorOf_any a' c' us W1 hn' ((hu.on S1.below).up S1.base)).mono ?_
    rintro e w2 ⟨h1, h2, hb2⟩
    have S2 := S1.on hb2
    clear k1 S1
    cases hq : pastB us
    · have he := h2 hq
      have hf := hide (pwB_2 (ts := [x0, x1, x2, x3]) hq)
      subst he
      clear h1 h2 hq hp
      go_wp2
      go_ret
      exact ⟨ret_bool hf.out.symm, (S2.alloc _).below⟩
    · have he := h1 hq
      have hf := hide (pwB_3 hp hq)
      obtain ⟨y0, y1, y2, y3, rfl⟩ := four_of hq
      rw [cells4_eq] at he
      subst he
      have S3 := (S2.top).box 156 #[.int .i64 y0.1, .int .i64 y0.2, .int .i64 y1.1, .int .i64 y1.2, .int .i64 y2.1, .int .i64 y2.2, .int .i64 y3.1, .int .i64 y3.2]
      have E1 := (S3.nth 1 rfl).eight.1
      clear h1 h2 hq hp S2
      go_wp2_with fail
      generalize w2.alloc (.cells #[.int .i64 y0.1, .int .i64 y0.2, .int .i64 y1.1, .int .i64 y1.2, .int .i64 y2.1, .int .i64 y2.2, .int .i64 y3.1, .int .i64 y3.2] 156) = W2 at S3 E1 ⊢
      refine (within_any x0 x1 x2 x3 y0 y1 y2 y3 W2).mono ?_
      rintro e w3 ⟨rfl, hb3⟩
      have S4 := S3.on hb3
      clear S3 E1
      go_wp2
      go_ret
      exact ⟨ret_bool hf.out.symm, S4.below⟩
end Go.Proofs.YtbbaogpgapemhaaGreat
/- Plain facts on vectors: within, joined, the same. -/
namespace Go.Proofs.YtbbaogpgapemhaaGreat

end Go.Proofs.YtbbaogpgapemhaaGreat
/- Plain facts on vectors that are joined. -/
namespace Go.Proofs.YtbbaogpgapemhaaGreat

end Go.Proofs.YtbbaogpgapemhaaGreat
/- Plain facts on stores that are added to and joined. -/
namespace Go.Proofs.YtbbaogpgapemhaaGreat

/-- The later one of two versions. -/
def later (x y : V) : V := if lessB x.t x.u y.t y.u = true then y else x
theorem slot_tag {i : Nat} {v : V} (h : slotB i v = true) : okB v.t v.u = true := by
  cases hn : noneC v.k v.t v.u v.ts.length v.s v.g with
  | true =>
    unfold noneC at hn
    simp at hn
    rw [hn.1.1.1.2.1, hn.1.1.1.2.2]
    decide
  | false =>
    cases ho : okB v.t v.u with
    | true => rfl
    | false =>
      rw [slotB_bad hn (verB_f (.inr (.inr (.inl ho))))] at h
      cases h
theorem past_tags {vs : List V} (hv : storeB vs = true) : pastB (tagsL vs) = true := by
  unfold pastB
  rw [decide_eq_true (by rw [tagsL_len]; exact storeB_four hv), Bool.true_and, List.all_eq_true]
  intro x hx
  unfold tagsL at hx
  rw [List.mem_map] at hx
  obtain ⟨v, hv', rfl⟩ := hx
  obtain ⟨i, hi⟩ := List.getElem?_of_mem hv'
  exact slot_tag (store_slot hv hi)
end Go.Proofs.YtbbaogpgapemhaaGreat
/- A version that comes to a valid chain, or is passed on in one, leaves it valid; what all nodes have is no less. No condition. -/
namespace Go.Proofs.YtbbaogpgapemhaaGreat
open Go.RowKit Go.Joins

end Go.Proofs.YtbbaogpgapemhaaGreat
/- Whether a place is valid, said plainly; such as say the same are alike in that. No condition. -/
namespace Go.Proofs.YtbbaogpgapemhaaGreat
open Go.RowKit Go.Joins

/-- One entry of a log: a valid version of its place, with a tag that none ahead of it has. -/
def entryB (us : List V) (p : Int) (i : Nat) : Bool := match us[i]? with | some v => verV v && decide (v.u = p) && !(us.take i).any (fun x => decide (x.t = v.t ∧ x.u = v.u)) | none => true
/-- Whether these versions are what a place told. -/
def logB (us : List V) (p : Int) : Bool := decide (us.length ≤ 60) && (List.range us.length).all (entryB us p)
theorem logB_long {us : List V} {p : Int} (h : ¬ us.length ≤ 60) : logB us p = false := by
  unfold logB
  rw [decide_eq_false h]
  rfl
theorem logB_bad {us : List V} {p : Int} {i : Nat} (hi : i < us.length) (h : entryB us p i = false) : logB us p = false := by
  unfold logB
  have : (List.range us.length).all (entryB us p) = false := by
    rw [List.all_eq_false]
    exact ⟨i, List.mem_range.2 hi, by rw [h]; decide⟩
  rw [this, Bool.and_false]
theorem logB_ok {us : List V} {p : Int} (h0 : us.length ≤ 60) (h : ∀ i, i < us.length → entryB us p i = true) : logB us p = true := by
  unfold logB
  rw [decide_eq_true h0, Bool.true_and, List.all_eq_true]
  exact fun i hi => h i (List.mem_range.1 hi)
theorem entryB_at {us : List V} {p : Int} {i : Nat} {v : V} (h : us[i]? = some v) : entryB us p i = (verV v && decide (v.u = p) && !(us.take i).any (fun x => decide (x.t = v.t ∧ x.u = v.u))) := by unfold entryB; rw [h]
theorem any_tag_like {t u : Int} : ∀ {us vs : List V}, LL us vs → us.any (fun x => decide (x.t = t ∧ x.u = u)) = vs.any (fun x => decide (x.t = t ∧ x.u = u))
  | [], [], _ => rfl
  | [], _ :: _, h => by simp [LL] at h
  | _ :: _, [], h => by simp [LL] at h
  | a :: r, b :: r', h => by
    obtain ⟨h1, h2⟩ := ll_cons h
    rw [List.any_cons, List.any_cons, h1.2.1, h1.2.2.1, any_tag_like h2]
theorem ll_take {us vs : List V} (h : LL us vs) (k : Nat) : LL (us.take k) (vs.take k) := by
  refine ⟨by rw [List.length_take, List.length_take, h.1], fun i x y hx hy => ?_⟩
  rw [List.getElem?_take] at hx hy
  split at hx
  · rename_i q
    rw [if_pos q] at hy
    exact h.2 i x y hx hy
  · cases hx
theorem entryB_like {us vs : List V} (h : LL us vs) (p : Int) (i : Nat) : entryB us p i = entryB vs p i := by
  cases hx : us[i]? with
  | none =>
    have hy := ll_none h hx
    unfold entryB
    rw [hx, hy]
  | some x =>
    obtain ⟨y, hy, hl⟩ := ll_at h hx
    rw [entryB_at hx, entryB_at hy, verV_like hl, hl.2.1, hl.2.2.1, any_tag_like (ll_take h i)]
theorem logB_like {us vs : List V} (h : LL us vs) (p : Int) : logB us p = logB vs p := by
  unfold logB
  rw [h.1]
  congr 1
  congr 1
  exact funext fun i => entryB_like h p i
/-- Whether a version that is one hangs on what all nodes have. -/
def hangsB (st : List (Int × Int)) (v : V) : Bool := decide (v.t ≤ 0) || pwB v.ts st
/-- Whether all that nodes have, and all that waits, hangs on what all nodes have. -/
def causesB (ns : List Nd) : Bool := ns.all fun n => n.ss.all (hangsB (stableR ns)) && n.ws.all (hangsB (stableR ns))
theorem causesB_bad {ns : List Nd} {i j : Nat} {n : Nd} {v : V} (hn : ns[i]? = some n) (hv : n.ss[j]? = some v ∨ n.ws[j]? = some v) (h : hangsB (stableR ns) v = false) : causesB ns = false := by
  unfold causesB
  rw [List.all_eq_false]
  refine ⟨n, List.mem_of_getElem? hn, ?_⟩
  intro hq
  rw [Bool.and_eq_true, List.all_eq_true, List.all_eq_true] at hq
  rcases hv with hv | hv
  · rw [hq.1 v (List.mem_of_getElem? hv)] at h; cases h
  · rw [hq.2 v (List.mem_of_getElem? hv)] at h; cases h
theorem causesB_ok {ns : List Nd} (h : ∀ (i : Nat) n, ns[i]? = some n → (∀ v ∈ n.ss, hangsB (stableR ns) v = true) ∧ ∀ v ∈ n.ws, hangsB (stableR ns) v = true) : causesB ns = true := by
  unfold causesB
  rw [List.all_eq_true]
  intro n hn
  obtain ⟨i, hi⟩ := List.getElem?_of_mem hn
  rw [Bool.and_eq_true, List.all_eq_true, List.all_eq_true]
  exact h i n hi
/-- Whether a clock is no earlier than what the head has. -/
def clockB (c : Int) (ns : List Nd) : Bool := decide (0 ≤ c ∧ c ≤ 999) && match ns[0]? with | some n => n.ss.all (fun v => decide (v.t ≤ c)) | none => true
/-- Whether what was told to a place is so. -/
def gotB (me : Int) (gs : List (List V)) : Bool := decide (gs.length = 3) && (List.range gs.length).all fun i => match gs[i]? with | some g => logB g (i : Int) && (decide ((i : Int) ≠ me) || decide (g.length = 0)) | none => true
/-- Whether a place is valid. -/
def placeB (me c : Int) (ns : List Nd) (log : List V) (gs : List (List V)) : Bool := decide (0 ≤ me ∧ me ≤ 2) && chainB ns && clockB c ns && causesB ns && logB log me && gotB me gs
end Go.Proofs.YtbbaogpgapemhaaGreat
