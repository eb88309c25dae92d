/- A version that comes to a valid chain, or is passed on in one, leaves it valid; what all nodes have is no less. No condition. -/
import Derived.Test.YtnaggcdhimcilaaGreatJStorePure
import Derived.Test.YtnaggcdhimcilaaGreatJChainRow
import Derived.Test.YtnaggcdhimcilaaGreatJLogMark
namespace Go.Proofs.YtnaggcdhimcilaaGreat
open Go.RowKit Go.Joins

theorem walkL_cons (us r : List V) (v : V) : walkL us (v :: r) = (stepL us v).bind fun us => walkL us r := by
  unfold walkL
  rw [List.foldl_cons]
  cases h : stepL us v with
  | none =>
    show r.foldl _ (stepL us v) = none
    rw [h]
    exact walk_none r
  | some x =>
    show r.foldl _ (stepL us v) = _
    rw [h]
    rfl
theorem linkB_parts {n m : Nd} (h : linkB n m = true) : ∃ us, walkL m.ss n.ws = some us ∧ LL us n.ss := by
  unfold linkB at h
  split at h
  · rename_i us hu
    exact ⟨us, hu, (likesB_ll _ _).1 h⟩
  · cases h
theorem linkB_mk {n m : Nd} {us : List V} (h : walkL m.ss n.ws = some us) (hl : LL us n.ss) : linkB n m = true := by
  rw [linkB_some h]
  exact (likesB_ll _ _).2 hl
theorem link_tail {n m : Nd} (h : linkB n m = true) : ∀ m', m'.ss = m.ss → linkB n m' = true := fun m' e => by
  obtain ⟨us, hu, hl⟩ := linkB_parts h
  exact linkB_mk (us := us) (by rw [e]; exact hu) hl
/-- The two halves of what a step asks. -/
theorem stepB_link {ns : List Nd} {k : Nat} {n m : Nd} (hn : ns[k]? = some n) (hm : ns[k + 1]? = some m) : stepB ns k = linkB n m := by unfold stepB; rw [hn, hm]
theorem stepB_end {ns : List Nd} {k : Nat} {n : Nd} (hn : ns[k]? = some n) (hm : ns[k + 1]? = none) : stepB ns k = decide (n.ws.length = 0) := by unfold stepB; rw [hn, hm]
/-- A chain, link by link. -/
theorem chain_link {ns : List Nd} {k : Nat} {n m : Nd} (h : chainB ns = true) (hn : ns[k]? = some n) (hm : ns[k + 1]? = some m) : linkB n m = true := by
  rw [← stepB_link hn hm]
  exact (chainB_parts h).2.2 k (List.getElem?_eq_some_iff.1 hn).1
theorem chain_end {ns : List Nd} {n : Nd} {k : Nat} (h : chainB ns = true) (hk : k + 1 = ns.length) (hn : ns[k]? = some n) : n.ws = [] := by
  have := (chainB_parts h).2.2 k (by omega)
  rw [stepB_end hn (List.getElem?_eq_none (by omega)), decide_eq_true_eq] at this
  exact List.length_eq_zero_iff.1 this
theorem chain_mk {ns : List Nd} (h0 : 1 ≤ ns.length ∧ ns.length ≤ 4) (h1 : ∀ (i : Nat) n, ns[i]? = some n → nodeB n = true) (h2 : ∀ (i : Nat) n m, ns[i]? = some n → ns[i + 1]? = some m → linkB n m = true) (h3 : ∀ (i : Nat) n, i + 1 = ns.length → ns[i]? = some n → n.ws = []) : chainB ns = true := by
  refine chainB_ok h0 h1 (fun i hi => ?_)
  obtain ⟨n, hn⟩ : ∃ n, ns[i]? = some n := ⟨_, List.getElem?_eq_getElem hi⟩
  by_cases e : i + 1 < ns.length
  · obtain ⟨m, hm⟩ : ∃ m, ns[i + 1]? = some m := ⟨_, List.getElem?_eq_getElem e⟩
    rw [stepB_link hn hm]
    exact h2 i n m hn hm
  · rw [stepB_end hn (List.getElem?_eq_none (by omega)), decide_eq_true_eq]
    rw [h3 i n (by omega) hn]
    rfl
theorem set_at {α : Type} {l : List α} {i j : Nat} {x y : α} (h : (l.set i x)[j]? = some y) : (j = i ∧ y = x ∧ i < l.length) ∨ (j ≠ i ∧ l[j]? = some y) := by
  by_cases e : j = i
  · subst e
    have hl : j < l.length := by have := (List.getElem?_eq_some_iff.1 h).1; rw [List.length_set] at this; exact this
    rw [List.getElem?_set_self hl] at h
    injection h with h
    exact .inl ⟨rfl, h.symm, hl⟩
  · rw [List.getElem?_set_ne (fun q => e q.symm)] at h
    exact .inr ⟨e, h⟩
end Go.Proofs.YtnaggcdhimcilaaGreat
/- Whether a place is valid, said plainly; such as say the same are alike in that. No condition. -/
namespace Go.Proofs.YtnaggcdhimcilaaGreat
open Go.RowKit Go.Joins

/-- One entry of a log: a valid version of its place, with a tag that none ahead of it has. -/
def entryB (us : List V) (p : Int) (i : Nat) : Bool := match us[i]? with | some v => verV v && decide (v.u = p) && !(us.take i).any (fun x => decide (x.t = v.t ∧ x.u = v.u)) | none => true
/-- Whether these versions are what a place told. -/
def logB (us : List V) (p : Int) : Bool := decide (us.length ≤ 60) && (List.range us.length).all (entryB us p)
theorem logB_long {us : List V} {p : Int} (h : ¬ us.length ≤ 60) : logB us p = false := by
  unfold logB
  rw [decide_eq_false h]
  rfl
theorem logB_bad {us : List V} {p : Int} {i : Nat} (hi : i < us.length) (h : entryB us p i = false) : logB us p = false := by
  unfold logB
  have : (List.range us.length).all (entryB us p) = false := by
    rw [List.all_eq_false]
    exact ⟨i, List.mem_range.2 hi, by rw [h]; decide⟩
  rw [this, Bool.and_false]
theorem logB_ok {us : List V} {p : Int} (h0 : us.length ≤ 60) (h : ∀ i, i < us.length → entryB us p i = true) : logB us p = true := by
  unfold logB
  rw [decide_eq_true h0, Bool.true_and, List.all_eq_true]
  exact fun i hi => h i (List.mem_range.1 hi)
theorem logB_parts {us : List V} {p : Int} (h : logB us p = true) : us.length ≤ 60 ∧ ∀ i, i < us.length → entryB us p i = true := by
  unfold logB at h
  rw [Bool.and_eq_true, decide_eq_true_eq, List.all_eq_true] at h
  exact ⟨h.1, fun i hi => h.2 i (List.mem_range.2 hi)⟩
theorem entryB_at {us : List V} {p : Int} {i : Nat} {v : V} (h : us[i]? = some v) : entryB us p i = (verV v && decide (v.u = p) && !(us.take i).any (fun x => decide (x.t = v.t ∧ x.u = v.u))) := by unfold entryB; rw [h]
theorem any_tag_like {t u : Int} : ∀ {us vs : List V}, LL us vs → us.any (fun x => decide (x.t = t ∧ x.u = u)) = vs.any (fun x => decide (x.t = t ∧ x.u = u))
  | [], [], _ => rfl
  | [], _ :: _, h => by simp [LL] at h
  | _ :: _, [], h => by simp [LL] at h
  | a :: r, b :: r', h => by
    obtain ⟨h1, h2⟩ := ll_cons h
    rw [List.any_cons, List.any_cons, h1.2.1, h1.2.2.1, any_tag_like h2]
theorem ll_take {us vs : List V} (h : LL us vs) (k : Nat) : LL (us.take k) (vs.take k) := by
  refine ⟨by rw [List.length_take, List.length_take, h.1], fun i x y hx hy => ?_⟩
  rw [List.getElem?_take] at hx hy
  split at hx
  · rename_i q
    rw [if_pos q] at hy
    exact h.2 i x y hx hy
  · cases hx
theorem entryB_like {us vs : List V} (h : LL us vs) (p : Int) (i : Nat) : entryB us p i = entryB vs p i := by
  cases hx : us[i]? with
  | none =>
    have hy := ll_none h hx
    unfold entryB
    rw [hx, hy]
  | some x =>
    obtain ⟨y, hy, hl⟩ := ll_at h hx
    rw [entryB_at hx, entryB_at hy, verV_like hl, hl.2.1, hl.2.2.1, any_tag_like (ll_take h i)]
theorem logB_like {us vs : List V} (h : LL us vs) (p : Int) : logB us p = logB vs p := by
  unfold logB
  rw [h.1]
  congr 1
  congr 1
  exact funext fun i => entryB_like h p i
/-- Whether a version that is one hangs on what all nodes have. -/
def hangsB (st : List (Int × Int)) (v : V) : Bool := decide (v.t ≤ 0) || pwB v.ts st
/-- Whether all that nodes have, and all that waits, hangs on what all nodes have. -/
def causesB (ns : List Nd) : Bool := ns.all fun n => n.ss.all (hangsB (stableR ns)) && n.ws.all (hangsB (stableR ns))
theorem causesB_bad {ns : List Nd} {i j : Nat} {n : Nd} {v : V} (hn : ns[i]? = some n) (hv : n.ss[j]? = some v ∨ n.ws[j]? = some v) (h : hangsB (stableR ns) v = false) : causesB ns = false := by
  unfold causesB
  rw [List.all_eq_false]
  refine ⟨n, List.mem_of_getElem? hn, ?_⟩
  intro hq
  rw [Bool.and_eq_true, List.all_eq_true, List.all_eq_true] at hq
  rcases hv with hv | hv
  · rw [hq.1 v (List.mem_of_getElem? hv)] at h; cases h
  · rw [hq.2 v (List.mem_of_getElem? hv)] at h; cases h
theorem causesB_ok {ns : List Nd} (h : ∀ (i : Nat) n, ns[i]? = some n → (∀ v ∈ n.ss, hangsB (stableR ns) v = true) ∧ ∀ v ∈ n.ws, hangsB (stableR ns) v = true) : causesB ns = true := by
  unfold causesB
  rw [List.all_eq_true]
  intro n hn
  obtain ⟨i, hi⟩ := List.getElem?_of_mem hn
  rw [Bool.and_eq_true, List.all_eq_true, List.all_eq_true]
  exact h i n hi
/-- Whether a clock is no earlier than what the head has. -/
def clockB (c : Int) (ns : List Nd) : Bool := decide (0 ≤ c ∧ c ≤ 999) && match ns[0]? with | some n => n.ss.all (fun v => decide (v.t ≤ c)) | none => true
/-- Whether what was told to a place is so. -/
def gotB (me : Int) (gs : List (List V)) : Bool := decide (gs.length = 3) && (List.range gs.length).all fun i => match gs[i]? with | some g => logB g (i : Int) && (decide ((i : Int) ≠ me) || decide (g.length = 0)) | none => true
/-- Whether a place is valid. -/
def placeB (me c : Int) (ns : List Nd) (log : List V) (gs : List (List V)) : Bool := decide (0 ≤ me ∧ me ≤ 2) && chainB ns && clockB c ns && causesB ns && logB log me && gotB me gs
end Go.Proofs.YtnaggcdhimcilaaGreat
/- Places that can be read, and what is like them. No condition. -/
namespace Go.Proofs.YtnaggcdhimcilaaGreat
open Go.RowKit Go.Joins

/-- A place that can be read: its nodes from the beginning of a block. -/
def Cp (w : World) (p : Pl) : Prop := CgA w p.ca p.ns ∧ Vg w w.heap.size p.la p.log ∧ Lgs w w.heap.size p.ga p.gs
theorem Cp.on {w w' : World} {p : Pl} (h : Cp w p) (hb : Below w.heap.size w w') : Cp w' p := ⟨h.1.on hb, (h.2.1.on hb).up hb.size, (h.2.2.on hb).up hb.size⟩
theorem PRes.cp {w : World} {B U : Nat} {p : Pl} (h : PRes w B U p) : Cp w p := ⟨h.chain.cg, h.log.vg, h.got.lgs⟩
theorem lls_at {us ls : List Lg} (h : LLs us ls) {i : Nat} {u : Lg} (hi : us[i]? = some u) : ∃ l, ls[i]? = some l ∧ LL u.vs l.vs := by
  have hl := (List.getElem?_eq_some_iff.1 hi).1
  obtain ⟨l, hx⟩ : ∃ l, ls[i]? = some l := ⟨_, List.getElem?_eq_getElem (by rw [← h.1]; exact hl)⟩
  exact ⟨l, hx, h.2 i u l hi hx⟩
theorem smP_like {p q : Pl} (h : LP p q) (hs : SmP q) : SmP p := by
  obtain ⟨⟨a1, a2⟩, ⟨b1, b2⟩, c1, c2⟩ := hs
  obtain ⟨-, -, hn, hl, hg, -⟩ := h
  refine ⟨⟨by rw [hn.1]; exact a1, smN_like hn a2⟩, ⟨by rw [hl.1]; exact b1, small_ll hl b2⟩, by rw [hg.1]; exact c1, fun l hm => ?_⟩
  obtain ⟨i, hi⟩ := List.getElem?_of_mem hm
  obtain ⟨l', hi', hx⟩ := lls_at hg hi
  obtain ⟨d1, d2⟩ := c2 l' (List.mem_of_getElem? hi')
  exact ⟨by rw [hx.1]; exact d1, small_ll hx d2⟩
theorem small_fits {vs : List V} (hB : BigV vs) (h : vs.length + tot vs ≤ 1048576) : Small vs := fun v hv => by
  have h1 := tot_mem hv
  exact ⟨by omega, (hB.2 v hv).2⟩
theorem smP_fits {p : Pl} (hB : BigP p) (h : totP p ≤ 1048576) : SmP p := by
  unfold totP totC totLg totGt at h
  obtain ⟨⟨-, b1⟩, b2, -, b3⟩ := hB
  refine ⟨⟨by omega, smN_fits b1 (by omega)⟩, ⟨by omega, small_fits b2 (by omega)⟩, by omega, fun l hl => ?_⟩
  have h1 := totL_mem hl
  unfold totG at h1
  exact ⟨by omega, small_fits (b3 l hl) (by omega)⟩
theorem smP_few {p : Pl} (h : SmP p) : FewP p := ⟨⟨h.1.1, smN_small h.1.2⟩, ⟨h.2.1.1, small_tags h.2.1.2⟩, h.2.2.1, fun l hl => ⟨(h.2.2.2 l hl).1, small_tags (h.2.2.2 l hl).2⟩⟩
/-- Whether a place is valid. -/
def plB (p : Pl) : Bool := placeB p.me p.ck p.ns p.log (p.gs.map Lg.vs)
theorem slots_like {us vs : List V} (h : LL us vs) {q : V → Bool} {q' : V → Bool} (hq : ∀ x y, V.like x y → q x = q' y) : us.all q = vs.all q' := by
  rw [Bool.eq_iff_iff, List.all_eq_true, List.all_eq_true]
  constructor
  · intro hx y hy
    obtain ⟨i, hi⟩ := List.getElem?_of_mem hy
    obtain ⟨x, hxi, hl⟩ := ll_at ⟨h.1.symm, fun i a b ha hb => vlike_symm (h.2 i b a hb ha)⟩ hi
    rw [← hq x y (vlike_symm hl)]
    exact hx x (List.mem_of_getElem? hxi)
  · intro hx y hy
    obtain ⟨i, hi⟩ := List.getElem?_of_mem hy
    obtain ⟨x, hxi, hl⟩ := ll_at h hi
    rw [hq y x hl]
    exact hx x (List.mem_of_getElem? hxi)
theorem hangsB_like {st : List (Int × Int)} {v v' : V} (h : V.like v v') : hangsB st v = hangsB st v' := by
  unfold hangsB
  rw [h.2.1, h.2.2.2.1]
theorem causesB_like {ns us : List Nd} (h : NL ns us) : causesB ns = causesB us := by
  have key : ∀ ns us : List Nd, NL ns us → causesB us = true → causesB ns = true := by
    intro ns us h hc
    refine causesB_ok fun i n hn => ?_
    obtain ⟨m, hm, hl⟩ := nl_at h hn
    unfold causesB at hc
    rw [List.all_eq_true] at hc
    have := hc m (List.mem_of_getElem? hm)
    rw [Bool.and_eq_true, ← slots_like (us := n.ss) ⟨hl.1, hl.2.1⟩ (q := hangsB (stableR us)) (fun x y => hangsB_like), ← slots_like (us := n.ws) ⟨hl.2.2.1, hl.2.2.2⟩ (q := hangsB (stableR us)) (fun x y => hangsB_like), List.all_eq_true, List.all_eq_true] at this
    rw [stableR_like h]
    exact this
  cases hx : causesB us with
  | true => exact key ns us h hx
  | false =>
    cases hy : causesB ns with
    | false => rfl
    | true => rw [key us ns (nl_symm h) hy] at hx; cases hx
theorem clockB_like {c : Int} {ns us : List Nd} (h : NL ns us) : clockB c ns = clockB c us := by
  unfold clockB
  cases hx : ns[0]? with
  | none => rw [nl_none h hx]
  | some n =>
    obtain ⟨m, hm, hl⟩ := nl_at h hx
    rw [hm]
    simp only
    rw [slots_like (us := n.ss) ⟨hl.1, hl.2.1⟩ (q := fun v => decide (v.t ≤ c)) (q' := fun v => decide (v.t ≤ c)) (fun x y h => by rw [h.2.1])]
theorem gotB_like {me : Int} {us ls : List Lg} (h : LLs us ls) : gotB me (us.map Lg.vs) = gotB me (ls.map Lg.vs) := by
  unfold gotB
  rw [List.length_map, List.length_map, h.1]
  congr 2
  funext i
  rw [List.getElem?_map, List.getElem?_map]
  cases hx : us[i]? with
  | none =>
    have : ls[i]? = none := by
      rw [List.getElem?_eq_none_iff] at hx ⊢
      rw [← h.1]; exact hx
    rw [this]
  | some u =>
    obtain ⟨l, hl, hxl⟩ := lls_at h hx
    rw [hl]
    simp only [Option.map_some]
    rw [logB_like hxl, hxl.1]
theorem plB_like {p q : Pl} (h : LP p q) : plB p = plB q := by
  obtain ⟨h1, h2, h3, h4, h5, -⟩ := h
  unfold plB placeB
  rw [h1, h2, chainB_like h3, clockB_like h3, causesB_like h3, logB_like h4, gotB_like h5]
theorem plB_parts {p : Pl} (h : plB p = true) : (0 ≤ p.me ∧ p.me ≤ 2) ∧ chainB p.ns = true ∧ clockB p.ck p.ns = true ∧ causesB p.ns = true ∧ logB p.log p.me = true ∧ gotB p.me (p.gs.map Lg.vs) = true := by
  unfold plB placeB at h
  simp only [Bool.and_eq_true, decide_eq_true_eq] at h
  obtain ⟨⟨⟨⟨⟨h1, h2⟩, h3⟩, h4⟩, h5⟩, h6⟩ := h
  exact ⟨h1, h2, h3, h4, h5, h6⟩
end Go.Proofs.YtnaggcdhimcilaaGreat
/- Contracts of the library's search among versions and among nodes with any function value, and of what is built on it: whether a log has a tag. Condition: what is said of each. -/
namespace Go.Proofs.YtnaggcdhimcilaaGreat
open Go.RowKit Go.Joins
attribute [local go_sem ↓] Go.wp_at_zero Go.wp_at_succ

/-- A function that is entered whenever it is called. -/
def EnteredV (N : Nat) : Prop := ∀ (args : Array Value) (W : World), (callFunc N args).run Tryz.prog W = .ok (.enter N args) W
theorem Vg.take {w : World} {B : Nat} {a : Option Addr} {vs : List V} (h : Vg w B a vs) (k : Nat) : Vg w B a (vs.take k) := by
  rcases h with h | ⟨b, off, h1, h2, h3⟩
  · exact .inl (by rw [h]; simp)
  · refine .inr ⟨b, off, h1, h2, fun i v hi => ?_⟩
    rw [List.getElem?_take] at hi
    split at hi
    · exact h3 i v hi
    · cases hi
set_option maxRecDepth 100000 in
set_option maxHeartbeats 2000000 in
theorem indexVers_any (N : Nat) (caps : Array Value) (p : V → Bool) (a : Option Addr) (c : Nat) (vs : List V) (w : World) (hn : vs.length ≤ 1048576) (hv : Vg w w.heap.size a vs) (hc : EnteredV N)
    (hp : ∀ (k : Nat) v, vs[k]? = some v → ∀ W, Below w.heap.size w W → Calls Tryz.prog N (#[.agg (verC v.k v.t v.u v.a v.ts.length v.c v.s v.g)] ++ caps) W fun e w' => e = .returned (.bool (p v)) ∧ Below W.heap.size W w') :
    Calls Tryz.prog 143 #[.slice a vs.length c, .func (.func N) #[] caps] w fun e w' => e = .returned (.int .i64 (findV p vs)) ∧ Below w.heap.size w w' := by
  have HP := hide hp
  clear hp
  unfold EnteredV at hc
  generalize hnn : vs.length = n at *
  have HN := hide hnn
  clear hnn
  go_enter Tryz.func143, Tryz.ntmps143
  go_wp2
  go_loopw [8] (fun i wr => ∃ k : Nat, k ≤ n ∧ i = .int .i64 (k : Int) ∧ Hid (∀ (j : Nat) y, j < k → vs[j]? = some y → p y = false) ∧ Below w.heap.size w wr) (fun i _ => n - (intOf i).toNat)
  case atStart => exact ⟨0, Nat.zero_le _, rfl, fun j x hj => absurd hj (by omega), Below.refl _ _⟩
  case round =>
    obtain ⟨k, hk, rfl, hno, hL⟩ := hrel
    by_cases hlt : k < n
    · rcases hv with h0 | ⟨b, off, rfl, hb, hx⟩
      · have := HN.out; subst h0; simp at this; omega
      · have hkl : k < vs.length := by have := HN.out; omega
        obtain ⟨hS, hT⟩ := hx k _ (List.getElem?_eq_getElem hkl)
        have HY := hide (List.getElem?_eq_getElem hkl)
        generalize vs[k] = v at hS hT HY
        have Q1 := (hS.keep hb fun _ hp => hL.cell hp)
        have CT := hide (HP.out k v HY.out wr hL)
        obtain ⟨vk, vt, vu, va, vc, vts, vs', vg⟩ := v
        simp only at Q1 CT
        clear hS hT hx
        have i1 : (0 : Int) ≤ (k : Int) := by omega
        have i2 : (k : Int) < (n : Int) := by omega
        go_wp2_with fail
        with_reducible refine CT.out.mono ?_
        rintro e w1 ⟨rfl, hb1⟩
        have hL1 := hL.trans (hb1.mono hL.size)
        clear CT
        cases hpy : p ⟨vk, vt, vu, va, vc, vts, vs', vg⟩
        · have HN1 : Hid (∀ (j : Nat) y, j < k + 1 → vs[j]? = some y → p y = false) := fun j x hj hx => by
            by_cases e : j = k
            · subst e
              have h1 := HY.out
              rw [h1] at hx
              injection hx with hx
              subst hx
              exact hpy
            · exact hno.out j x (by omega) hx
          clear hpy Q1
          go_wp2
          exact ⟨⟨k + 1, by omega, by go_num, HN1, hL1⟩, by simp [intOf]; omega⟩
        · have hf := hide (findV_at HY.out hpy hno.out)
          clear hpy Q1
          go_wp2
          go_ret
          exact ⟨ret_int hf.out.symm, hL1⟩
    · have hkn : k = n := by omega
      subst hkn
      clear hlt
      have hf := hide (findV_not (p := p) (ds := vs) fun j y hy => hno.out j y (by have := (List.getElem?_eq_some_iff.1 hy).1; have := HN.out; omega) hy)
      go_wp2
      go_ret
      exact ⟨ret_int hf.out.symm, hL⟩
set_option maxHeartbeats 1000000 in
theorem containsVers_any (N : Nat) (caps : Array Value) (p : V → Bool) (a : Option Addr) (c : Nat) (vs : List V) (w : World) (hn : vs.length ≤ 1048576) (hv : Vg w w.heap.size a vs) (hc : EnteredV N)
    (hp : ∀ (k : Nat) v, vs[k]? = some v → ∀ W, Below w.heap.size w W → Calls Tryz.prog N (#[.agg (verC v.k v.t v.u v.a v.ts.length v.c v.s v.g)] ++ caps) W fun e w' => e = .returned (.bool (p v)) ∧ Below W.heap.size W w') :
    Calls Tryz.prog 112 #[.slice a vs.length c, .func (.func N) #[] caps] w fun e w' => e = .returned (.bool (vs.any p)) ∧ Below w.heap.size w w' := by
  have H := hide (findV_any p vs)
  have C0 := hide (indexVers_any N caps p a c vs w hn hv hc hp)
  clear hp
  go_enter Tryz.func112, Tryz.ntmps112
  go_wp2_with fail
  with_reducible refine C0.out.mono ?_
  rintro e w1 ⟨rfl, hb1⟩
  generalize findV p vs = x at H ⊢
  go_wp2
  go_ret
  exact ⟨ret_bool H.out, hb1⟩
/-- The place of the first node that is such, or -1. -/
def findN (p : Nd → Bool) (ns : List Nd) : Int := match ns.findIdx? p with | some i => (i : Int) | none => -1
theorem findN_at {p : Nd → Bool} {ds : List Nd} {k : Nat} {x : Nd} (hx : ds[k]? = some x) (hp : p x = true) (hb : ∀ j y, j < k → ds[j]? = some y → p y = false) : findN p ds = (k : Int) := by
  have hk := (List.getElem?_eq_some_iff.1 hx).1
  have : ds.findIdx? p = some k := by
    rw [List.findIdx?_eq_some_iff_getElem]
    refine ⟨hk, by rw [(List.getElem?_eq_some_iff.1 hx).2]; exact hp, fun j hj => ?_⟩
    have := hb j ds[j] hj (List.getElem?_eq_getElem (by omega))
    simp [this]
  unfold findN
  rw [this]
theorem findN_not {p : Nd → Bool} {ds : List Nd} (hb : ∀ (j : Nat) y, ds[j]? = some y → p y = false) : findN p ds = -1 := by
  have : ds.findIdx? p = none := by
    rw [List.findIdx?_eq_none_iff]
    intro x hx
    obtain ⟨j, hj⟩ := List.getElem?_of_mem hx
    exact hb j x hj
  unfold findN
  rw [this]
theorem findN_any (p : Nd → Bool) (ds : List Nd) : decide (0 ≤ findN p ds) = ds.any p := by
  unfold findN
  cases h : ds.findIdx? p with
  | none =>
    rw [List.findIdx?_eq_none_iff] at h
    have : ds.any p = false := by
      rw [List.any_eq_false]
      intro x hx
      rw [h x hx]
      decide
    rw [this]
    simp
  | some i =>
    rw [List.findIdx?_eq_some_iff_getElem] at h
    obtain ⟨hi, hp, _⟩ := h
    have : ds.any p = true := by
      rw [List.any_eq_true]
      exact ⟨_, List.getElem_mem hi, hp⟩
    rw [this]
    simp
set_option maxRecDepth 100000 in
set_option maxHeartbeats 2000000 in
theorem indexNodes_any (N : Nat) (caps : Array Value) (p : Nd → Bool) (A : Option Addr) (c : Nat) (ns : List Nd) (w : World) (hn : ns.length ≤ 1048576) (hC : CgA w A ns) (hc : EnteredV N)
    (hp : ∀ (k : Nat) n, ns[k]? = some n → ∀ W, Below w.heap.size w W → Calls Tryz.prog N (#[.agg #[.slice n.sa n.ss.length n.sc, .slice n.wa n.ws.length n.wc]] ++ caps) W fun e w' => e = .returned (.bool (p n)) ∧ Below W.heap.size W w') :
    Calls Tryz.prog 114 #[.slice A ns.length c, .func (.func N) #[] caps] w fun e w' => e = .returned (.int .i64 (findN p ns)) ∧ Below w.heap.size w w' := by
  have HP := hide hp
  have HC := hide hC
  clear hp hC
  unfold EnteredV at hc
  generalize hnn : ns.length = n at *
  have HN := hide hnn
  clear hnn
  go_enter Tryz.func114, Tryz.ntmps114
  go_wp2
  go_loopw [8] (fun i wr => ∃ k : Nat, k ≤ n ∧ i = .int .i64 (k : Int) ∧ Hid (∀ (j : Nat) y, j < k → ns[j]? = some y → p y = false) ∧ Below w.heap.size w wr) (fun i _ => n - (intOf i).toNat)
  case atStart => exact ⟨0, Nat.zero_le _, rfl, fun j x hj => absurd hj (by omega), Below.refl _ _⟩
  case round =>
    obtain ⟨k, hk, rfl, hno, hL⟩ := hrel
    by_cases hlt : k < n
    · rcases HC.out with h0 | ⟨G, cur, rfl, hG⟩
      · have := HN.out; rw [h0] at this; simp at this; omega
      · have hkl : k < ns.length := by have := HN.out; omega
        have HY := hide (List.getElem?_eq_getElem hkl)
        generalize ns[k] = v at HY
        have HCr := hG.on hL
        have n0 : wr.cell? ⟨G, k * 2, none⟩ = some (.slice v.sa v.ss.length v.sc) := (HCr.blk.at _).trans (HCr.at' k v HY.out).1
        have n1 : wr.cell? ⟨G, k * 2 + 1, none⟩ = some (.slice v.wa v.ws.length v.wc) := (HCr.blk.at _).trans (HCr.at' k v HY.out).2
        have CT := hide (HP.out k v HY.out wr hL)
        obtain ⟨sa, sc, ss, wa, wc, ws⟩ := v
        simp only at n0 n1 CT
        clear HCr hG HC
        have i1 : (0 : Int) ≤ (k : Int) := by omega
        have i2 : (k : Int) < (n : Int) := by omega
        go_wp2_with fail
        with_reducible refine CT.out.mono ?_
        rintro e w1 ⟨rfl, hb1⟩
        have hL1 := hL.trans (hb1.mono hL.size)
        clear CT
        cases hpy : p ⟨sa, sc, ss, wa, wc, ws⟩
        · have HN1 : Hid (∀ (j : Nat) y, j < k + 1 → ns[j]? = some y → p y = false) := fun j x hj hx => by
            by_cases e : j = k
            · subst e
              have h1 := HY.out
              rw [h1] at hx
              injection hx with hx
              subst hx
              exact hpy
            · exact hno.out j x (by omega) hx
          clear hpy n0 n1
          go_wp2
          exact ⟨⟨k + 1, by omega, by go_num, HN1, hL1⟩, by simp [intOf]; omega⟩
        · have hf := hide (findN_at HY.out hpy hno.out)
          clear hpy n0 n1
          go_wp2
          go_ret
          exact ⟨ret_int hf.out.symm, hL1⟩
    · have hkn : k = n := by omega
      subst hkn
      clear hlt
      have hf := hide (findN_not (p := p) (ds := ns) fun j y hy => hno.out j y (by have := (List.getElem?_eq_some_iff.1 hy).1; have := HN.out; omega) hy)
      go_wp2
      go_ret
      exact ⟨ret_int hf.out.symm, hL⟩
set_option maxHeartbeats 1000000 in
theorem containsNodes_any (N : Nat) (caps : Array Value) (p : Nd → Bool) (A : Option Addr) (c : Nat) (ns : List Nd) (w : World) (hn : ns.length ≤ 1048576) (hC : CgA w A ns) (hc : EnteredV N)
    (hp : ∀ (k : Nat) n, ns[k]? = some n → ∀ W, Below w.heap.size w W → Calls Tryz.prog N (#[.agg #[.slice n.sa n.ss.length n.sc, .slice n.wa n.ws.length n.wc]] ++ caps) W fun e w' => e = .returned (.bool (p n)) ∧ Below W.heap.size W w') :
    Calls Tryz.prog 76 #[.slice A ns.length c, .func (.func N) #[] caps] w fun e w' => e = .returned (.bool (ns.any p)) ∧ Below w.heap.size w w' := by
  have H := hide (findN_any p ns)
  have C0 := hide (indexNodes_any N caps p A c ns w hn hC hc hp)
  clear hp
  go_enter Tryz.func76, Tryz.ntmps76
  go_wp2_with fail
  with_reducible refine C0.out.mono ?_
  rintro e w1 ⟨rfl, hb1⟩
  generalize findN p ns = x at H ⊢
  go_wp2
  go_ret
  exact ⟨ret_bool H.out, hb1⟩
/-- Whether versions have a tag. -/
def hasB (us : List V) (t u : Int) : Bool := us.any fun x => decide (x.t = t ∧ x.u = u)
set_option maxHeartbeats 1000000 in
theorem hasTagIs_any (v : V) (b : Nat) (t u : Int) (w : World) (hb : Blk w b 91 #[.int .i64 t, .int .i64 u]) :
    Calls Tryz.prog 113 (#[.agg (verC v.k v.t v.u v.a v.ts.length v.c v.s v.g)] ++ #[.pointer (some ⟨b, 0, none⟩)]) w fun e w' => e = .returned (.bool (decide (v.t = t ∧ v.u = u))) ∧ Below w.heap.size w w' := by
  have S0 := (Inv.start w).box 96 (verC v.k v.t v.u v.a v.ts.length v.c v.s v.g)
  have q := (hb.on S0.below).two
  have hte := tagEq_at v.t v.u t u
  have HE : Hid (eqB v.t v.u t u = decide (v.t = t ∧ v.u = u)) := rfl
  obtain ⟨vk, vt, vu, va, vc, vts, vs', vg⟩ := v
  simp only at hte HE S0
  rw [← HE.out]
  generalize eqB vt vu t u = x at hte ⊢
  clear HE hb
  go_enter Tryz.func113, Tryz.ntmps113
  go_wp2
  go_ret
  exact ⟨rfl, S0.below⟩
set_option maxHeartbeats 1000000 in
theorem hasTag_any (a : Option Addr) (c : Nat) (us : List V) (t u : Int) (w : World) (hn : us.length ≤ 1048576) (hv : Vg w w.heap.size a us) :
    Calls Tryz.prog 74 #[.slice a us.length c, .agg #[.int .i64 t, .int .i64 u]] w fun e w' => e = .returned (.bool (hasB us t u)) ∧ Below w.heap.size w w' := by
  have S0 := (Inv.start w).box 91 #[.int .i64 t, .int .i64 u]
  simp only [World.size_alloc] at S0
  have HB := hide (Blk.made w 91 #[.int .i64 t, .int .i64 u])
  have C0 := hide (containsVers_any 113 #[.pointer (some ⟨w.heap.size, 0, none⟩)] (fun x => decide (x.t = t ∧ x.u = u)) a c us (w.alloc (.cells #[.int .i64 t, .int .i64 u] 91)) hn ((hv.on S0.below).up S0.base) (run_enterV Tryz.func113 (by kernel_rfl) rfl) (fun k v _ W hW => hasTagIs_any v w.heap.size t u W (HB.out.on hW)))
  have HE : Hid (us.any (fun x => decide (x.t = t ∧ x.u = u)) = hasB us t u) := rfl
  clear hv HB
  go_enter Tryz.func74, Tryz.ntmps74
  go_wp2_with fail
  with_reducible refine C0.out.mono ?_
  rw [HE.out]
  rintro e w1 ⟨rfl, hb1⟩
  have S1 := S0.on hb1
  generalize hx : hasB us t u = x
  have HX := hide hx
  clear S0 C0 hx
  go_wp2
  go_ret
  exact ⟨ret_bool HX.out.symm, S1.below⟩
end Go.Proofs.YtnaggcdhimcilaaGreat
/- What a place records, and what its changes answer, said plainly. No condition. -/
namespace Go.Proofs.YtnaggcdhimcilaaGreat
open Go.RowKit Go.Joins

/-- Whether a version is to be recorded: it is one, of this place, and not there. -/
def noteB (me : Int) (l : List V) (v : V) : Bool := decide (0 < v.t) && decide (v.u = me) && !hasB l v.t v.u
def stepNote (me : Int) (l : List V) (v : V) : List V := if noteB me l v = true then l ++ [v] else l
def noteL (me : Int) (l : List V) (vs : List V) : List V := vs.foldl (stepNote me) l
theorem noteL_step {me : Int} {l vs : List V} {k : Nat} {v : V} (h : vs[k]? = some v) : noteL me l (vs.take (k + 1)) = stepNote me (noteL me l (vs.take k)) v := by
  unfold noteL
  rw [List.take_add_one, h, List.foldl_append]
  rfl
theorem noteL_all (me : Int) (l vs : List V) : noteL me l (vs.take vs.length) = noteL me l vs := by rw [List.take_length]
theorem hasB_like {us vs : List V} (h : LL us vs) (t u : Int) : hasB us t u = hasB vs t u := any_tag_like h
theorem ll_push {us vs : List V} {x y : V} (h : LL us vs) (hl : V.like x y) : LL (us ++ [x]) (vs ++ [y]) := by
  refine ⟨by simp [h.1], fun i a b ha hb => ?_⟩
  rcases snoc_get rfl i a ha with ⟨e1, e2⟩ | ⟨e, ha⟩ <;> rcases snoc_get rfl i b hb with ⟨e3, e4⟩ | ⟨e', hb⟩
  · rw [e2, e4]; exact hl
  · have := h.1; omega
  · have := h.1; omega
  · exact h.2 i a b ha hb
theorem stepNote_like {me : Int} {l l' : List V} {v v' : V} (h : LL l l') (hv : V.like v v') : LL (stepNote me l v) (stepNote me l' v') := by
  have e : noteB me l v = noteB me l' v' := by unfold noteB; rw [hv.2.1, hv.2.2.1, hasB_like h]
  unfold stepNote
  rw [e]
  split
  · exact ll_push h hv
  · exact h
theorem noteL_like {me : Int} : ∀ {vs vs' l l' : List V}, LL vs vs' → LL l l' → LL (noteL me l vs) (noteL me l' vs')
  | [], [], _, _, _, h => h
  | [], _ :: _, _, _, h, _ => by have := h.1; simp at this
  | _ :: _, [], _, _, h, _ => by have := h.1; simp at this
  | a :: r, b :: r', l, l', h, hl => by
    obtain ⟨h1, h2⟩ := ll_cons h
    show LL (noteL me (stepNote me l a) r) (noteL me (stepNote me l' b) r')
    exact noteL_like h2 (stepNote_like hl h1)
theorem stepNote_len (me : Int) (l : List V) (v : V) : (stepNote me l v).length ≤ l.length + 1 := by
  unfold stepNote
  split
  · simp
  · omega
theorem noteL_len (me : Int) : ∀ (vs l : List V), (noteL me l vs).length ≤ l.length + vs.length
  | [], l => by simp [noteL]
  | v :: r, l => by
    have h1 := noteL_len me r (stepNote me l v)
    have h2 := stepNote_len me l v
    show (noteL me (stepNote me l v) r).length ≤ _
    simp only [List.length_cons]
    omega
theorem noteL_mem (me : Int) : ∀ (vs l : List V) (x : V), x ∈ noteL me l vs → x ∈ l ∨ x ∈ vs
  | [], l, x, h => .inl h
  | v :: r, l, x, h => by
    rcases noteL_mem me r (stepNote me l v) x h with h | h
    · unfold stepNote at h
      split at h
      · rcases List.mem_append.1 h with h | h
        · exact .inl h
        · exact .inr (by rw [List.mem_singleton.1 h]; exact List.mem_cons_self)
      · exact .inl h
    · exact .inr (List.mem_cons_of_mem _ h)
/-- What all nodes have: the store of the last. -/
def tailSS (ns : List Nd) : List V := match ns[ns.length - 1]? with | some n => n.ss | none => []
theorem tailSS_is {ns : List Nd} {p : Nat} {n : Nd} (hp : ns.length = p + 1) (hn : ns[p]? = some n) : tailSS ns = n.ss := by unfold tailSS; rw [hp, Nat.add_sub_cancel, hn]
theorem tailSS_like {ns us : List Nd} (h : NL ns us) : LL (tailSS ns) (tailSS us) := by
  unfold tailSS
  rw [h.1]
  cases hx : ns[us.length - 1]? with
  | none => rw [nl_none h hx]; exact ⟨rfl, fun i a b ha _ => by simp at ha⟩
  | some n =>
    obtain ⟨m, hm, hl⟩ := nl_at h hx
    rw [hm]
    exact ⟨hl.1, hl.2.1⟩
/-- Whether nothing waits. -/
def stillB (ns : List Nd) : Bool := ns.all fun n => decide (n.ws.length = 0)
theorem stillB_like {ns us : List Nd} (h : NL ns us) : stillB ns = stillB us := by
  unfold stillB
  rw [Bool.eq_iff_iff, List.all_eq_true, List.all_eq_true]
  constructor
  · intro hx y hy
    obtain ⟨i, hi⟩ := List.getElem?_of_mem hy
    obtain ⟨x, hxi, hl⟩ := nl_at (nl_symm h) hi
    rw [hl.2.2.1]
    exact hx x (List.mem_of_getElem? hxi)
  · intro hx y hy
    obtain ⟨i, hi⟩ := List.getElem?_of_mem hy
    obtain ⟨x, hxi, hl⟩ := nl_at h hi
    rw [hl.2.2.1]
    exact hx x (List.mem_of_getElem? hxi)
/-- A place with other nodes. -/
def chP (p : Pl) (ns : List Nd) : Pl := ⟨p.me, p.ck, p.ca, p.cc, ns, p.la, p.lc, p.log, p.ga, p.gc, p.gs, p.fell⟩
def fellP (p : Pl) (f : Bool) : Pl := ⟨p.me, p.ck, p.ca, p.cc, p.ns, p.la, p.lc, p.log, p.ga, p.gc, p.gs, f⟩
def ckP (p : Pl) (c : Int) : Pl := ⟨p.me, c, p.ca, p.cc, p.ns, p.la, p.lc, p.log, p.ga, p.gc, p.gs, p.fell⟩
/-- A place that has recorded. -/
def noteP (p : Pl) : Pl := ⟨p.me, p.ck, p.ca, p.cc, p.ns, p.la, p.lc, noteL p.me p.log (tailSS p.ns), p.ga, p.gc, p.gs, p.fell && !stillB p.ns⟩
def noP : Pl := ⟨0, 0, none, 0, [], none, 0, [], none, 0, [], false⟩
theorem ll_self (us : List V) : LL us us := ⟨rfl, fun i a b ha hb => by rw [ha] at hb; injection hb with hb; subst hb; exact ⟨rfl, rfl, rfl, rfl, rfl, rfl⟩⟩
theorem nl_self (us : List Nd) : NL us us := ⟨rfl, fun i a b ha hb => by rw [ha] at hb; injection hb with hb; subst hb; exact ⟨rfl, (ll_self _).2, rfl, (ll_self _).2⟩⟩
theorem lls_refl (us : List Lg) : LLs us us := ⟨rfl, fun i a b ha hb => by rw [ha] at hb; injection hb with hb; subst hb; exact ll_self _⟩
theorem lls_trans {a b c : List Lg} (h : LLs a b) (k : LLs b c) : LLs a c := ⟨h.1.trans k.1, fun i x z hx hz => by
  obtain ⟨y, hy, hl⟩ := lls_at h hx
  exact ll_trans hl (k.2 i y z hy hz)⟩
theorem lls_symm {a b : List Lg} (h : LLs a b) : LLs b a := ⟨h.1.symm, fun i x y hx hy => ll_symm (h.2 i y x hy hx)⟩
theorem lp_refl (p : Pl) : LP p p := ⟨rfl, rfl, nl_self _, ll_self _, lls_refl _, rfl⟩
theorem lp_trans {p q r : Pl} (h : LP p q) (k : LP q r) : LP p r := ⟨h.1.trans k.1, h.2.1.trans k.2.1, nl_trans h.2.2.1 k.2.2.1, ll_trans h.2.2.2.1 k.2.2.2.1, lls_trans h.2.2.2.2.1 k.2.2.2.2.1, h.2.2.2.2.2.trans k.2.2.2.2.2⟩
theorem lp_symm {p q : Pl} (h : LP p q) : LP q p := ⟨h.1.symm, h.2.1.symm, nl_symm h.2.2.1, ll_symm h.2.2.2.1, lls_symm h.2.2.2.2.1, h.2.2.2.2.2.symm⟩
theorem noteP_like {p q : Pl} (h : LP p q) : LP (noteP p) (noteP q) := by
  obtain ⟨h1, h2, h3, h4, h5, h6⟩ := h
  refine ⟨h1, h2, h3, ?_, h5, ?_⟩
  · show LL (noteL p.me p.log (tailSS p.ns)) (noteL q.me q.log (tailSS q.ns))
    rw [h1]
    exact noteL_like (tailSS_like h3) h4
  · show (p.fell && !stillB p.ns) = (q.fell && !stillB q.ns)
    rw [h6, stillB_like h3]
/-- A place whose parts are small: of a valid place, or what has recorded since. -/
def FineP (p : Pl) : Prop := FineN p.ns ∧ (p.log.length ≤ 70 ∧ ∀ v ∈ p.log, v.ts.length ≤ 4) ∧ p.gs.length ≤ 3 ∧ ∀ l ∈ p.gs, l.vs.length ≤ 70 ∧ ∀ v ∈ l.vs, v.ts.length ≤ 4
theorem small4_ll {us rs : List V} (h : LL us rs) (hr : rs.length ≤ 70 ∧ ∀ v ∈ rs, v.ts.length ≤ 4) : us.length ≤ 70 ∧ ∀ v ∈ us, v.ts.length ≤ 4 := by
  refine ⟨by rw [h.1]; exact hr.1, fun v hv => ?_⟩
  obtain ⟨i, hi⟩ := List.getElem?_of_mem hv
  obtain ⟨x, hx, hl⟩ := ll_at h hi
  rw [hl.2.2.2.1]
  exact hr.2 x (List.mem_of_getElem? hx)
theorem FineP.like {p r : Pl} (h : LP p r) (hr : FineP r) : FineP p := by
  obtain ⟨-, -, h3, h4, h5, -⟩ := h
  refine ⟨hr.1.like h3, small4_ll h4 hr.2.1, by rw [h5.1]; exact hr.2.2.1, fun l hl => ?_⟩
  obtain ⟨i, hi⟩ := List.getElem?_of_mem hl
  obtain ⟨x, hx, hxl⟩ := lls_at h5 hi
  exact small4_ll hxl (hr.2.2.2 x (List.mem_of_getElem? hx))
theorem FineP.few {p : Pl} (h : FineP p) : FewP p := by
  obtain ⟨h1, h2, h3, h4⟩ := h
  exact ⟨⟨by have := h1.1; omega, h1.small⟩, ⟨by omega, fun v hv => by have := h2.2 v hv; omega⟩, by omega, fun l hl => ⟨by have := (h4 l hl).1; omega, fun v hv => by have := (h4 l hl).2 v hv; omega⟩⟩
theorem wts_small {us : List V} (h : us.length ≤ 70 ∧ ∀ v ∈ us, v.ts.length ≤ 4) : wts us ≤ 910 := by
  have := few_wts us h.2
  omega
theorem wtL_small : ∀ (ls : List Lg), (∀ l ∈ ls, l.vs.length ≤ 70 ∧ ∀ v ∈ l.vs, v.ts.length ≤ 4) → wtL ls ≤ 910 * (ls.length : Int)
  | [], _ => by simp [wtL]
  | l :: r, h => by
    have h1 := wts_small (h l (List.mem_cons_self))
    have h2 := wtL_small r (fun x hx => h x (List.mem_cons_of_mem _ hx))
    unfold wtL at *
    simp only [List.map_cons, List.sum_cons, List.length_cons]
    omega
theorem FineP.wt {p : Pl} (h : FineP p) : (1 : Int) + wtP p ≤ 8388000 ∧ 0 ≤ wtP p := by
  obtain ⟨h1, h2, h3, h4⟩ := h
  have a := h1.wt
  have b := wts_small h2
  have c := wtL_small p.gs h4
  have a' := wtNs_pos p.ns
  have b' := wts_pos p.log
  have c' := wtL_pos p.gs
  unfold wtP
  omega
theorem verV_ts {v : V} (h : verV v = true) : v.ts.length ≤ 4 := few_ver h
theorem logB_fine {us : List V} {p : Int} (h : logB us p = true) : us.length ≤ 60 ∧ ∀ v ∈ us, v.ts.length ≤ 4 := by
  obtain ⟨h1, h2⟩ := logB_parts h
  refine ⟨h1, fun v hv => ?_⟩
  obtain ⟨i, hi⟩ := List.getElem?_of_mem hv
  have := h2 i (List.getElem?_eq_some_iff.1 hi).1
  rw [entryB_at hi, Bool.and_eq_true, Bool.and_eq_true] at this
  exact verV_ts this.1.1
theorem gotB_parts {me : Int} {gs : List Lg} (h : gotB me (gs.map Lg.vs) = true) : gs.length = 3 ∧ ∀ (i : Nat) l, gs[i]? = some l → logB l.vs (i : Int) = true ∧ ((i : Int) = me → l.vs.length = 0) := by
  unfold gotB at h
  rw [Bool.and_eq_true, decide_eq_true_eq, List.length_map, List.all_eq_true] at h
  refine ⟨h.1, fun i l hi => ?_⟩
  have := h.2 i (List.mem_range.2 (List.getElem?_eq_some_iff.1 hi).1)
  rw [List.getElem?_map, hi] at this
  simp only [Option.map_some, Bool.and_eq_true, Bool.or_eq_true, decide_eq_true_eq] at this
  exact ⟨this.1, fun e => by rcases this.2 with h | h; exact absurd e h; exact h⟩
theorem plB_fine {p : Pl} (h : plB p = true) : FineP p ∧ p.log.length ≤ 60 := by
  obtain ⟨-, h2, -, -, h5, h6⟩ := plB_parts h
  obtain ⟨c1, c2, -⟩ := chainB_parts h2
  obtain ⟨l1, l2⟩ := logB_fine h5
  obtain ⟨g1, g2⟩ := gotB_parts h6
  refine ⟨⟨⟨c1.2, c2⟩, ⟨by omega, l2⟩, by omega, fun l hl => ?_⟩, l1⟩
  obtain ⟨i, hi⟩ := List.getElem?_of_mem hl
  obtain ⟨d1, d2⟩ := logB_fine (g2 i l hi).1
  exact ⟨by omega, d2⟩
theorem noteP_fine {p : Pl} (h : FineP p) (hl : p.log.length ≤ 60) (ht : (tailSS p.ns).length ≤ 4 ∧ ∀ v ∈ tailSS p.ns, v.ts.length ≤ 4) : FineP (noteP p) := by
  refine ⟨h.1, ⟨?_, fun v hv => ?_⟩, h.2.2.1, h.2.2.2⟩
  · have := noteL_len p.me (tailSS p.ns) p.log
    show (noteL p.me p.log (tailSS p.ns)).length ≤ 70
    omega
  · rcases noteL_mem p.me (tailSS p.ns) p.log v hv with h1 | h1
    · exact h.2.1.2 v h1
    · exact ht.2 v h1
theorem tailSS_fine {ns : List Nd} (h : FineN ns) : (tailSS ns).length ≤ 4 ∧ ∀ v ∈ tailSS ns, v.ts.length ≤ 4 := by
  unfold tailSS
  cases hx : ns[ns.length - 1]? with
  | none => simp
  | some n =>
    have := (node_ts (h.2 _ n hx)).1
    exact ⟨by show n.ss.length ≤ 4; omega, this.2⟩
end Go.Proofs.YtnaggcdhimcilaaGreat
