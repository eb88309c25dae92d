/- Places that can be read, and what is like them. No condition. -/
import Derived.Test.YtbbaogpgapemhaaGreatJChainClone2
import Derived.Test.YtbbaogpgapemhaaGreatJPlacePure
import Derived.Test.YtbbaogpgapemhaaGreatJLogMark
namespace Go.Proofs.YtbbaogpgapemhaaGreat
open Go.RowKit Go.Joins

/-- A place that can be read: its nodes from the beginning of a block. -/
def Cp (w : World) (p : Pl) : Prop := CgA w p.ca p.ns ∧ Vg w w.heap.size p.la p.log ∧ Lgs w w.heap.size p.ga p.gs
theorem Cp.on {w w' : World} {p : Pl} (h : Cp w p) (hb : Below w.heap.size w w') : Cp w' p := ⟨h.1.on hb, (h.2.1.on hb).up hb.size, (h.2.2.on hb).up hb.size⟩
theorem PRes.cp {w : World} {B U : Nat} {p : Pl} (h : PRes w B U p) : Cp w p := ⟨h.chain.cg, h.log.vg, h.got.lgs⟩
theorem lls_at {us ls : List Lg} (h : LLs us ls) {i : Nat} {u : Lg} (hi : us[i]? = some u) : ∃ l, ls[i]? = some l ∧ LL u.vs l.vs := by
  have hl := (List.getElem?_eq_some_iff.1 hi).1
  obtain ⟨l, hx⟩ : ∃ l, ls[i]? = some l := ⟨_, List.getElem?_eq_getElem (by rw [← h.1]; exact hl)⟩
  exact ⟨l, hx, h.2 i u l hi hx⟩
theorem smP_like {p q : Pl} (h : LP p q) (hs : SmP q) : SmP p := by
  obtain ⟨⟨a1, a2⟩, ⟨b1, b2⟩, c1, c2⟩ := hs
  obtain ⟨-, -, hn, hl, hg, -⟩ := h
  refine ⟨⟨by rw [hn.1]; exact a1, smN_like hn a2⟩, ⟨by rw [hl.1]; exact b1, small_ll hl b2⟩, by rw [hg.1]; exact c1, fun l hm => ?_⟩
  obtain ⟨i, hi⟩ := List.getElem?_of_mem hm
  obtain ⟨l', hi', hx⟩ := lls_at hg hi
  obtain ⟨d1, d2⟩ := c2 l' (List.mem_of_getElem? hi')
  exact ⟨by rw [hx.1]; exact d1, small_ll hx d2⟩
theorem small_fits {vs : List V} (hB : BigV vs) (h : vs.length + tot vs ≤ 1048576) : Small vs := fun v hv => by
  have h1 := tot_mem hv
  exact ⟨by omega, (hB.2 v hv).2⟩
theorem smP_fits {p : Pl} (hB : BigP p) (h : totP p ≤ 1048576) : SmP p := by
  unfold totP totC totLg totGt at h
  obtain ⟨⟨-, b1⟩, b2, -, b3⟩ := hB
  refine ⟨⟨by omega, smN_fits b1 (by omega)⟩, ⟨by omega, small_fits b2 (by omega)⟩, by omega, fun l hl => ?_⟩
  have h1 := totL_mem hl
  unfold totG at h1
  exact ⟨by omega, small_fits (b3 l hl) (by omega)⟩
theorem smP_few {p : Pl} (h : SmP p) : FewP p := ⟨⟨h.1.1, smN_small h.1.2⟩, ⟨h.2.1.1, small_tags h.2.1.2⟩, h.2.2.1, fun l hl => ⟨(h.2.2.2 l hl).1, small_tags (h.2.2.2 l hl).2⟩⟩
/-- Whether a place is valid. -/
def plB (p : Pl) : Bool := placeB p.me p.ck p.ns p.log (p.gs.map Lg.vs)
theorem slots_like {us vs : List V} (h : LL us vs) {q : V → Bool} {q' : V → Bool} (hq : ∀ x y, V.like x y → q x = q' y) : us.all q = vs.all q' := by
  rw [Bool.eq_iff_iff, List.all_eq_true, List.all_eq_true]
  constructor
  · intro hx y hy
    obtain ⟨i, hi⟩ := List.getElem?_of_mem hy
    obtain ⟨x, hxi, hl⟩ := ll_at ⟨h.1.symm, fun i a b ha hb => vlike_symm (h.2 i b a hb ha)⟩ hi
    rw [← hq x y (vlike_symm hl)]
    exact hx x (List.mem_of_getElem? hxi)
  · intro hx y hy
    obtain ⟨i, hi⟩ := List.getElem?_of_mem hy
    obtain ⟨x, hxi, hl⟩ := ll_at h hi
    rw [hq y x hl]
    exact hx x (List.mem_of_getElem? hxi)
theorem hangsB_like {st : List (Int × Int)} {v v' : V} (h : V.like v v') : hangsB st v = hangsB st v' := by
  unfold hangsB
  rw [h.2.1, h.2.2.2.1]
theorem causesB_like {ns us : List Nd} (h : NL ns us) : causesB ns = causesB us := by
  have key : ∀ ns us : List Nd, NL ns us → causesB us = true → causesB ns = true := by
    intro ns us h hc
    refine causesB_ok fun i n hn => ?_
    obtain ⟨m, hm, hl⟩ := nl_at h hn
    unfold causesB at hc
    rw [List.all_eq_true] at hc
    have := hc m (List.mem_of_getElem? hm)
    rw [Bool.and_eq_true, ← slots_like (us := n.ss) ⟨hl.1, hl.2.1⟩ (q := hangsB (stableR us)) (fun x y => hangsB_like), ← slots_like (us := n.ws) ⟨hl.2.2.1, hl.2.2.2⟩ (q := hangsB (stableR us)) (fun x y => hangsB_like), List.all_eq_true, List.all_eq_true] at this
    rw [stableR_like h]
    exact this
  cases hx : causesB us with
  | true => exact key ns us h hx
  | false =>
    cases hy : causesB ns with
    | false => rfl
    | true => rw [key us ns (nl_symm h) hy] at hx; cases hx
theorem clockB_like {c : Int} {ns us : List Nd} (h : NL ns us) : clockB c ns = clockB c us := by
  unfold clockB
  cases hx : ns[0]? with
  | none => rw [nl_none h hx]
  | some n =>
    obtain ⟨m, hm, hl⟩ := nl_at h hx
    rw [hm]
    simp only
    rw [slots_like (us := n.ss) ⟨hl.1, hl.2.1⟩ (q := fun v => decide (v.t ≤ c)) (q' := fun v => decide (v.t ≤ c)) (fun x y h => by rw [h.2.1])]
theorem gotB_like {me : Int} {us ls : List Lg} (h : LLs us ls) : gotB me (us.map Lg.vs) = gotB me (ls.map Lg.vs) := by
  unfold gotB
  rw [List.length_map, List.length_map, h.1]
  congr 2
  funext i
  rw [List.getElem?_map, List.getElem?_map]
  cases hx : us[i]? with
  | none =>
    have : ls[i]? = none := by
      rw [List.getElem?_eq_none_iff] at hx ⊢
      rw [← h.1]; exact hx
    rw [this]
  | some u =>
    obtain ⟨l, hl, hxl⟩ := lls_at h hx
    rw [hl]
    simp only [Option.map_some]
    rw [logB_like hxl, hxl.1]
theorem plB_like {p q : Pl} (h : LP p q) : plB p = plB q := by
  obtain ⟨h1, h2, h3, h4, h5, -⟩ := h
  unfold plB placeB
  rw [h1, h2, chainB_like h3, clockB_like h3, causesB_like h3, logB_like h4, gotB_like h5]
theorem plB_parts {p : Pl} (h : plB p = true) : (0 ≤ p.me ∧ p.me ≤ 2) ∧ chainB p.ns = true ∧ clockB p.ck p.ns = true ∧ causesB p.ns = true ∧ logB p.log p.me = true ∧ gotB p.me (p.gs.map Lg.vs) = true := by
  unfold plB placeB at h
  simp only [Bool.and_eq_true, decide_eq_true_eq] at h
  obtain ⟨⟨⟨⟨⟨h1, h2⟩, h3⟩, h4⟩, h5⟩, h6⟩ := h
  exact ⟨h1, h2, h3, h4, h5, h6⟩
end Go.Proofs.YtbbaogpgapemhaaGreat
/- Contracts of the library's search among versions and among nodes with any function value, and of what is built on it: whether a log has a tag. Condition: what is said of each. -/
namespace Go.Proofs.YtbbaogpgapemhaaGreat
open Go.RowKit Go.Joins
attribute [local go_sem ↓] Go.wp_at_zero Go.wp_at_succ

/-- A function that is entered whenever it is called. -/
def EnteredV (N : Nat) : Prop := ∀ (args : Array Value) (W : World), (callFunc N args).run Tryz.prog W = .ok (.enter N args) W
theorem Vg.take {w : World} {B : Nat} {a : Option Addr} {vs : List V} (h : Vg w B a vs) (k : Nat) : Vg w B a (vs.take k) := by
  rcases h with h | ⟨b, off, h1, h2, h3⟩
  · exact .inl (by rw [h]; simp)
  · refine .inr ⟨b, off, h1, h2, fun i v hi => ?_⟩
    rw [List.getElem?_take] at hi
    split at hi
    · exact h3 i v hi
    · cases hi
set_option maxRecDepth 100000 in
set_option maxHeartbeats 2000000 in
theorem indexVers_any (N : Nat) (caps : Array Value) (p : V → Bool) (a : Option Addr) (c : Nat) (vs : List V) (w : World) (hn : vs.length ≤ 1048576) (hv : Vg w w.heap.size a vs) (hc : EnteredV N)
    (hp : ∀ (k : Nat) v, vs[k]? = some v → ∀ W, Below w.heap.size w W → Calls Tryz.prog N (#[.agg (verC v.k v.t v.u v.a v.ts.length v.c v.s v.g)] ++ caps) W fun e w' => e = .returned (.bool (p v)) ∧ Below W.heap.size W w') :
    Calls Tryz.prog 166 #[.slice a vs.length c, .func (.func N) #[] caps] w fun e w' => e = .returned (.int .i64 (findV p vs)) ∧ Below w.heap.size w w' := by
  have HP := hide hp
  clear hp
  unfold EnteredV at hc
  generalize hnn : vs.length = n at *
  have HN := hide hnn
  clear hnn
  go_enter Tryz.func166, Tryz.ntmps166
  go_wp2
  go_loopw [8] (fun i wr => ∃ k : Nat, k ≤ n ∧ i = .int .i64 (k : Int) ∧ Hid (∀ (j : Nat) y, j < k → vs[j]? = some y → p y = false) ∧ Below w.heap.size w wr) (fun i _ => n - (intOf i).toNat)
  case atStart => exact ⟨0, Nat.zero_le _, rfl, fun j x hj => absurd hj (by omega), Below.refl _ _⟩
  case round =>
    obtain ⟨k, hk, rfl, hno, hL⟩ := hrel
    by_cases hlt : k < n
    · rcases hv with h0 | ⟨b, off, rfl, hb, hx⟩
      · have := HN.out; subst h0; simp at this; omega
      · have hkl : k < vs.length := by have := HN.out; omega
        obtain ⟨hS, hT⟩ := hx k _ (List.getElem?_eq_getElem hkl)
        have HY := hide (List.getElem?_eq_getElem hkl)
        generalize vs[k] = v at hS hT HY
        have Q1 := (hS.keep hb fun _ hp => hL.cell hp)
        have CT := hide (HP.out k v HY.out wr hL)
        obtain ⟨vk, vt, vu, va, vc, vts, vs', vg⟩ := v
        simp only at Q1 CT
        clear hS hT hx
        have i1 : (0 : Int) ≤ (k : Int) := by omega
        have i2 : (k : Int) < (n : Int) := by omega
        go_wp2_with fail
        with_reducible refine CT.out.mono ?_
        rintro e w1 ⟨rfl, hb1⟩
        have hL1 := hL.trans (hb1.mono hL.size)
        clear CT
        cases hpy : p ⟨vk, vt, vu, va, vc, vts, vs', vg⟩
        · have HN1 : Hid (∀ (j : Nat) y, j < k + 1 → vs[j]? = some y → p y = false) := fun j x hj hx => by
            by_cases e : j = k
            · subst e
              have h1 := HY.out
              rw [h1] at hx
              injection hx with hx
              subst hx
              exact hpy
            · exact hno.out j x (by omega) hx
          clear hpy Q1
          go_wp2
          exact ⟨⟨k + 1, by omega, by go_num, HN1, hL1⟩, by simp [intOf]; omega⟩
        · have hf := hide (findV_at HY.out hpy hno.out)
          clear hpy Q1
          go_wp2
          go_ret
          exact ⟨ret_int hf.out.symm, hL1⟩
    · have hkn : k = n := by omega
      subst hkn
      clear hlt
      have hf := hide (findV_not (p := p) (ds := vs) fun j y hy => hno.out j y (by have := (List.getElem?_eq_some_iff.1 hy).1; have := HN.out; omega) hy)
      go_wp2
      go_ret
      exact ⟨ret_int hf.out.symm, hL⟩
set_option maxHeartbeats 1000000 in
theorem containsVers_any (N : Nat) (caps : Array Value) (p : V → Bool) (a : Option Addr) (c : Nat) (vs : List V) (w : World) (hn : vs.length ≤ 1048576) (hv : Vg w w.heap.size a vs) (hc : EnteredV N)
    (hp : ∀ (k : Nat) v, vs[k]? = some v → ∀ W, Below w.heap.size w W → Calls Tryz.prog N (#[.agg (verC v.k v.t v.u v.a v.ts.length v.c v.s v.g)] ++ caps) W fun e w' => e = .returned (.bool (p v)) ∧ Below W.heap.size W w') :
    Calls Tryz.prog 128 #[.slice a vs.length c, .func (.func N) #[] caps] w fun e w' => e = .returned (.bool (vs.any p)) ∧ Below w.heap.size w w' := by
  have H := hide (findV_any p vs)
  have C0 := hide (indexVers_any N caps p a c vs w hn hv hc hp)
  clear hp
  go_enter Tryz.func128, Tryz.ntmps128
  go_wp2_with fail
  with_reducible refine C0.out.mono ?_
  rintro e w1 ⟨rfl, hb1⟩
  generalize findV p vs = x at H ⊢
  go_wp2
  go_ret
  exact ⟨ret_bool H.out, hb1⟩
/-- The place of the first node that is such, or -1. -/
def findN (p : Nd → Bool) (ns : List Nd) : Int := match ns.findIdx? p with | some i => (i : Int) | none => -1
theorem findN_at {p : Nd → Bool} {ds : List Nd} {k : Nat} {x : Nd} (hx : ds[k]? = some x) (hp : p x = true) (hb : ∀ j y, j < k → ds[j]? = some y → p y = false) : findN p ds = (k : Int) := by
  have hk := (List.getElem?_eq_some_iff.1 hx).1
  have : ds.findIdx? p = some k := by
    rw [List.findIdx?_eq_some_iff_getElem]
    refine ⟨hk, by rw [(List.getElem?_eq_some_iff.1 hx).2]; exact hp, fun j hj => ?_⟩
    have := hb j ds[j] hj (List.getElem?_eq_getElem (by omega))
    simp [this]
  unfold findN
  rw [this]
theorem findN_not {p : Nd → Bool} {ds : List Nd} (hb : ∀ (j : Nat) y, ds[j]? = some y → p y = false) : findN p ds = -1 := by
  have : ds.findIdx? p = none := by
    rw [List.findIdx?_eq_none_iff]
    intro x hx
    obtain ⟨j, hj⟩ := List.getElem?_of_mem hx
    exact hb j x hj
  unfold findN
  rw [this]
theorem findN_any (p : Nd → Bool) (ds : List Nd) : decide (0 ≤ findN p ds) = ds.any p := by
  unfold findN
  cases h : ds.findIdx? p with
  | none =>
    rw [List.findIdx?_eq_none_iff] at h
    have : ds.any p = false := by
      rw [List.any_eq_false]
      intro x hx
      rw [h x hx]
      decide
    rw [this]
    simp
  | some i =>
    rw [List.findIdx?_eq_some_iff_getElem] at h
    obtain ⟨hi, hp, _⟩ := h
    have : ds.any p = true := by
      rw [List.any_eq_true]
      exact ⟨_, List.getElem_mem hi, hp⟩
    rw [this]
    simp
set_option maxRecDepth 100000 in
set_option maxHeartbeats 2000000 in
theorem indexNodes_any (N : Nat) (caps : Array Value) (p : Nd → Bool) (A : Option Addr) (c : Nat) (ns : List Nd) (w : World) (hn : ns.length ≤ 1048576) (hC : CgA w A ns) (hc : EnteredV N)
    (hp : ∀ (k : Nat) n, ns[k]? = some n → ∀ W, Below w.heap.size w W → Calls Tryz.prog N (#[.agg #[.slice n.sa n.ss.length n.sc, .slice n.wa n.ws.length n.wc]] ++ caps) W fun e w' => e = .returned (.bool (p n)) ∧ Below W.heap.size W w') :
    Calls Tryz.prog 179 #[.slice A ns.length c, .func (.func N) #[] caps] w fun e w' => e = .returned (.int .i64 (findN p ns)) ∧ Below w.heap.size w w' := by
  have HP := hide hp
  have HC := hide hC
  clear hp hC
  unfold EnteredV at hc
  generalize hnn : ns.length = n at *
  have HN := hide hnn
  clear hnn
  go_enter Tryz.func179, Tryz.ntmps179
  go_wp2
  go_loopw [8] (fun i wr => ∃ k : Nat, k ≤ n ∧ i = .int .i64 (k : Int) ∧ Hid (∀ (j : Nat) y, j < k → ns[j]? = some y → p y = false) ∧ Below w.heap.size w wr) (fun i _ => n - (intOf i).toNat)
  case atStart => exact ⟨0, Nat.zero_le _, rfl, fun j x hj => absurd hj (by omega), Below.refl _ _⟩
  case round =>
    obtain ⟨k, hk, rfl, hno, hL⟩ := hrel
    by_cases hlt : k < n
    · rcases HC.out with h0 | ⟨G, cur, rfl, hG⟩
      · have := HN.out; rw [h0] at this; simp at this; omega
      · have hkl : k < ns.length := by have := HN.out; omega
        have HY := hide (List.getElem?_eq_getElem hkl)
        generalize ns[k] = v at HY
        have HCr := hG.on hL
        have n0 : wr.cell? ⟨G, k * 2, none⟩ = some (.slice v.sa v.ss.length v.sc) := (HCr.blk.at _).trans (HCr.at' k v HY.out).1
        have n1 : wr.cell? ⟨G, k * 2 + 1, none⟩ = some (.slice v.wa v.ws.length v.wc) := (HCr.blk.at _).trans (HCr.at' k v HY.out).2
        have CT := hide (HP.out k v HY.out wr hL)
        obtain ⟨sa, sc, ss, wa, wc, ws⟩ := v
        simp only at n0 n1 CT
        clear HCr hG HC
        have i1 : (0 : Int) ≤ (k : Int) := by omega
        have i2 : (k : Int) < (n : Int) := by omega
        go_wp2_with fail
        with_reducible refine CT.out.mono ?_
        rintro e w1 ⟨rfl, hb1⟩
        have hL1 := hL.trans (hb1.mono hL.size)
        clear CT
        cases hpy : p ⟨sa, sc, ss, wa, wc, ws⟩
        · have HN1 : Hid (∀ (j : Nat) y, j < k + 1 → ns[j]? = some y → p y = false) := fun j x hj hx => by
            by_cases e : j = k
            · subst e
              have h1 := HY.out
              rw [h1] at hx
              injection hx with hx
              subst hx
              exact hpy
            · exact hno.out j x (by omega) hx
          clear hpy n0 n1
          go_wp2
          exact ⟨⟨k + 1, by omega, by go_num, HN1, hL1⟩, by simp [intOf]; omega⟩
        · have hf := hide (findN_at HY.out hpy hno.out)
          clear hpy n0 n1
          go_wp2
          go_ret
          exact ⟨ret_int hf.out.symm, hL1⟩
    · have hkn : k = n := by omega
      subst hkn
      clear hlt
      have hf := hide (findN_not (p := p) (ds := ns) fun j y hy => hno.out j y (by have := (List.getElem?_eq_some_iff.1 hy).1; have := HN.out; omega) hy)
      go_wp2
      go_ret
      exact ⟨ret_int hf.out.symm, hL⟩
set_option maxHeartbeats 1000000 in
theorem containsNodes_any (N : Nat) (caps : Array Value) (p : Nd → Bool) (A : Option Addr) (c : Nat) (ns : List Nd) (w : World) (hn : ns.length ≤ 1048576) (hC : CgA w A ns) (hc : EnteredV N)
    (hp : ∀ (k : Nat) n, ns[k]? = some n → ∀ W, Below w.heap.size w W → Calls Tryz.prog N (#[.agg #[.slice n.sa n.ss.length n.sc, .slice n.wa n.ws.length n.wc]] ++ caps) W fun e w' => e = .returned (.bool (p n)) ∧ Below W.heap.size W w') :
    Calls Tryz.prog 126 #[.slice A ns.length c, .func (.func N) #[] caps] w fun e w' => e = .returned (.bool (ns.any p)) ∧ Below w.heap.size w w' := by
  have H := hide (findN_any p ns)
  have C0 := hide (indexNodes_any N caps p A c ns w hn hC hc hp)
  clear hp
  go_enter Tryz.func126, Tryz.ntmps126
  go_wp2_with fail
  with_reducible refine C0.out.mono ?_
  rintro e w1 ⟨rfl, hb1⟩
  generalize findN p ns = x at H ⊢
  go_wp2
  go_ret
  exact ⟨ret_bool H.out, hb1⟩
/-- Whether versions have a tag. -/
def hasB (us : List V) (t u : Int) : Bool := us.any fun x => decide (x.t = t ∧ x.u = u)
set_option maxHeartbeats 1000000 in
theorem hasTagIs_any (v : V) (b : Nat) (t u : Int) (w : World) (hb : Blk w b 46 #[.int .i64 t, .int .i64 u]) :
    Calls Tryz.prog 164 (#[.agg (verC v.k v.t v.u v.a v.ts.length v.c v.s v.g)] ++ #[.pointer (some ⟨b, 0, none⟩)]) w fun e w' => e = .returned (.bool (decide (v.t = t ∧ v.u = u))) ∧ Below w.heap.size w w' := by
  have S0 := (Inv.start w).box 68 (verC v.k v.t v.u v.a v.ts.length v.c v.s v.g)
  have q := (hb.on S0.below).two
  have hte := tagEq_at v.t v.u t u
  have HE : Hid (eqB v.t v.u t u = decide (v.t = t ∧ v.u = u)) := rfl
  obtain ⟨vk, vt, vu, va, vc, vts, vs', vg⟩ := v
  simp only at hte HE S0
  rw [← HE.out]
  generalize eqB vt vu t u = x at hte ⊢
  clear HE hb
  go_enter Tryz.func164, Tryz.ntmps164
  go_wp2
  go_ret
  exact ⟨rfl, S0.below⟩
set_option maxHeartbeats 1000000 in
theorem hasTag_any (a : Option Addr) (c : Nat) (us : List V) (t u : Int) (w : World) (hn : us.length ≤ 1048576) (hv : Vg w w.heap.size a us) :
    Calls Tryz.prog 104 #[.slice a us.length c, .agg #[.int .i64 t, .int .i64 u]] w fun e w' => e = .returned (.bool (hasB us t u)) ∧ Below w.heap.size w w' := by
  have S0 := (Inv.start w).box 46 #[.int .i64 t, .int .i64 u]
  simp only [World.size_alloc] at S0
  have HB := hide (Blk.made w 46 #[.int .i64 t, .int .i64 u])
  have C0 := hide (containsVers_any 164 #[.pointer (some ⟨w.heap.size, 0, none⟩)] (fun x => decide (x.t = t ∧ x.u = u)) a c us (w.alloc (.cells #[.int .i64 t, .int .i64 u] 46)) hn ((hv.on S0.below).up S0.base) (run_enterV Tryz.func164 (by kernel_rfl) rfl) (fun k v _ W hW => hasTagIs_any v w.heap.size t u W (HB.out.on hW)))
  have HE : Hid (us.any (fun x => decide (x.t = t ∧ x.u = u)) = hasB us t u) := rfl
  clear hv HB
  go_enter Tryz.func104, Tryz.ntmps104
  go_wp2_with fail
  with_reducible refine C0.out.mono ?_
  rw [HE.out]
  rintro e w1 ⟨rfl, hb1⟩
  have S1 := S0.on hb1
  generalize hx : hasB us t u = x
  have HX := hide hx
  clear S0 C0 hx
  go_wp2
  go_ret
  exact ⟨ret_bool HX.out.symm, S1.below⟩
end Go.Proofs.YtbbaogpgapemhaaGreat
/- What a place records, and what its changes answer, said plainly. No condition. -/
namespace Go.Proofs.YtbbaogpgapemhaaGreat
open Go.RowKit Go.Joins

/-- Whether a version is to be recorded: it is one, of this place, and not there. -/
def noteB (me : Int) (l : List V) (v : V) : Bool := decide (0 < v.t) && decide (v.u = me) && !hasB l v.t v.u
def stepNote (me : Int) (l : List V) (v : V) : List V := if noteB me l v = true then l ++ [v] else l
def noteL (me : Int) (l : List V) (vs : List V) : List V := vs.foldl (stepNote me) l
/-- What all nodes have: the store of the last. -/
def tailSS (ns : List Nd) : List V := match ns[ns.length - 1]? with | some n => n.ss | none => []
/-- Whether nothing waits. -/
def stillB (ns : List Nd) : Bool := ns.all fun n => decide (n.ws.length = 0)
/-- A place with other nodes. -/
def chP (p : Pl) (ns : List Nd) : Pl := ⟨p.me, p.ck, p.ca, p.cc, ns, p.la, p.lc, p.log, p.ga, p.gc, p.gs, p.fell⟩
def fellP (p : Pl) (f : Bool) : Pl := ⟨p.me, p.ck, p.ca, p.cc, p.ns, p.la, p.lc, p.log, p.ga, p.gc, p.gs, f⟩
def ckP (p : Pl) (c : Int) : Pl := ⟨p.me, c, p.ca, p.cc, p.ns, p.la, p.lc, p.log, p.ga, p.gc, p.gs, p.fell⟩
/-- A place that has recorded. -/
def noteP (p : Pl) : Pl := ⟨p.me, p.ck, p.ca, p.cc, p.ns, p.la, p.lc, noteL p.me p.log (tailSS p.ns), p.ga, p.gc, p.gs, p.fell && !stillB p.ns⟩
def noP : Pl := ⟨0, 0, none, 0, [], none, 0, [], none, 0, [], false⟩
theorem lls_trans {a b c : List Lg} (h : LLs a b) (k : LLs b c) : LLs a c := ⟨h.1.trans k.1, fun i x z hx hz => by
  obtain ⟨y, hy, hl⟩ := lls_at h hx
  exact ll_trans hl (k.2 i y z hy hz)⟩
theorem lls_symm {a b : List Lg} (h : LLs a b) : LLs b a := ⟨h.1.symm, fun i x y hx hy => ll_symm (h.2 i y x hy hx)⟩
theorem lp_trans {p q r : Pl} (h : LP p q) (k : LP q r) : LP p r := ⟨h.1.trans k.1, h.2.1.trans k.2.1, nl_trans h.2.2.1 k.2.2.1, ll_trans h.2.2.2.1 k.2.2.2.1, lls_trans h.2.2.2.2.1 k.2.2.2.2.1, h.2.2.2.2.2.trans k.2.2.2.2.2⟩
theorem lp_symm {p q : Pl} (h : LP p q) : LP q p := ⟨h.1.symm, h.2.1.symm, nl_symm h.2.2.1, ll_symm h.2.2.2.1, lls_symm h.2.2.2.2.1, h.2.2.2.2.2.symm⟩
/-- A place whose parts are small: of a valid place, or what has recorded since. -/
def FineP (p : Pl) : Prop := FineN p.ns ∧ (p.log.length ≤ 70 ∧ ∀ v ∈ p.log, v.ts.length ≤ 4) ∧ p.gs.length ≤ 3 ∧ ∀ l ∈ p.gs, l.vs.length ≤ 70 ∧ ∀ v ∈ l.vs, v.ts.length ≤ 4
theorem small4_ll {us rs : List V} (h : LL us rs) (hr : rs.length ≤ 70 ∧ ∀ v ∈ rs, v.ts.length ≤ 4) : us.length ≤ 70 ∧ ∀ v ∈ us, v.ts.length ≤ 4 := by
  refine ⟨by rw [h.1]; exact hr.1, fun v hv => ?_⟩
  obtain ⟨i, hi⟩ := List.getElem?_of_mem hv
  obtain ⟨x, hx, hl⟩ := ll_at h hi
  rw [hl.2.2.2.1]
  exact hr.2 x (List.mem_of_getElem? hx)
theorem FineP.like {p r : Pl} (h : LP p r) (hr : FineP r) : FineP p := by
  obtain ⟨-, -, h3, h4, h5, -⟩ := h
  refine ⟨hr.1.like h3, small4_ll h4 hr.2.1, by rw [h5.1]; exact hr.2.2.1, fun l hl => ?_⟩
  obtain ⟨i, hi⟩ := List.getElem?_of_mem hl
  obtain ⟨x, hx, hxl⟩ := lls_at h5 hi
  exact small4_ll hxl (hr.2.2.2 x (List.mem_of_getElem? hx))
theorem FineP.few {p : Pl} (h : FineP p) : FewP p := by
  obtain ⟨h1, h2, h3, h4⟩ := h
  exact ⟨⟨by have := h1.1; omega, h1.small⟩, ⟨by omega, fun v hv => by have := h2.2 v hv; omega⟩, by omega, fun l hl => ⟨by have := (h4 l hl).1; omega, fun v hv => by have := (h4 l hl).2 v hv; omega⟩⟩
theorem wts_small {us : List V} (h : us.length ≤ 70 ∧ ∀ v ∈ us, v.ts.length ≤ 4) : wts us ≤ 910 := by
  have := few_wts us h.2
  omega
theorem wtL_small : ∀ (ls : List Lg), (∀ l ∈ ls, l.vs.length ≤ 70 ∧ ∀ v ∈ l.vs, v.ts.length ≤ 4) → wtL ls ≤ 910 * (ls.length : Int)
  | [], _ => by simp [wtL]
  | l :: r, h => by
    have h1 := wts_small (h l (List.mem_cons_self))
    have h2 := wtL_small r (fun x hx => h x (List.mem_cons_of_mem _ hx))
    unfold wtL at *
    simp only [List.map_cons, List.sum_cons, List.length_cons]
    omega
theorem FineP.wt {p : Pl} (h : FineP p) : (1 : Int) + wtP p ≤ 8388000 ∧ 0 ≤ wtP p := by
  obtain ⟨h1, h2, h3, h4⟩ := h
  have a := h1.wt
  have b := wts_small h2
  have c := wtL_small p.gs h4
  have a' := wtNs_pos p.ns
  have b' := wts_pos p.log
  have c' := wtL_pos p.gs
  unfold wtP
  omega
end Go.Proofs.YtbbaogpgapemhaaGreat
