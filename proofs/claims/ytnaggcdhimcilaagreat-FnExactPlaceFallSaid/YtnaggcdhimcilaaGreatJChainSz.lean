/- Contracts of whether a node is valid by itself, in the program; and of the library's search among versions with a function value. Condition: what is said of each. -/
import Derived.Test.YtnaggcdhimcilaaGreatJChainPure
namespace Go.Proofs.YtnaggcdhimcilaaGreat
open Go.RowKit Go.Joins
attribute [local go_sem ↓] Go.wp_at_zero Go.wp_at_succ

/-- A function with a body is entered. -/
theorem run_enterV {f : FuncId} {fn : Func} {c : Code} (hf : Tryz.prog.funcs[f]? = some fn) (hname : (fn.name == "runtime.NumGoroutine") = false) (hb : fn.body = some c) (args : Array Value) (w : World) :
    (callFunc f args).run Tryz.prog w = .ok (.enter f args) w := by
  have h1 : fn.name ≠ "runtime.NumGoroutine" := by simpa using hname
  simp [callFunc, hf, h1, hb]
/-- The place of the first version that is such, or -1. -/
def findV (p : V → Bool) (vs : List V) : Int := match vs.findIdx? p with | some i => (i : Int) | none => -1
theorem findV_at {p : V → Bool} {ds : List V} {k : Nat} {x : V} (hx : ds[k]? = some x) (hp : p x = true) (hb : ∀ j y, j < k → ds[j]? = some y → p y = false) : findV p ds = (k : Int) := by
  have hk := (List.getElem?_eq_some_iff.1 hx).1
  have : ds.findIdx? p = some k := by
    rw [List.findIdx?_eq_some_iff_getElem]
    refine ⟨hk, by rw [(List.getElem?_eq_some_iff.1 hx).2]; exact hp, fun j hj => ?_⟩
    have := hb j ds[j] hj (List.getElem?_eq_getElem (by omega))
    simp [this]
  unfold findV
  rw [this]
theorem findV_not {p : V → Bool} {ds : List V} (hb : ∀ (j : Nat) y, ds[j]? = some y → p y = false) : findV p ds = -1 := by
  have : ds.findIdx? p = none := by
    rw [List.findIdx?_eq_none_iff]
    intro x hx
    obtain ⟨j, hj⟩ := List.getElem?_of_mem hx
    exact hb j x hj
  unfold findV
  rw [this]
theorem findV_any (p : V → Bool) (ds : List V) : decide (0 ≤ findV p ds) = ds.any p := by
  unfold findV
  cases h : ds.findIdx? p with
  | none =>
    rw [List.findIdx?_eq_none_iff] at h
    have : ds.any p = false := by
      rw [List.any_eq_false]
      intro x hx
      rw [h x hx]
      decide
    rw [this]
    simp
  | some i =>
    rw [List.findIdx?_eq_some_iff_getElem] at h
    obtain ⟨hi, hp, _⟩ := h
    have : ds.any p = true := by
      rw [List.any_eq_true]
      exact ⟨_, List.getElem_mem hi, hp⟩
    rw [this]
    simp
set_option maxHeartbeats 1000000 in
theorem nodeNot_any (k t u : Int) (a : Option Addr) (c : Nat) (ts : List (Int × Int)) (s : ByteArray) (g : Bool) (w : World) (hn : ts.length ≤ 1048576) (hs : s.size ≤ 9223372036854775807) (ht : Tg w w.heap.size a ts) :
    Calls Tryz.prog 131 #[.agg (verC k t u a ts.length c s g)] w fun e w' => e = .returned (.bool (!verB k t u ts s g)) ∧ Below w.heap.size w w' := by
  have S0 := (Inv.start w).box 96 (verC k t u a ts.length c s g)
  simp only [World.size_alloc] at S0
  have q0 := (S0.nth 0 rfl).six.1
  go_enter Tryz.func131, Tryz.ntmps131
  go_wp2_with fail
  refine (implVerOk_any k t u a c ts s g _ hn hs ((ht.on S0.below).up S0.base)).mono ?_
  rintro e w1 ⟨rfl, hb1⟩
  have S1 := S0.on hb1
  clear S0 q0
  generalize hx : verB k t u ts s g = x
  have HX := hide hx
  clear hx
  go_wp2
  go_ret
  exact ⟨ret_bool (by rw [HX.out]), S1.below⟩
set_option maxRecDepth 100000 in
set_option maxHeartbeats 2000000 in
theorem indexVer_any (a : Option Addr) (c : Nat) (vs : List V) (w : World) (hn : vs.length ≤ 1048576) (hm : Small vs) (hv : Vg w w.heap.size a vs) :
    Calls Tryz.prog 143 #[.slice a vs.length c, .func (.func 131) #[] #[]] w fun e w' => e = .returned (.int .i64 (findV (fun v => !verV v) vs)) ∧ Below w.heap.size w w' := by
  have HM := hide hm
  clear hm
  generalize hnn : vs.length = n at *
  have HN := hide hnn
  clear hnn
  go_enter Tryz.func143, Tryz.ntmps143
  go_wp2
  go_loopw [8] (fun i wr => ∃ k : Nat, k ≤ n ∧ i = .int .i64 (k : Int) ∧ Hid (∀ (j : Nat) y, j < k → vs[j]? = some y → (!verV y) = false) ∧ Below w.heap.size w wr) (fun i _ => n - (intOf i).toNat)
  case atStart => exact ⟨0, Nat.zero_le _, rfl, fun j x hj => absurd hj (by omega), Below.refl _ _⟩
  case round =>
    obtain ⟨k, hk, rfl, hno, hL⟩ := hrel
    by_cases hlt : k < n
    · rcases hv with h0 | ⟨b, off, rfl, hb, hx⟩
      · have := HN.out; subst h0; simp at this; omega
      · have hkl : k < vs.length := by have := HN.out; omega
        obtain ⟨hS, hT⟩ := hx k _ (List.getElem?_eq_getElem hkl)
        have HY := hide (List.getElem?_eq_getElem hkl)
        generalize vs[k] = v at hS hT HY
        have HB := hide (HM.out v (List.mem_of_getElem? HY.out))
        obtain ⟨vk, vt, vu, va, vc, vts, vs', vg⟩ := v
        have Q1 := (hS.keep hb fun _ hp => hL.cell hp)
        simp only at Q1 hT
        have T1 := hide hT
        clear hS hT hx
        have i1 : (0 : Int) ≤ (k : Int) := by omega
        have i2 : (k : Int) < (n : Int) := by omega
        go_wp2_with fail
        refine (nodeNot_any vk vt vu va vc vts vs' vg _ HB.out.1 HB.out.2 ((T1.out.on hL).up hL.size)).mono ?_
        rintro e w1 ⟨rfl, hb1⟩
        have hL1 := hL.trans (hb1.mono hL.size)
        cases hpy : verB vk vt vu vts vs' vg
        · have hf := hide (findV_at (p := fun v => !verV v) HY.out (by show (!verB vk vt vu vts vs' vg) = true; rw [hpy]; rfl) hno.out)
          clear hpy Q1
          go_wp2
          go_ret
          exact ⟨ret_int hf.out.symm, hL1⟩
        · have HN1 : Hid (∀ (j : Nat) y, j < k + 1 → vs[j]? = some y → (!verV y) = false) := fun j x hj hx => by
            by_cases e : j = k
            · subst e
              have h1 := HY.out
              rw [h1] at hx
              injection hx with hx
              subst hx
              show (!verB vk vt vu vts vs' vg) = false
              rw [hpy]
              rfl
            · exact hno.out j x (by omega) hx
          clear hpy Q1
          go_wp2
          exact ⟨⟨k + 1, by omega, by go_num, HN1, hL1⟩, by simp [intOf]; omega⟩
    · have hkn : k = n := by omega
      subst hkn
      clear hlt
      have hf := hide (findV_not (p := fun v => !verV v) (ds := vs) fun j y hy => hno.out j y (by have := (List.getElem?_eq_some_iff.1 hy).1; have := HN.out; omega) hy)
      go_wp2
      go_ret
      exact ⟨ret_int hf.out.symm, hL⟩
set_option maxHeartbeats 1000000 in
theorem containsVer_any (a : Option Addr) (c : Nat) (vs : List V) (w : World) (hn : vs.length ≤ 1048576) (hm : Small vs) (hv : Vg w w.heap.size a vs) :
    Calls Tryz.prog 112 #[.slice a vs.length c, .func (.func 131) #[] #[]] w fun e w' => e = .returned (.bool (vs.any fun v => !verV v)) ∧ Below w.heap.size w w' := by
  have H := hide (findV_any (fun v => !verV v) vs)
  have C0 := hide (indexVer_any a c vs w hn hm hv)
  go_enter Tryz.func112, Tryz.ntmps112
  go_wp2_with fail
  refine C0.out.mono ?_
  rintro e w1 ⟨rfl, hb1⟩
  generalize findV (fun v => !verV v) vs = x at H ⊢
  go_wp2
  go_ret
  exact ⟨ret_bool H.out, hb1⟩
set_option maxHeartbeats 2000000 in
theorem nodeOk_any (sa : Option Addr) (sc : Nat) (ss : List V) (wa : Option Addr) (wc : Nat) (ws : List V) (w : World) (hn : ss.length ≤ 1048576) (hn' : ws.length ≤ 1048576) (hm : Small ss) (hm' : Small ws) (hv : Vg w w.heap.size sa ss) (hw : Vg w w.heap.size wa ws) :
    Calls Tryz.prog 102 #[.agg #[.slice sa ss.length sc, .slice wa ws.length wc]] w fun e w' => e = .returned (.bool (nodeB ⟨sa, sc, ss, wa, wc, ws⟩)) ∧ Below w.heap.size w w' := by
  have S0 := (Inv.start w).box 90 #[.slice sa ss.length sc, .slice wa ws.length wc]
  simp only [World.size_alloc] at S0
  have q0 := (S0.nth 0 rfl).two.1
  go_enter Tryz.func102, Tryz.ntmps102
  go_wp2_with fail
  refine (implStoreOk_any sa sc ss _ hn hm ((hv.on S0.below).up S0.base)).mono ?_
  rintro e w1 ⟨rfl, hb1⟩
  have S1 := S0.on hb1
  have q1 : w1.cell? ⟨w.heap.size, 1, none⟩ = some (.slice wa ws.length wc) := (S1.nth 0 rfl).at 1
  clear S0 q0
  cases hs : storeB ss
  · have HF : Hid (nodeB ⟨sa, sc, ss, wa, wc, ws⟩ = false) := by unfold Hid nodeB; simp [hs]
    clear hs
    go_wp2
    go_ret
    exact ⟨ret_bool HF.out.symm, S1.below⟩
  · by_cases hl : ws.length ≤ 6
    · have HF : Hid (nodeB ⟨sa, sc, ss, wa, wc, ws⟩ = !(ws.any fun v => !verV v)) := by
        unfold Hid nodeB
        simp only [hs, hl, decide_true, Bool.true_and]
        exact List.all_eq_not_any_not
      have h6 : (ws.length : Int) ≤ 6 := by omega
      have HW := hide ((hw.on S1.below).up S1.base)
      clear hs hl hw
      go_wp2_with fail
      refine (containsVer_any wa wc ws _ hn' hm' HW.out).mono ?_
      rintro e w2 ⟨rfl, hb2⟩
      have S2 := S1.on hb2
      clear S1 q1
      generalize (ws.any fun v => !verV v) = x at HF ⊢
      go_wp2
      go_ret
      exact ⟨ret_bool HF.out.symm, S2.below⟩
    · have HF : Hid (nodeB ⟨sa, sc, ss, wa, wc, ws⟩ = false) := by unfold Hid nodeB; simp [hl]
      have h6 : ¬ ((ws.length : Int) ≤ 6) := by omega
      clear hs hl
      go_wp2
      go_ret
      exact ⟨ret_bool HF.out.symm, S1.below⟩
end Go.Proofs.YtnaggcdhimcilaaGreat
/- Contract of whether what waits at a node is what the next one lacks, in the program. Condition: a chain's nodes that are valid by themselves. -/
namespace Go.Proofs.YtnaggcdhimcilaaGreat
open Go.RowKit Go.Joins
attribute [local go_sem ↓] Go.wp_at_zero Go.wp_at_succ

/-- A chain's nodes as they lie in memory, from the beginning of block G. -/
structure Cg (w : World) (G : Nat) (ns : List Nd) (cur : Array Value) : Prop where
  blk : Blk w G 90 cur
  at' : ∀ (i : Nat) n, ns[i]? = some n → NdAt cur i n
  store : ∀ (i : Nat) n, ns[i]? = some n → Vg w w.heap.size n.sa n.ss
  wait : ∀ (i : Nat) n, ns[i]? = some n → Vg w w.heap.size n.wa n.ws
theorem Cg.on {w w' : World} {G : Nat} {ns : List Nd} {cur : Array Value} (h : Cg w G ns cur) (hb : Below w.heap.size w w') : Cg w' G ns cur :=
  ⟨h.blk.on hb, h.at', fun i n hi => ((h.store i n hi).on hb).up hb.size, fun i n hi => ((h.wait i n hi).on hb).up hb.size⟩
theorem NRow.cg {w : World} {B U G : Nat} {ns : List Nd} {cur : Array Value} (h : NRow w B U G ns cur) : Cg w G ns cur :=
  ⟨h.blk, h.at', fun i n hi => (h.store i n hi).vg, fun i n hi => (h.wait i n hi).vg⟩
/-- A row of versions in block G, the causes of each in other blocks. -/
structure LRow (w : World) (G : Nat) (us : List V) (cur : Array Value) : Prop where
  blk : Blk w G 96 cur
  size : us.length * 6 ≤ cur.size
  at' : ∀ (i : Nat) v, us[i]? = some v → VerAt cur i v
  tg : ∀ (i : Nat) v, us[i]? = some v → Tg w w.heap.size v.a v.ts
  off : ∀ (i : Nat) v, us[i]? = some v → v.ts = [] ∨ ∀ p, v.a = some p → p.block ≠ G
theorem ORow.lrow {w : World} {B U G : Nat} {us : List V} {cur : Array Value} (h : ORow w B U G us cur) : LRow w G us cur :=
  ⟨h.blk, h.size, h.at', fun i v hi => (h.own i v hi).tg, fun i v hi => by
    rcases h.own i v hi with q | ⟨g, _, e, _⟩
    · exact .inl q
    · by_cases h0 : v.ts = []
      · exact .inl h0
      · refine .inr fun p hp => ?_
        rw [e] at hp
        injection hp with hp
        subst hp
        exact h.apartG hi h0 e⟩
theorem LRow.on {w w' : World} {G : Nat} {us : List V} {cur : Array Value} (h : LRow w G us cur) (hb : Below w.heap.size w w') : LRow w' G us cur :=
  ⟨h.blk.on hb, h.size, h.at', fun i v hi => ((h.tg i v hi).on hb).up hb.size, h.off⟩
theorem LRow.vg {w : World} {G : Nat} {us : List V} {cur : Array Value} (h : LRow w G us cur) : Vg w w.heap.size (some ⟨G, 0, none⟩) us :=
  .inr ⟨G, 0, rfl, h.blk.inside, fun i v hi => by
    obtain ⟨h0, h1, h2, h3, h4, h5⟩ := h.at' i v hi
    refine ⟨⟨?_, ?_, ?_, ?_, ?_, ?_⟩, h.tg i v hi⟩
    all_goals
      rw [Nat.zero_add, h.blk.at]
      assumption⟩
theorem tg_turned {w w' : World} {G : Nat} {a : Option Addr} {ts : List (Int × Int)} (h : Tg w w.heap.size a ts) (ho : ts = [] ∨ ∀ p, a = some p → p.block ≠ G) (ht : Turn (fun g => g = G) w w') : Tg w' w'.heap.size a ts := by
  rcases h with h | ⟨b, off, rfl, hb, hx⟩
  · exact .inl h
  · rcases ho with h | ho
    · exact .inl h
    · have hc : ∀ i, w'.cell? ⟨b, i, none⟩ = w.cell? ⟨b, i, none⟩ := fun i => World.cell?_of_block (w := w) (ht.block b hb (ho _ rfl))
      exact .inr ⟨b, off, rfl, Nat.lt_of_lt_of_le hb ht.size, fun i x hi => ⟨(hc _).trans (hx i x hi).1, (hc _).trans (hx i x hi).2⟩⟩
/-- One version of a row put in the place of another. -/
theorem LRow.put {w : World} {G j : Nat} {us : List V} {cur : Array Value} {v : V} (h : LRow w G us cur) (hj : j < us.length) (hv : Tg w w.heap.size v.a v.ts) (ho : v.ts = [] ∨ ∀ p, v.a = some p → p.block ≠ G) :
    LRow ((((((w.setCell ⟨G, j * 6, none⟩ (.int .i64 v.k)).setCell ⟨G, j * 6 + 1, none⟩ (.int .i64 v.t)).setCell ⟨G, j * 6 + 2, none⟩ (.int .i64 v.u)).setCell ⟨G, j * 6 + 3, none⟩ (.slice v.a v.ts.length v.c)).setCell ⟨G, j * 6 + 4, none⟩ (.string v.s)).setCell ⟨G, j * 6 + 5, none⟩ (.bool v.g)) G (us.set j v) (put6 cur j v) := by
  have ht : Turn (fun g => g = G) w ((((((w.setCell ⟨G, j * 6, none⟩ (.int .i64 v.k)).setCell ⟨G, j * 6 + 1, none⟩ (.int .i64 v.t)).setCell ⟨G, j * 6 + 2, none⟩ (.int .i64 v.u)).setCell ⟨G, j * 6 + 3, none⟩ (.slice v.a v.ts.length v.c)).setCell ⟨G, j * 6 + 4, none⟩ (.string v.s)).setCell ⟨G, j * 6 + 5, none⟩ (.bool v.g)) :=
    ((((((Turn.refl (fun g => g = G) w).set (p := ⟨G, j * 6, none⟩) rfl _).set (p := ⟨G, j * 6 + 1, none⟩) rfl _).set (p := ⟨G, j * 6 + 2, none⟩) rfl _).set (p := ⟨G, j * 6 + 3, none⟩) rfl _).set (p := ⟨G, j * 6 + 4, none⟩) rfl _).set (p := ⟨G, j * 6 + 5, none⟩) rfl _
  have hs : j * 6 + 5 < cur.size := by have := h.size; omega
  have hget : ∀ (i : Nat) x, (us.set j v)[i]? = some x → (i = j ∧ x = v) ∨ (i ≠ j ∧ us[i]? = some x) := by
    intro i x hx
    by_cases e : i = j
    · subst e
      rw [List.getElem?_set_self hj] at hx
      injection hx with hx
      exact .inl ⟨rfl, hx.symm⟩
    · rw [List.getElem?_set_ne (fun e' => e e'.symm)] at hx
      exact .inr ⟨e, hx⟩
  refine ⟨(((((h.blk.put _ _).put _ _).put _ _).put _ _).put _ _).put _ _, by simpa using h.size, fun i x hx => ?_, fun i x hx => ?_, fun i x hx => ?_⟩
  · rcases hget i x hx with ⟨rfl, rfl⟩ | ⟨e, hq⟩
    · exact verAt_put hs
    · exact verAt_other e (h.at' i x hq)
  · rcases hget i x hx with ⟨rfl, rfl⟩ | ⟨e, hq⟩
    · exact tg_turned hv ho ht
    · exact tg_turned (h.tg i x hq) (h.off i x hq) ht
  · rcases hget i x hx with ⟨rfl, rfl⟩ | ⟨e, hq⟩
    · exact ho
    · exact h.off i x hq
theorem Tg.off {w : World} {B G : Nat} {a : Option Addr} {ts : List (Int × Int)} (h : Tg w B a ts) (hG : B ≤ G) : ts = [] ∨ ∀ p, a = some p → p.block ≠ G := by
  rcases h with h | ⟨b, off, rfl, hb, _⟩
  · exact .inl h
  · refine .inr fun p hp => ?_
    injection hp with hp
    subst hp
    show b ≠ G
    omega
theorem linkB_copy_none {n m : Nd} {us : List V} {k : Nat} (hl : LL us m.ss) (h : walkL us (n.ws.take k) = none) : linkB n m = false := by
  unfold linkB
  rcases walkL_like (ws := n.ws) (ws' := n.ws) (us := us) (us' := m.ss) (ll_refl _) hl with ⟨_, q2⟩ | ⟨x, x', q1, _, _⟩
  · rw [q2]
  · rw [walkL_none h] at q1
    cases q1
theorem linkB_copy_some {n m : Nd} {us us' : List V} (hl : LL us m.ss) (h : walkL us n.ws = some us') : linkB n m = likesB us' n.ss := by
  unfold linkB
  rcases walkL_like (ws := n.ws) (ws' := n.ws) (us := us) (us' := m.ss) (ll_refl _) hl with ⟨q1, _⟩ | ⟨x, x', q1, q2, q3⟩
  · rw [h] at q1
    cases q1
  · rw [h] at q1
    injection q1 with q1
    subst q1
    rw [q2]
    exact (likesB_like q3 (ll_refl _)).symm
theorem stepL_yes {us : List V} {v x : V} {kn : Nat} (hk : v.k = (kn : Int)) (hx : us[kn]? = some x) (h : lessB x.t x.u v.t v.u = true) : stepL us v = some (us.set kn v) := by
  have e : v.k.toNat = kn := by rw [hk]; simp
  unfold stepL
  rw [e, hx]
  simp [h]
theorem stepL_no {us : List V} {v x : V} {kn : Nat} (hk : v.k = (kn : Int)) (hx : us[kn]? = some x) (h : lessB x.t x.u v.t v.u = false) : stepL us v = none := by
  have e : v.k.toNat = kn := by rw [hk]; simp
  unfold stepL
  rw [e, hx]
  simp [h]
theorem below_put6 {w w' : World} {n g j : Nat} (h : Below n w w') (hg : n ≤ g) (a b c d e f : Value) :
    Below n w ((((((w'.setCell ⟨g, j * 6, none⟩ a).setCell ⟨g, j * 6 + 1, none⟩ b).setCell ⟨g, j * 6 + 2, none⟩ c).setCell ⟨g, j * 6 + 3, none⟩ d).setCell ⟨g, j * 6 + 4, none⟩ e).setCell ⟨g, j * 6 + 5, none⟩ f) :=
  (((((h.setCell hg a).setCell hg b).setCell hg c).setCell hg d).setCell hg e).setCell hg f
theorem small_ll {us vs : List V} (h : LL us vs) (hs : Small vs) : Small us := fun v hv => by
  obtain ⟨i, hi⟩ := List.getElem?_of_mem hv
  obtain ⟨x, hx, hl⟩ := ll_at h hi
  rw [hl.2.2.2.1, hl.2.2.2.2.1]
  exact hs x (List.mem_of_getElem? hx)
theorem small_set {us : List V} {v : V} {j : Nat} (h : Small us) (hv : v.ts.length ≤ 1048576 ∧ v.s.size ≤ 9223372036854775807) : Small (us.set j v) := fun x hx => by
  rcases List.mem_or_eq_of_mem_set hx with hx | rfl
  · exact h x hx
  · exact hv
set_option maxRecDepth 100000 in
set_option maxHeartbeats 4000000 in
theorem linkOk_any (B L G c k : Nat) (ns : List Nd) (cur : Array Value) (w : World) (hC : Cg w G ns cur) (hL : LinkAt w B L (some ⟨G, 0, none⟩) G ns.length c k) (hk : k < ns.length) (hn : ns.length ≤ 4)
    (hok : ∀ (i : Nat) n, ns[i]? = some n → nodeB n = true) (hm : ∀ (i : Nat) n, ns[i]? = some n → Small n.ss ∧ Small n.ws) :
    Calls Tryz.prog 103 #[.pointer (some ⟨L, 0, none⟩)] w fun e w' => e = .returned (.bool (stepB ns k)) ∧ Below w.heap.size w w' := by
  obtain ⟨nd, hnd⟩ : ∃ nd, ns[k]? = some nd := ⟨_, List.getElem?_eq_getElem hk⟩
  obtain ⟨b1, b2, -, -, -, hL1, hL2, hL3⟩ := hL
  have q0 := hL1.two.1
  have q1 : w.cell? ⟨L, 1, none⟩ = some (.func (.func 104) #[] #[.pointer (some ⟨b1, 0, none⟩), .pointer (some ⟨b2, 0, none⟩)]) := hL1.at 1
  have CT := next_any G ns.length c k b1 b2 w (by omega) (by omega) hL2 hL3
  have HCT := hide CT
  have HL1 := hide hL1
  have HC := hide hC
  have HOK := hide hok
  have HM := hide hm
  have HND := hide hnd
  clear CT hL1 hL2 hL3 hC hok hm hnd
  go_enter Tryz.func103, Tryz.ntmps103
  go_wp2_with fail
  with_reducible refine HCT.out.mono ?_
  rintro e w1 ⟨hE, hb1⟩
  have HE := hide hE
  have HB1 := hide hb1
  clear hE hb1 HCT q0 q1
  have p0 : w1.cell? ⟨L, 0, none⟩ = some (.pointer (some ⟨G, k * 2, none⟩)) := (HL1.out.on HB1.out).two.1
  have HC1 := hide (HC.out.on HB1.out)
  have n0 : w1.cell? ⟨G, k * 2, none⟩ = some (.slice nd.sa nd.ss.length nd.sc) := (HC1.out.blk.at _).trans (HC1.out.at' k nd HND.out).1
  have n1 : w1.cell? ⟨G, k * 2 + 1, none⟩ = some (.slice nd.wa nd.ws.length nd.wc) := (HC1.out.blk.at _).trans (HC1.out.at' k nd HND.out).2
  by_cases hlt : k + 1 < ns.length
  · have hq := HE.out
    rw [if_pos hlt] at hq
    obtain ⟨L', rfl, hL'⟩ := hq
    obtain ⟨md, hmd⟩ : ∃ md, ns[k + 1]? = some md := ⟨_, List.getElem?_eq_getElem hlt⟩
    have HMD := hide hmd
    have r0 : w1.cell? ⟨L', 0, none⟩ = some (.pointer (some ⟨G, (k + 1) * 2, none⟩)) := by
      obtain ⟨_, _, _, _, _, h, _⟩ := hL'
      exact h.two.1
    have m0 : w1.cell? ⟨G, (k + 1) * 2, none⟩ = some (.slice md.sa md.ss.length md.sc) := (HC1.out.blk.at _).trans (HC1.out.at' (k + 1) md hmd).1
    clear hL' hmd hlt
    go_wp2_with fail
    have M4 := storeB_four (nodeB_parts (HOK.out (k + 1) md HMD.out)).1
    have MS : ∀ v ∈ md.ss, v.ts.length ≤ 1048576 := fun v hv => ((HM.out (k + 1) md HMD.out).1 v hv).1
    have MV := HC1.out.store (k + 1) md HMD.out
    with_reducible refine (copyVers_any md.sa md.sc md.ss w1 (by omega) MS MV).mono ?_
    rintro e w2 ⟨x, us, rfl, hul, hli, hcr, hb2⟩
    have HLL : Hid (LL us md.ss) := ⟨hul, hli⟩
    have HU4 : Hid (us.length = 4) := hul.trans M4
    have HSU : Hid (Small us) := small_ll HLL.out (HM.out (k + 1) md HMD.out).1
    obtain ⟨H, cap, cu, rfl, hO⟩ : ∃ H cap cu, x = .slice (some ⟨H, 0, none⟩) 4 cap ∧ ORow w2 w1.heap.size w2.heap.size H us cu := by
      rcases hcr.res with ⟨h0, _⟩ | ⟨H, cap, cu, rfl, hO⟩
      · rw [h0] at hul; simp at hul; omega
      · exact ⟨H, cap, cu, by rw [hul, M4], hO⟩
    have hH : w.heap.size ≤ H := by have := hO.lo; have := HB1.out.size; omega
    have HO := hide hO.lrow
    have hL2 := HB1.out.trans (hb2.mono HB1.out.size)
    clear hul hli hcr hb2 M4 MS MV hO p0 n0 n1 r0 m0 HE
    have HNW := hide (HM.out k nd HND.out).2
    have HNO := hide (nodeB_parts (HOK.out k nd HND.out)).2
    have HVG := hide (HC.out.wait k nd HND.out)
    have HSG := hide (HC.out.store k nd HND.out)
    have HNS := hide (HM.out k nd HND.out).1
    have HN4 := hide (storeB_four (nodeB_parts (HOK.out k nd HND.out)).1)
    have C0 : ∀ wr, Below w.heap.size w wr → wr.cell? ⟨L, 0, none⟩ = some (.pointer (some ⟨G, k * 2, none⟩)) := fun wr hb => (HL1.out.on hb).two.1
    have C1 : ∀ wr, Below w.heap.size w wr → wr.cell? ⟨G, k * 2, none⟩ = some (.slice nd.sa nd.ss.length nd.sc) := fun wr hb => ((HC.out.on hb).blk.at _).trans (HC.out.at' k nd HND.out).1
    have C2 : ∀ wr, Below w.heap.size w wr → wr.cell? ⟨G, k * 2 + 1, none⟩ = some (.slice nd.wa nd.ws.length nd.wc) := fun wr hb => ((HC.out.on hb).blk.at _).trans (HC.out.at' k nd HND.out).2
    have HC0 := hide C0
    have HC1' := hide C1
    have HC2 := hide C2
    clear C0 C1 C2
    have p0 := HC0.out w2 hL2
    have n1 := HC2.out w2 hL2
    have HFN : Hid (∀ j, walkL us (nd.ws.take j) = none → stepB ns k = false) := fun j h => by
      unfold stepB
      rw [HND.out, HMD.out]
      exact linkB_copy_none HLL.out h
    have HFS : Hid (∀ us', walkL us nd.ws = some us' → stepB ns k = likesB us' nd.ss) := fun us' h => by
      unfold stepB
      rw [HND.out, HMD.out]
      exact linkB_copy_some HLL.out h
    clear HL1 HC HOK HM HND HC1 HMD HLL hk
    obtain ⟨sa, sc, ss, wa, wc, ws⟩ := nd
    simp only at HNW HNO HVG HSG HNS HN4 HC1' HC2 HFN HFS p0 n1
    generalize hnw : ws.length = nw at *
    have HW := hide hnw
    clear hnw
    have hn6 : nw ≤ 6 := HNO.out.1
    go_wp2
    go_loopw [40] (fun i wr => ∃ (j : Nat) (us' : List V) (cu' : Array Value), j ≤ nw ∧ i = .int .i64 (j : Int) ∧ Hid (walkL us (ws.take j) = some us') ∧ Hid (us'.length = 4) ∧ Hid (Small us') ∧ Hid (LRow wr H us' cu') ∧ Below w.heap.size w wr) (fun i _ => nw - (intOf i).toNat)
    case atStart => exact ⟨0, us, cu, Nat.zero_le _, rfl, rfl, HU4.out, HSU.out, HO.out, hL2⟩
    case round =>
      obtain ⟨j, us', cu', hj, rfl, HWK, HU4', HSM, HLR, hL⟩ := hrel
      by_cases hlt : j < nw
      · rcases HVG.out with h0 | ⟨b, off, rfl, hb, hx⟩
        · have := HW.out; subst h0; simp at this; omega
        · have hjl : j < ws.length := by have := HW.out; omega
          obtain ⟨hS, hT⟩ := hx j _ (List.getElem?_eq_getElem hjl)
          have HV := hide (List.getElem?_eq_getElem hjl)
          generalize ws[j] = v at hS hT HV
          obtain ⟨kn, hkn, hk4⟩ : ∃ kn : Nat, v.k = (kn : Int) ∧ kn < 4 := by
            have := verV_key (HNO.out.2 v (List.mem_of_getElem? HV.out))
            exact ⟨v.k.toNat, by omega, by omega⟩
          obtain ⟨y, hy⟩ : ∃ y, us'[kn]? = some y := ⟨_, List.getElem?_eq_getElem (by have := HU4'.out; omega)⟩
          have HY := hide hy
          have HSV := hide (HNW.out v (List.mem_of_getElem? HV.out))
          obtain ⟨vk, vt, vu, va, vc, vts, vs, vg⟩ := v
          simp only at hkn hS hT
          subst hkn
          have Q1 := (hS.keep hb fun _ hp => hL.cell hp)
          have HT := hide hT
          have S0 := (Inv.start wr).box 96 (verC (kn : Int) vt vu va vts.length vc vs vg)
          simp only [World.size_alloc] at S0
          have HR0 := hide (HLR.out.on S0.below)
          obtain ⟨g0, g1, g2, g3, g4, g5⟩ := HR0.out.at' kn y hy
          have C1 := hide ((HR0.out.blk.at (kn * 6 + 1)).trans g1)
          have C2 := hide ((HR0.out.blk.at (kn * 6 + 2)).trans g2)
          clear hS hT hx hy g0 g1 g2 g3 g4 g5
          have i1 : (0 : Int) ≤ (j : Int) := by omega
          have i2 : (j : Int) < (nw : Int) := by omega
          have i3 : (0 : Int) ≤ (kn : Int) := by omega
          have i4 : (kn : Int) < 4 := by omega
          go_wp2_with fail
          generalize wr.alloc (.cells (verC (kn : Int) vt vu va vts.length vc vs vg) 96) = W0 at S0 HR0 C1 C2 ⊢
          refine wp_region_noPanic ?_
          refine wp_region_held_drew (S := (fun w' => (w'.cell? ⟨H, kn * 6 + 1, none⟩ = some (.int .i64 y.t) ∧ w'.cell? ⟨H, kn * 6 + 2, none⟩ = some (.int .i64 y.u)) ∧ (w'.cell? ⟨wr.heap.size, 0, none⟩ = some (.int .i64 (kn : Int)) ∧ w'.cell? ⟨wr.heap.size, 1, none⟩ = some (.int .i64 vt) ∧ w'.cell? ⟨wr.heap.size, 2, none⟩ = some (.int .i64 vu)) ∧ Inv wr (wr.heap.size + 1) [(wr.heap.size, 96, (verC (kn : Int) vt vu va vts.length vc vs vg))] w')) (by kernel_rfl) (by exact ⟨⟨C1.out, C2.out⟩, ⟨(S0.drew.nth 0 rfl).at 0, (S0.drew.nth 0 rfl).at 1, (S0.drew.nth 0 rfl).at 2⟩, S0.drew⟩) (fun hHeld => ?_)
          refine mvR 0 (some 44) hHeld ?_
          refine mvR 1 (some 45) hHeld ?_
          refine mvR 2 (some 46) hHeld ?_
          refine mvR 3 (some 47) hHeld ?_
          refine mvR 4 (some 48) hHeld ?_
          refine mvR 5 (some 49) hHeld ?_
          refine mvR 6 (some 50) hHeld ?_
          refine mvR 7 (some 51) hHeld ?_
          refine take_one 8 (by kernel_rfl) rfl (fun K hK => ?_)
          go_simp
          ((with_reducible refine (less_any y.t y.u vt vu _).mono ?_); rintro e w3 ⟨rfl, hb3⟩; have HR1 := hide (HLR.out.on (hHeld.2.2.on hb3).below); have tc := HR1.out.at' kn y HY.out)
          try go_wp2_with fail
          refine hK.out _ _ (by exact ⟨⟨(HR1.out.blk.at (kn * 6 + 1)).trans tc.2.1, (HR1.out.blk.at (kn * 6 + 2)).trans tc.2.2.1⟩, ⟨((hHeld.2.2.on hb3).nth 0 rfl).at 0, ((hHeld.2.2.on hb3).nth 0 rfl).at 1, ((hHeld.2.2.on hb3).nth 0 rfl).at 2⟩, hHeld.2.2.on hb3⟩) (fun hHeld => ?_)
          clear hK K
          refine mvR 9 (some 53) hHeld ?_
          refine wpAnyH_done (by kernel_rfl) ?_ _
          refine NoPanic.normal ?_
          have S1 := hHeld.2.2
          clear hHeld S0 HR0 C1 C2 Q1 i1 i2
          cases hless : lessB y.t y.u vt vu
          · have HF := hide (HFN.out (j + 1) (by rw [walkL_step HV.out, HWK.out]; exact stepL_no rfl HY.out hless))
            clear hless tc
            go_wp2
            go_ret
            exact ⟨ret_bool HF.out.symm, hL.trans (S1.below.mono hL.size)⟩
          · have HWK1 : Hid (walkL us (ws.take (j + 1)) = some (us'.set kn ⟨(kn : Int), vt, vu, va, vc, vts, vs, vg⟩)) := by unfold Hid; rw [walkL_step HV.out, HWK.out]; exact stepL_yes rfl HY.out hless
            clear hless
            obtain ⟨e0, e1, e2, e3, e4, e5⟩ := tc
            have d0 := (HR1.out.blk.at (kn * 6)).trans e0
            have d1 := (HR1.out.blk.at (kn * 6 + 1)).trans e1
            have d2 := (HR1.out.blk.at (kn * 6 + 2)).trans e2
            have d3 := (HR1.out.blk.at (kn * 6 + 3)).trans e3
            have d4 := (HR1.out.blk.at (kn * 6 + 4)).trans e4
            have d5 := (HR1.out.blk.at (kn * 6 + 5)).trans e5
            have f0 := HR1.out.blk.loose (kn * 6)
            have f1 := HR1.out.blk.loose (kn * 6 + 1)
            have f2 := HR1.out.blk.loose (kn * 6 + 2)
            have f3 := HR1.out.blk.loose (kn * 6 + 3)
            have f4 := HR1.out.blk.loose (kn * 6 + 4)
            have f5 := HR1.out.blk.loose (kn * 6 + 5)
            have x0 := (S1.nth 0 rfl).six.1
            have hLs := hL.trans (S1.below.mono hL.size)
            have HP := hide (HR1.out.put (j := kn) (v := ⟨(kn : Int), vt, vu, va, vc, vts, vs, vg⟩) (by have := HU4'.out; omega) ((HT.out.on hLs).up hLs.size) (HT.out.off hH))
            have HBL := hide (below_put6 (j := kn) hLs (g := H) hH)
            clear e0 e1 e2 e3 e4 e5
            go_wp2
            exact ⟨⟨j + 1, _, _, by omega, by go_num, HWK1, by unfold Hid; rw [List.length_set]; exact HU4'.out, small_set HSM.out HSV.out, HP.out, HBL.out _ _ _ _ _ _⟩, by simp [intOf]; omega⟩
      · have hjn : j = nw := by omega
        subst hjn
        clear hlt
        have hF : Hid (stepB ns k = likesB us' ss) := HFS.out us' (by have := HWK.out; rw [← HW.out, List.take_length] at this; exact this)
        have p0 := HC0.out wr hL
        have n0 := HC1'.out wr hL
        have HV1 := hide (equalFunc_any (some ⟨H, 0, none⟩) sa cap sc us' ss wr (by have := HU4'.out; omega) HSM.out HNS.out HLR.out.vg ((HSG.out.on hL).up hL.size))
        rw [HU4'.out] at HV1
        go_wp2_with fail
        with_reducible refine HV1.out.mono ?_
        rintro e w3 ⟨rfl, hb3⟩
        generalize likesB us' ss = x at hF ⊢
        go_wp2
        go_ret
        exact ⟨ret_bool hF.out.symm, hL.trans (hb3.mono hL.size)⟩
  · have hq := HE.out
    rw [if_neg hlt] at hq
    subst hq
    have HF : Hid (stepB ns k = decide (nd.ws.length = 0)) := by
      unfold Hid stepB
      rw [HND.out, List.getElem?_eq_none_iff.2 (by omega : ns.length ≤ k + 1)]
    have HG : Hid (decide (nd.ws.length = 0) = ((nd.ws.length : Int) == 0)) := by
      unfold Hid
      rw [Bool.eq_iff_iff]
      simp
    go_wp2
    go_ret
    exact ⟨ret_bool (by rw [HF.out, HG.out]), HB1.out⟩
end Go.Proofs.YtnaggcdhimcilaaGreat
/- Contract of whether a chain is valid, in the program. Condition: sizes that memory holds. -/
namespace Go.Proofs.YtnaggcdhimcilaaGreat
open Go.RowKit Go.Joins
attribute [local go_sem ↓] Go.wp_at_zero Go.wp_at_succ

/-- A chain's nodes as they lie in memory: none, or from the beginning of a block. -/
def CgA (w : World) (A : Option Addr) (ns : List Nd) : Prop := ns = [] ∨ ∃ G cur, A = some ⟨G, 0, none⟩ ∧ Cg w G ns cur
theorem CgA.on {w w' : World} {A : Option Addr} {ns : List Nd} (h : CgA w A ns) (hb : Below w.heap.size w w') : CgA w' A ns := by
  rcases h with h | ⟨G, cur, h1, h2⟩
  · exact .inl h
  · exact .inr ⟨G, cur, h1, h2.on hb⟩
theorem ResN.cg {w : World} {B U : Nat} {A : Option Addr} {ns : List Nd} (h : ResN w B U A ns) : CgA w A ns := by
  rcases h with h | ⟨G, cur, h1, h2⟩
  · exact .inl h
  · exact .inr ⟨G, cur, h1, h2.cg⟩
/-- Sizes that memory holds. -/
def SmN (ns : List Nd) : Prop := ∀ (i : Nat) n, ns[i]? = some n → (n.ss.length ≤ 1048576 ∧ n.ws.length ≤ 1048576) ∧ Small n.ss ∧ Small n.ws
theorem smN_like {ns us : List Nd} (h : NL ns us) (hs : SmN us) : SmN ns := fun i n hi => by
  obtain ⟨m, hm, hl⟩ := nl_at h hi
  obtain ⟨⟨h1, h2⟩, h3, h4⟩ := hs i m hm
  exact ⟨⟨by rw [hl.1]; exact h1, by rw [hl.2.2.1]; exact h2⟩, small_ll ⟨hl.1, hl.2.1⟩ h3, small_ll ⟨hl.2.2.1, hl.2.2.2⟩ h4⟩
/-- How far a link is from the end. -/
def linkFar (x : Value) (w : World) : Nat := match x with | .pointer (some p) => (match w.cell? ⟨p.block, 0, none⟩ with | some (.pointer (some q)) => 100 - q.off | _ => 0) | _ => 0
theorem linkFar_at {w : World} {B L G n c k : Nat} {A : Option Addr} (h : LinkAt w B L A G n c k) : linkFar (.pointer (some ⟨L, 0, none⟩)) w = 100 - k * 2 := by
  obtain ⟨b1, b2, _, _, _, h4, _, _⟩ := h
  have := h4.two.1
  unfold linkFar
  simp only
  rw [this]
set_option maxRecDepth 100000 in
set_option maxHeartbeats 4000000 in
theorem implChainOk_any (A : Option Addr) (c : Nat) (ns : List Nd) (w : World) (hn : ns.length ≤ 1048576) (hm : SmN ns) (hC : CgA w A ns) :
    Calls Tryz.prog 65 #[.agg #[.slice A ns.length c]] w fun e w' => e = .returned (.bool (chainB ns)) ∧ Below w.heap.size w w' := by
  have S0 := (Inv.start w).box 32 #[.slice A ns.length c]
  simp only [World.size_alloc] at S0
  by_cases hlen : 1 ≤ ns.length ∧ ns.length ≤ 4
  · obtain ⟨hl1, hl4⟩ := hlen
    rcases hC with h0 | ⟨G, cur, rfl, hC⟩
    · rw [h0] at hl1; simp at hl1
    have HC := hide hC
    have HM := hide hm
    clear hC hm
    have HF : Hid (∀ (i : Nat) n, ns[i]? = some n → nodeB n = false → chainB ns = false) := fun i n hi h => chainB_node hi h
    have HS : Hid (∀ i, i < ns.length → stepB ns i = false → chainB ns = false) := fun i hi h => chainB_step hi h
    have HO : Hid ((∀ (i : Nat) n, ns[i]? = some n → nodeB n = true) → (∀ i, i < ns.length → stepB ns i = true) → chainB ns = true) := chainB_ok ⟨hl1, hl4⟩
    generalize hnn : ns.length = n at *
    have HN := hide hnn
    clear hnn
    have z1 : ¬ ((n : Int) < 1) := by omega
    have z2 : ¬ ((n : Int) > 4) := by omega
    have c0 := (S0.nth 0 rfl).one.1
    go_enter Tryz.func65, Tryz.ntmps65
    go_wp2
    generalize w.alloc (.cells #[.slice (some ⟨G, 0, none⟩) n c] 32) = W0 at S0 ⊢
    go_loopw [19] (fun i wr => ∃ k : Nat, k ≤ n ∧ i = .int .i64 (k : Int) ∧ Hid (∀ (j : Nat) y, j < k → ns[j]? = some y → nodeB y = true) ∧ Inv w (w.heap.size + 1) [(w.heap.size, 32, #[.slice (some ⟨G, 0, none⟩) n c])] wr) (fun i _ => n - (intOf i).toNat)
    case atStart => exact ⟨0, Nat.zero_le _, rfl, fun j x hj => absurd hj (by omega), S0⟩
    case round =>
      obtain ⟨k, hk, rfl, HNO, SL⟩ := hrel
      by_cases hlt : k < n
      · have hkl : k < ns.length := by have := HN.out; omega
        have HX := hide (List.getElem?_eq_getElem hkl)
        generalize ns[k] = nd at HX
        have HCr := HC.out.on SL.below
        have n0 : wr.cell? ⟨G, k * 2, none⟩ = some (.slice nd.sa nd.ss.length nd.sc) := (HCr.blk.at _).trans (HCr.at' k nd HX.out).1
        have n1 : wr.cell? ⟨G, k * 2 + 1, none⟩ = some (.slice nd.wa nd.ws.length nd.wc) := (HCr.blk.at _).trans (HCr.at' k nd HX.out).2
        have HV := hide (HCr.store k nd HX.out)
        have HW := hide (HCr.wait k nd HX.out)
        have HMM := hide (HM.out k nd HX.out)
        obtain ⟨sa, sc, ss, wa, wc, ws⟩ := nd
        simp only at n0 n1 HV HW HMM
        have S1 := SL.top.box 90 #[.slice sa ss.length sc, .slice wa ws.length wc]
        have B1 := hide (below_alloc1 wr (.cells #[.slice sa ss.length sc, .slice wa ws.length wc] 90))
        have i1 : (0 : Int) ≤ (k : Int) := by omega
        have i2 : (k : Int) < (n : Int) := by omega
        clear HCr
        go_wp2_with fail
        generalize wr.alloc (.cells #[.slice sa ss.length sc, .slice wa ws.length wc] 90) = W1 at S1 B1 ⊢
        have CT := nodeOk_any sa sc ss wa wc ws W1 HMM.out.1.1 HMM.out.1.2 HMM.out.2.1 HMM.out.2.2 ((HV.out.on B1.out).up B1.out.size) ((HW.out.on B1.out).up B1.out.size)
        with_reducible refine CT.mono ?_
        rintro e w1 ⟨rfl, hb1⟩
        have S2 := S1.on hb1
        clear S1 CT n0 n1
        cases hq : nodeB ⟨sa, sc, ss, wa, wc, ws⟩
        · have HFF := hide (HF.out k _ HX.out hq)
          clear hq
          go_wp2
          go_ret
          exact ⟨ret_bool HFF.out.symm, S2.below⟩
        · have HNO1 : Hid (∀ (j : Nat) y, j < k + 1 → ns[j]? = some y → nodeB y = true) := fun j y hj hy => by
            by_cases e : j = k
            · subst e
              have h1 := HX.out
              rw [h1] at hy
              injection hy with hy
              rw [← hy]
              exact hq
            · exact HNO.out j y (by omega) hy
          have S3 := hide (S2.sub (bs' := [(w.heap.size, 32, #[.slice (some ⟨G, 0, none⟩) n c])]) (by simp))
          have zz := SL.room
          clear hq
          go_wp2
          exact ⟨⟨k + 1, by omega, by go_num, HNO1, ⟨S3.out.below, by have := S3.out.room; have := hb1.size; have := B1.out.size; omega, fun x hx => ⟨(S3.out.blk x hx).1, by simp at hx; subst hx; simp, (S3.out.blk x hx).2.2⟩⟩⟩, by simp [intOf]; omega⟩
      · have hkn : k = n := by omega
        subst hkn
        clear hlt hk
        have HOK : Hid (∀ (i : Nat) y, ns[i]? = some y → nodeB y = true) := fun i y hy => HNO.out i y (by have := (List.getElem?_eq_some_iff.1 hy).1; have := HN.out; omega) hy
        have c1 := (SL.nth 0 rfl).one.1
        go_wp2_with fail
        have CT := linkAt_any G k c 0 wr (by omega) (by omega)
        change Calls _ _ #[_, .int .i64 0] _ _ at CT
        have CT := hide CT
        with_reducible refine CT.out.mono ?_
        rintro e w1 ⟨hE, hb1⟩
        have SL1 := SL.on hb1
        have hq := hE
        rw [if_pos (show 0 < k by omega)] at hq
        obtain ⟨L0, rfl, hL0⟩ := hq
        have HL0 := hide (hL0.low SL.base)
        clear hE hL0 CT c1
        go_wp2
        go_loopw [5] (fun x wr => ∃ j : Nat, Hid (∀ i, i < j → stepB ns i = true) ∧ ((j < k ∧ ∃ L, x = .pointer (some ⟨L, 0, none⟩) ∧ Hid (LinkAt wr w.heap.size L (some ⟨G, 0, none⟩) G k c j)) ∨ (j = k ∧ x = .pointer none)) ∧ Below w.heap.size w wr) (fun x wr => linkFar x wr)
        case atStart => exact ⟨0, fun i hi => absurd hi (by omega), .inl ⟨by omega, L0, rfl, HL0.out⟩, SL1.below⟩
        case round =>
          obtain ⟨j, HST, hx, hL⟩ := hrel
          rcases hx with ⟨hjk, L, rfl, HLA⟩ | ⟨rfl, rfl⟩
          · have CT := linkOk_any w.heap.size L G c j ns cur wr (HC.out.on hL) (by rw [HN.out]; exact HLA.out) (by rw [HN.out]; exact hjk) (by rw [HN.out]; exact hl4) HOK.out (fun i n hi => (HM.out i n hi).2)
            have HCT := hide CT
            clear CT
            go_wp2_with fail
            with_reducible refine HCT.out.mono ?_
            rintro e w2 ⟨rfl, hb2⟩
            have HLA2 := hide (HLA.out.on hb2)
            have hL2 := hL.trans (hb2.mono hL.size)
            have HFAR := hide (linkFar_at HLA.out)
            clear HCT
            cases hq : stepB ns j
            · have HFF := hide (HS.out j hjk hq)
              clear hq
              go_wp2
              go_ret
              exact ⟨ret_bool HFF.out.symm, hL2⟩
            · have HST1 : Hid (∀ i, i < j + 1 → stepB ns i = true) := fun i hi => by
                by_cases e : i = j
                · rw [e]; exact hq
                · exact HST.out i (by omega)
              clear hq
              obtain ⟨b1, b2, q1, q2, q3, hB1, hB2, hB3⟩ := HLA2.out
              have q1 : w2.cell? ⟨L, 1, none⟩ = some (.func (.func 104) #[] #[.pointer (some ⟨b1, 0, none⟩), .pointer (some ⟨b2, 0, none⟩)]) := hB1.at 1
              have CT := hide (next_any G k c j b1 b2 w2 (by omega) (by omega) hB2 hB3)
              clear hB1 hB2 hB3
              go_wp2_with fail
              with_reducible refine CT.out.mono ?_
              rintro e w3 ⟨hE, hb3⟩
              have hL3 := hL2.trans (hb3.mono hL2.size)
              clear CT q1
              by_cases hlt : j + 1 < k
              · have hq := hE
                rw [if_pos hlt] at hq
                obtain ⟨L1, rfl, hL1⟩ := hq
                have HL1 := hide (hL1.low hL2.size)
                have HFAR1 := hide (linkFar_at hL1)
                clear hE hL1
                go_wp2
                exact ⟨⟨j + 1, HST1, .inl ⟨hlt, L1, rfl, HL1.out⟩, hL3⟩, by rw [HFAR.out, HFAR1.out]; omega⟩
              · have hq := hE
                rw [if_neg hlt] at hq
                subst hq
                clear hE
                go_wp2
                exact ⟨⟨j + 1, HST1, .inr ⟨by omega, rfl⟩, hL3⟩, by rw [HFAR.out]; simp [linkFar]; omega⟩
          · have HFF := hide (HO.out HOK.out (fun i hi => HST.out i hi))
            go_wp2
            go_ret
            exact ⟨ret_bool HFF.out.symm, hL⟩
  · have HF := hide (chainB_len hlen)
    have c0 := (S0.nth 0 rfl).one.1
    clear hC hm
    by_cases h1 : ns.length < 1
    · have z1 : ((ns.length : Int) < 1) := by omega
      go_enter Tryz.func65, Tryz.ntmps65
      go_wp2
      go_ret
      exact ⟨ret_bool HF.out.symm, S0.below⟩
    · have z1 : ¬ ((ns.length : Int) < 1) := by omega
      have z2 : ((ns.length : Int) > 4) := by omega
      go_enter Tryz.func65, Tryz.ntmps65
      go_wp2
      go_ret
      exact ⟨ret_bool HF.out.symm, S0.below⟩
end Go.Proofs.YtnaggcdhimcilaaGreat
/- Chains that came in: how they are read, and their size. Condition: what is said of each. -/
namespace Go.Proofs.YtnaggcdhimcilaaGreat
open Go.RowKit Go.Joins
attribute [local go_sem ↓] Go.wp_at_zero Go.wp_at_succ

/-- A slice that reads as these nodes, in old memory (below block B). -/
def Ng (w : World) (B : Nat) (a : Option Addr) (ns : List Nd) : Prop :=
  ns = [] ∨ ∃ b off : Nat, a = some ⟨b, off, none⟩ ∧ b < B ∧ ∀ (i : Nat) n, ns[i]? = some n → (w.cell? ⟨b, off + i * 2, none⟩ = some (.slice n.sa n.ss.length n.sc) ∧ w.cell? ⟨b, off + i * 2 + 1, none⟩ = some (.slice n.wa n.ws.length n.wc)) ∧ Vg w B n.sa n.ss ∧ Vg w B n.wa n.ws
theorem Ng.on {w w' : World} {B : Nat} {a : Option Addr} {ns : List Nd} (h : Ng w B a ns) (hb : Below B w w') : Ng w' B a ns := by
  rcases h with h | ⟨b, off, ha, hlt, hx⟩
  · exact .inl h
  · exact .inr ⟨b, off, ha, hlt, fun i n hi => ⟨⟨(hb.cell (p := ⟨b, off + i * 2, none⟩) hlt).trans (hx i n hi).1.1, (hb.cell (p := ⟨b, off + i * 2 + 1, none⟩) hlt).trans (hx i n hi).1.2⟩, (hx i n hi).2.1.on hb, (hx i n hi).2.2.on hb⟩⟩
theorem Ng.up {w : World} {B B' : Nat} {a : Option Addr} {ns : List Nd} (h : Ng w B a ns) (hB : B ≤ B') : Ng w B' a ns := by
  rcases h with h | ⟨b, off, ha, hlt, hx⟩
  · exact .inl h
  · exact .inr ⟨b, off, ha, by omega, fun i n hi => ⟨(hx i n hi).1, (hx i n hi).2.1.up hB, (hx i n hi).2.2.up hB⟩⟩
/-- How much these nodes weigh beside their number. -/
def totN (n : Nd) : Nat := (n.ss.length + tot n.ss) + (n.ws.length + tot n.ws)
def totNs (ns : List Nd) : Nat := (ns.map totN).sum
theorem totNs_step {ns : List Nd} {k : Nat} {n : Nd} (h : ns[k]? = some n) : totNs (ns.take (k + 1)) = totNs (ns.take k) + totN n := by
  unfold totNs
  rw [List.take_add_one, h]
  simp
theorem totNs_all (ns : List Nd) : totNs (ns.take ns.length) = totNs ns := by rw [List.take_length]
theorem totNs_le (ns : List Nd) (k : Nat) : totNs (ns.take k) ≤ totNs ns := by
  have h : ns = ns.take k ++ ns.drop k := (List.take_append_drop k ns).symm
  have e : totNs ns = totNs (ns.take k) + totNs (ns.drop k) := by
    unfold totNs
    rw [← List.sum_append, ← List.map_append, ← h]
  omega
theorem totNs_mem {ns : List Nd} {n : Nd} (h : n ∈ ns) : totN n ≤ totNs ns := by
  obtain ⟨k, hk⟩ := List.getElem?_of_mem h
  have h1 := totNs_step hk
  have h2 := totNs_le ns (k + 1)
  omega
/-- Sizes that a machine has. -/
def BigV (vs : List V) : Prop := vs.length ≤ 9223372036854775807 ∧ ∀ v ∈ vs, v.ts.length ≤ 9223372036854775807 ∧ v.s.size ≤ 9223372036854775807
def BigN (ns : List Nd) : Prop := ∀ n ∈ ns, BigV n.ss ∧ BigV n.ws
set_option maxHeartbeats 1000000 in
theorem szNode_fits (n : Nd) (left : Int) (w : World) (h0 : left ≤ 1048576) (hf : (totN n : Int) ≤ left) (hv : Vg w w.heap.size n.sa n.ss) (hw : Vg w w.heap.size n.wa n.ws) :
    Calls Tryz.prog 90 #[.agg #[.slice n.sa n.ss.length n.sc, .slice n.wa n.ws.length n.wc], .int .i64 left] w fun e w' => e = .returned (.int .i64 (left - totN n)) ∧ Below w.heap.size w w' := by
  have HE : Hid ((totN n : Int) = (n.ss.length + tot n.ss) + (n.ws.length + tot n.ws)) := by unfold Hid totN; omega
  obtain ⟨sa, sc, ss, wa, wc, ws⟩ := n
  simp only at HE hv hw ⊢
  have S0 := (Inv.start w).box 130 #[.slice sa ss.length sc, .slice wa ws.length wc]
  simp only [World.size_alloc] at S0
  have q0 := (S0.nth 0 rfl).two.1
  have h1 : ¬ (left - (ss.length : Int) - (tot ss : Int) < 0) := by have := HE.out; omega
  have h2 : ¬ (left - (ss.length : Int) - (tot ss : Int) - (ws.length : Int) - (tot ws : Int) < 0) := by have := HE.out; omega
  have HW := hide hw
  clear hw
  go_enter Tryz.func90, Tryz.ntmps90
  go_wp2_with fail
  refine (szStore_fits sa sc ss left _ h0 (by have := HE.out; omega) ((hv.on S0.below).up S0.base)).mono ?_
  rintro e w1 ⟨rfl, hb1⟩
  have S1 := S0.on hb1
  have q1 : w1.cell? ⟨w.heap.size, 1, none⟩ = some (.slice wa ws.length wc) := (S1.nth 0 rfl).at 1
  clear S0 q0
  go_wp2_with fail
  refine (szVerS_fits wa wc ws _ _ (by omega) (by have := HE.out; omega) ((HW.out.on S1.below).up S1.base)).mono ?_
  rintro e w2 ⟨rfl, hb2⟩
  have S2 := S1.on hb2
  clear S1 q1
  go_wp2
  go_ret
  exact ⟨ret_int (by have := HE.out; omega), S2.below⟩
set_option maxHeartbeats 1000000 in
theorem szNode_not (n : Nd) (left : Int) (w : World) (h0 : left ≤ 1048576) (h00 : 0 ≤ left) (hB : BigV n.ss ∧ BigV n.ws) (hf : left < (totN n : Int)) (hv : Vg w w.heap.size n.sa n.ss) (hw : Vg w w.heap.size n.wa n.ws) :
    Calls Tryz.prog 90 #[.agg #[.slice n.sa n.ss.length n.sc, .slice n.wa n.ws.length n.wc], .int .i64 left] w fun e w' => e = .returned (.int .i64 (-1)) ∧ Below w.heap.size w w' := by
  have HE : Hid ((totN n : Int) = (n.ss.length + tot n.ss) + (n.ws.length + tot n.ws)) := by unfold Hid totN; omega
  obtain ⟨sa, sc, ss, wa, wc, ws⟩ := n
  simp only at HE hv hw hB ⊢
  have S0 := (Inv.start w).box 130 #[.slice sa ss.length sc, .slice wa ws.length wc]
  simp only [World.size_alloc] at S0
  have q0 := (S0.nth 0 rfl).two.1
  have HW := hide hw
  have HB := hide hB
  clear hw hB
  by_cases hfit : (ss.length : Int) + tot ss ≤ left
  · have h1 : ¬ (left - (ss.length : Int) - (tot ss : Int) < 0) := by omega
    go_enter Tryz.func90, Tryz.ntmps90
    go_wp2_with fail
    refine (szStore_fits sa sc ss left _ h0 hfit ((hv.on S0.below).up S0.base)).mono ?_
    rintro e w1 ⟨rfl, hb1⟩
    have S1 := S0.on hb1
    have q1 : w1.cell? ⟨w.heap.size, 1, none⟩ = some (.slice wa ws.length wc) := (S1.nth 0 rfl).at 1
    clear S0 q0
    go_wp2_with fail
    refine (szVerS_not wa wc ws _ _ (by omega) (by omega) HB.out.2.1 HB.out.2.2 (by have := HE.out; omega) ((HW.out.on S1.below).up S1.base)).mono ?_
    rintro e w2 ⟨rfl, hb2⟩
    have S2 := S1.on hb2
    clear S1 q1
    go_wp2
    go_ret
    exact ⟨rfl, S2.below⟩
  · go_enter Tryz.func90, Tryz.ntmps90
    go_wp2_with fail
    refine (szStore_not sa sc ss left _ h0 h00 HB.out.1.1 HB.out.1.2 (by omega) ((hv.on S0.below).up S0.base)).mono ?_
    rintro e w1 ⟨rfl, hb1⟩
    have S1 := S0.on hb1
    clear S0 q0
    go_wp2
    go_ret
    exact ⟨rfl, S1.below⟩
set_option maxRecDepth 100000 in
set_option maxHeartbeats 2000000 in
theorem szNodeS_fits (a : Option Addr) (c : Nat) (ns : List Nd) (left : Int) (w : World) (h0 : left ≤ 1048576) (hf : (ns.length : Int) + totNs ns ≤ left) (hv : Ng w w.heap.size a ns) :
    Calls Tryz.prog 51 #[.slice a ns.length c, .int .i64 left] w fun e w' => e = .returned (.int .i64 (left - ns.length - totNs ns)) ∧ Below w.heap.size w w' := by
  have HF := hide hf
  have HT : Hid (totNs (ns.take ns.length) = totNs ns) := totNs_all ns
  generalize hnn : ns.length = n at *
  have HN := hide hnn
  have h1 : ¬ (left - (n : Int) < 0) := by omega
  have h2 : 0 ≤ left := by omega
  have h3 : (n : Int) ≤ left := by omega
  clear hnn hf
  go_enter Tryz.func51, Tryz.ntmps51
  go_wp2
  go_loopw [1, 5] (fun r i wr => ∃ (k : Nat) (m : Int), k ≤ n ∧ i = .int .i64 (k : Int) ∧ r = .int .i64 m ∧ Hid (m = left - n - totNs (ns.take k)) ∧ Below w.heap.size w wr) (fun _ i _ => n - (intOf i).toNat)
  case atStart => exact ⟨0, _, Nat.zero_le _, rfl, rfl, by unfold Hid totNs; simp, Below.refl _ _⟩
  case round =>
    obtain ⟨k, m, hk, rfl, rfl, hm, hL⟩ := hrel
    by_cases hlt : k < n
    · rcases hv with e0 | ⟨b, off, rfl, hb, hx⟩
      · have := HN.out; subst e0; simp at this; omega
      · have hkl : k < ns.length := by have := HN.out; omega
        obtain ⟨⟨n0, n1⟩, hV, hW⟩ := hx k _ (List.getElem?_eq_getElem hkl)
        have HX := hide (List.getElem?_eq_getElem hkl)
        generalize ns[k] = nd at n0 n1 hV hW HX
        have q0 := (hL.cell (p := ⟨b, off + k * 2, none⟩) hb).trans n0
        have q1 := (hL.cell (p := ⟨b, off + k * 2 + 1, none⟩) hb).trans n1
        have HV := hide ((hV.on hL).up hL.size)
        have HW := hide ((hW.on hL).up hL.size)
        have st := totNs_step HX.out
        have le := totNs_le ns (k + 1)
        have H1 : Hid ((totN nd : Int) ≤ m ∧ m ≤ 1048576) := by
          have := hm.out; have := HF.out; unfold Hid; omega
        have H2 : Hid (m - totN nd = left - n - totNs (ns.take (k + 1))) := by
          have := hm.out; unfold Hid; omega
        have h5 : ¬ (m - (totN nd : Int) < 0) := by have := H1.out; omega
        clear st le n0 n1 hV hW hx
        have i1 : (0 : Int) ≤ (k : Int) := by omega
        have i2 : (k : Int) < (n : Int) := by omega
        go_wp2_with fail
        refine (szNode_fits nd m _ H1.out.2 H1.out.1 HV.out HW.out).mono ?_
        rintro e w1 ⟨rfl, hb1⟩
        have hL1 := hL.trans (hb1.mono hL.size)
        generalize (totN nd : Int) = tn at H1 H2 h5 ⊢
        go_wp2
        exact ⟨⟨k + 1, _, by omega, by go_num, rfl, H2, hL1⟩, by simp [intOf]; omega⟩
    · have hkn : k = n := by omega
      subst hkn
      clear hlt
      go_wp2
      go_ret
      exact ⟨ret_int (by rw [hm.out, HT.out]), hL⟩
set_option maxRecDepth 100000 in
set_option maxHeartbeats 2000000 in
theorem szNodeS_not (a : Option Addr) (c : Nat) (ns : List Nd) (left : Int) (w : World) (h0 : left ≤ 1048576) (h00 : 0 ≤ left) (hl : ns.length ≤ 9223372036854775807) (hB : BigN ns) (hf : left < (ns.length : Int) + totNs ns) (hv : Ng w w.heap.size a ns) :
    Calls Tryz.prog 51 #[.slice a ns.length c, .int .i64 left] w fun e w' => e = .returned (.int .i64 (-1)) ∧ Below w.heap.size w w' := by
  have HF := hide hf
  have HM := hide hB
  clear hB
  have HT : Hid (totNs (ns.take ns.length) = totNs ns) := totNs_all ns
  generalize hnn : ns.length = n at *
  have HN := hide hnn
  clear hnn hf
  by_cases h1 : left - (n : Int) < 0
  · go_enter Tryz.func51, Tryz.ntmps51
    go_wp2
    go_ret
    exact ⟨rfl, Below.refl _ _⟩
  · have h3 : (n : Int) ≤ left := by omega
    go_enter Tryz.func51, Tryz.ntmps51
    go_wp2
    go_loopw [1, 5] (fun r i wr => ∃ (k : Nat) (m : Int), k ≤ n ∧ i = .int .i64 (k : Int) ∧ r = .int .i64 m ∧ Hid (m = left - n - totNs (ns.take k) ∧ 0 ≤ m) ∧ Below w.heap.size w wr) (fun _ i _ => n - (intOf i).toNat)
    case atStart => exact ⟨0, _, Nat.zero_le _, rfl, rfl, by unfold Hid totNs; simp; omega, Below.refl _ _⟩
    case round =>
      obtain ⟨k, m, hk, rfl, rfl, hm, hL⟩ := hrel
      by_cases hlt : k < n
      · rcases hv with e0 | ⟨b, off, rfl, hb, hx⟩
        · have := HN.out; subst e0; simp at this; omega
        · have hkl : k < ns.length := by have := HN.out; omega
          obtain ⟨⟨n0, n1⟩, hV, hW⟩ := hx k _ (List.getElem?_eq_getElem hkl)
          have HX := hide (List.getElem?_eq_getElem hkl)
          generalize ns[k] = nd at n0 n1 hV hW HX
          have q0 := (hL.cell (p := ⟨b, off + k * 2, none⟩) hb).trans n0
          have q1 := (hL.cell (p := ⟨b, off + k * 2 + 1, none⟩) hb).trans n1
          have HV := hide ((hV.on hL).up hL.size)
          have HW := hide ((hW.on hL).up hL.size)
          have HB := hide (HM.out nd (List.mem_of_getElem? HX.out))
          have st := totNs_step HX.out
          have H2 : Hid (m - totN nd = left - n - totNs (ns.take (k + 1))) := by
            have := hm.out; unfold Hid; omega
          clear st n0 n1 hV hW hx
          have i1 : (0 : Int) ≤ (k : Int) := by omega
          have i2 : (k : Int) < (n : Int) := by omega
          have H3 : Hid (m ≤ 1048576) := by have := hm.out; unfold Hid; omega
          by_cases hfit : (totN nd : Int) ≤ m
          · have h5 : ¬ (m - (totN nd : Int) < 0) := by omega
            have H4 := hide hfit
            clear hfit
            go_wp2_with fail
            refine (szNode_fits nd m _ H3.out H4.out HV.out HW.out).mono ?_
            rintro e w1 ⟨rfl, hb1⟩
            have hL1 := hL.trans (hb1.mono hL.size)
            generalize (totN nd : Int) = tn at H2 H4 h5 ⊢
            go_wp2
            exact ⟨⟨k + 1, _, by omega, by go_num, rfl, ⟨H2.out, by have := H4.out; omega⟩, hL1⟩, by simp [intOf]; omega⟩
          · have H4 := hide hfit
            clear hfit
            go_wp2_with fail
            refine (szNode_not nd m _ H3.out hm.out.2 HB.out (by have := H4.out; omega) HV.out HW.out).mono ?_
            rintro e w1 ⟨rfl, hb1⟩
            have hL1 := hL.trans (hb1.mono hL.size)
            go_wp2
            go_ret
            exact ⟨rfl, hL1⟩
      · have hkn : k = n := by omega
        exfalso
        have := hm.out
        have := HT.out
        have := HF.out
        subst hkn
        omega
set_option maxHeartbeats 1000000 in
theorem szChain_fits (a : Option Addr) (c : Nat) (ns : List Nd) (left : Int) (w : World) (h0 : left ≤ 1048576) (hf : (ns.length : Int) + totNs ns ≤ left) (hv : Ng w w.heap.size a ns) :
    Calls Tryz.prog 17 #[.agg #[.slice a ns.length c], .int .i64 left] w fun e w' => e = .returned (.int .i64 (left - ns.length - totNs ns)) ∧ Below w.heap.size w w' := by
  have h1 : ¬ (left - (ns.length : Int) - (totNs ns : Int) < 0) := by omega
  have S0 := (Inv.start w).box 24 #[.slice a ns.length c]
  go_enter Tryz.func17, Tryz.ntmps17
  go_wp2_with fail
  refine (szNodeS_fits a c ns left _ h0 hf ((hv.on S0.below).up S0.base)).mono ?_
  rintro e w1 ⟨rfl, hb1⟩
  have S1 := S0.on hb1
  clear S0
  go_wp2
  go_ret
  exact ⟨rfl, S1.below⟩
set_option maxHeartbeats 1000000 in
theorem szChain_not (a : Option Addr) (c : Nat) (ns : List Nd) (left : Int) (w : World) (h0 : left ≤ 1048576) (h00 : 0 ≤ left) (hl : ns.length ≤ 9223372036854775807) (hB : BigN ns) (hf : left < (ns.length : Int) + totNs ns) (hv : Ng w w.heap.size a ns) :
    Calls Tryz.prog 17 #[.agg #[.slice a ns.length c], .int .i64 left] w fun e w' => e = .returned (.int .i64 (-1)) ∧ Below w.heap.size w w' := by
  have S0 := (Inv.start w).box 24 #[.slice a ns.length c]
  have HM := hide hB
  clear hB
  go_enter Tryz.func17, Tryz.ntmps17
  go_wp2_with fail
  refine (szNodeS_not a c ns left _ h0 h00 hl HM.out hf ((hv.on S0.below).up S0.base)).mono ?_
  rintro e w1 ⟨rfl, hb1⟩
  have S1 := S0.on hb1
  clear S0
  go_wp2
  go_ret
  exact ⟨rfl, S1.below⟩
end Go.Proofs.YtnaggcdhimcilaaGreat
