/- Contracts of what the program asks of a place's clock, of its causes and of its logs. Condition: sizes that memory holds. -/
import Derived.Test.YtnaggcdhimcilaaGreatJVerFind
import Derived.Test.YtnaggcdhimcilaaGreatJPlaceMark
import Derived.Test.YtnaggcdhimcilaaGreatJChainStable
namespace Go.Proofs.YtnaggcdhimcilaaGreat
open Go.RowKit Go.Joins
attribute [local go_sem ↓] Go.wp_at_zero Go.wp_at_succ

/-- A place as a function works on it. -/
abbrev ctC (p : Pl) : Array Value := #[.slice p.ca p.ns.length p.cc, .int .i64 p.me, .int .i64 p.ck, .slice p.la p.log.length p.lc, .slice p.ga p.gs.length p.gc, .bool p.fell]
abbrev ctAt (me ck : Int) (ca : Option Addr) (cn cc : Nat) (la : Option Addr) (ln lc : Nat) (ga : Option Addr) (gn gc : Nat) (f : Bool) : Array Value := #[.slice ca cn cc, .int .i64 me, .int .i64 ck, .slice la ln lc, .slice ga gn gc, .bool f]
theorem lastT_le {t : Int} {ts : List (Int × Int)} : lastT ts ≤ t ↔ 0 ≤ t ∧ ∀ x ∈ ts, x.1 ≤ t := by
  have := @lastT_lt (t + 1) ts
  constructor
  · intro h
    obtain ⟨h1, h2⟩ := this.1 (by omega)
    exact ⟨by omega, fun x hx => by have := h2 x hx; omega⟩
  · intro ⟨h1, h2⟩
    have := this.2 ⟨by omega, fun x hx => by have := h2 x hx; omega⟩
    omega
theorem clockB_head {c : Int} {ns : List Nd} {n : Nd} (h : ns[0]? = some n) : clockB c ns = (decide (lastT (tagsL n.ss) ≤ c) && decide (c ≤ 999)) := by
  unfold clockB
  rw [h]
  simp only
  have e : decide (lastT (tagsL n.ss) ≤ c) = (decide (0 ≤ c) && n.ss.all fun v => decide (v.t ≤ c)) := by
    rw [Bool.eq_iff_iff, decide_eq_true_eq, Bool.and_eq_true, decide_eq_true_eq, List.all_eq_true, lastT_le]
    unfold tagsL
    constructor
    · rintro ⟨h1, h2⟩
      exact ⟨h1, fun v hv => by have := h2 _ (List.mem_map_of_mem hv); simpa using this⟩
    · rintro ⟨h1, h2⟩
      refine ⟨h1, fun x hx => ?_⟩
      obtain ⟨v, hv, rfl⟩ := List.mem_map.1 hx
      have := h2 v hv
      simpa using this
  rw [e, Bool.decide_and]
  cases decide (0 ≤ c) <;> cases decide (c ≤ 999) <;> simp
set_option maxRecDepth 100000 in
set_option maxHeartbeats 1000000 in
theorem laterVer_any (m : Int) (v : V) (w : World) :
    Calls Tryz.prog 135 #[.int .i64 m, .agg (verC v.k v.t v.u v.a v.ts.length v.c v.s v.g)] w fun e w' => e = .returned (.int .i64 (max m v.t)) ∧ Below w.heap.size w w' := by
  have S0 := (Inv.start w).box 96 (verC v.k v.t v.u v.a v.ts.length v.c v.s v.g)
  have q0 := (S0.nth 0 rfl).six
  go_enter Tryz.func135, Tryz.ntmps135
  go_wp2_with fail
  refine (laterTime_any _ _ _ _).mono ?_
  rintro e w1 ⟨rfl, hb1⟩
  have S1 := S0.on hb1
  generalize hx : max m v.t = x
  have HX := hide hx
  clear hx S0 q0
  go_wp2
  go_ret
  exact ⟨ret_int HX.out.symm, S1.below⟩
set_option maxRecDepth 100000 in
set_option maxHeartbeats 1000000 in
theorem foldVers_any (a : Option Addr) (c : Nat) (vs : List V) (w : World) (hn : vs.length ≤ 1048576) (hv : Vg w w.heap.size a vs) :
    Calls Tryz.prog 134 #[.slice a vs.length c, .int .i64 0, .func (.func 135) #[] #[]] w fun e w' => e = .returned (.int .i64 (lastT (tagsL vs))) ∧ Below w.heap.size w w' := by
  have HT : Hid (lastT ((tagsL vs).take vs.length) = lastT (tagsL vs)) := by unfold Hid; rw [← tagsL_len vs, List.take_length]
  generalize hnn : vs.length = n at *
  have HN := hide hnn
  clear hnn
  go_enter Tryz.func134, Tryz.ntmps134
  go_wp2
  go_loopw [1, 11] (fun r i wr => ∃ (k : Nat) (m : Int), k ≤ n ∧ i = .int .i64 (k : Int) ∧ r = .int .i64 m ∧ Hid (m = lastT ((tagsL vs).take k)) ∧ Below w.heap.size w wr) (fun _ i _ => n - (intOf i).toNat)
  case atStart => exact ⟨0, 0, Nat.zero_le _, rfl, rfl, rfl, Below.refl _ _⟩
  case round =>
    obtain ⟨k, m, hk, rfl, rfl, hm, hL⟩ := hrel
    by_cases hlt : k < n
    · rcases hv with h0 | ⟨b, off, rfl, hb, hx⟩
      · have := HN.out; subst h0; simp at this; omega
      · have hkl : k < vs.length := by have := HN.out; omega
        obtain ⟨hS, hT⟩ := hx k _ (List.getElem?_eq_getElem hkl)
        have HX := hide (List.getElem?_eq_getElem hkl)
        generalize vs[k] = v at hS hT HX
        have Q1 := (hS.keep hb fun _ hp => hL.cell hp)
        have CT : Hid (∀ W, Calls Tryz.prog 135 #[.int .i64 m, .agg (verC v.k v.t v.u v.a v.ts.length v.c v.s v.g)] W fun e w' => e = .returned (.int .i64 (max m v.t)) ∧ Below W.heap.size W w') := fun W => laterVer_any m v W
        have HM : Hid (max m v.t = lastT ((tagsL vs).take (k + 1))) := by
          unfold Hid
          rw [lastT_step (tagsL_at HX.out), ← hm.out]
        obtain ⟨vk, vt, vu, va, vc, vts, vs', vg⟩ := v
        simp only at Q1 CT HM
        clear hS hT hx
        have i1 : (0 : Int) ≤ (k : Int) := by omega
        have i2 : (k : Int) < (n : Int) := by omega
        have L1 := hL.alloc hL.size (.cells (verC vk vt vu va vts.length vc vs' vg) 96)
        go_wp2_with fail
        with_reducible refine (CT.out _).mono ?_
        rintro e w1 ⟨rfl, hb1⟩
        have hL1 := L1.trans (hb1.mono L1.size)
        clear Q1 CT
        go_wp2
        exact ⟨⟨k + 1, _, by omega, by go_num, rfl, HM, hL1⟩, by simp [intOf]; omega⟩
    · have hkn : k = n := by omega
      subst hkn
      clear hlt
      go_wp2
      go_ret
      exact ⟨ret_int (by rw [hm.out, HT.out]), hL⟩
set_option maxRecDepth 100000 in
set_option maxHeartbeats 2000000 in
theorem clockOk_any (C : Nat) (p : Pl) (w : World) (hB : Blk w C 73 (ctC p)) (hok : chainB p.ns = true) (hm : SmN p.ns) (hC : CgA w p.ca p.ns) :
    Calls Tryz.prog 108 #[.pointer (some ⟨C, 0, none⟩)] w fun e w' => e = .returned (.bool (clockB p.ck p.ns)) ∧ Below w.heap.size w w' := by
  obtain ⟨⟨h1, h4⟩, -, -⟩ := chainB_parts hok
  obtain ⟨nd, hnd⟩ : ∃ nd, p.ns[0]? = some nd := ⟨_, List.getElem?_eq_getElem (by omega)⟩
  have HE := hide (clockB_head (c := p.ck) hnd)
  have HMN := hide (hm 0 nd hnd)
  rcases hC with h0 | ⟨G, cur, hca, hG⟩
  · rw [h0] at h1; simp at h1
  have hG' := hG
  have n0 := (hG.blk.at (0 * 2)).trans (hG.at' 0 nd hnd).1
  have HV := hide (hG.store 0 nd hnd)
  obtain ⟨me, ck, ca, cc, ns, la, lc, log, ga, gc, gs, fell⟩ := p
  simp only at hB h1 h4 hnd HE hca
  subst hca
  obtain ⟨sa, sc, ss, wa, wc, ws⟩ := nd
  simp only at n0 HV HE HMN
  have i2 : (0 : Int) < (ns.length : Int) := by omega
  have q0 := hB.six
  have HB := hide hB
  clear hG hG' hnd hm hok hB
  go_enter Tryz.func108, Tryz.ntmps108
  go_wp2_with fail
  refine (foldVers_any sa sc ss w HMN.out.1.1 HV.out).mono ?_
  rintro e w1 ⟨rfl, hb1⟩
  have q1 := (HB.out.on hb1).six
  clear q0 n0
  generalize lastT (tagsL ss) = m at HE ⊢
  by_cases e1 : m ≤ ck
  · rw [decide_eq_true e1] at HE
    generalize hx : decide (ck ≤ 999) = x at HE
    have HXX := hide hx
    clear hx
    go_wp2
    go_ret
    exact ⟨ret_bool (by rw [HE.out, ← HXX.out]; simp), hb1⟩
  · rw [decide_eq_false e1] at HE
    go_wp2
    go_ret
    exact ⟨ret_bool (by rw [HE.out]; simp), hb1⟩
end Go.Proofs.YtnaggcdhimcilaaGreat
/- What a store's places hold: nothing, or a version with a time. No condition. -/
namespace Go.Proofs.YtnaggcdhimcilaaGreat
open Go.RowKit Go.Joins

theorem ver_pos {v : V} (h : verV v = true) : 0 < v.t := by
  apply Classical.byContradiction
  intro hn
  have h2 : verB v.k v.t v.u v.ts v.s v.g = false := verB_late (verB_parts h).2.2.1 (fun hl => hn (lastT_lt.1 hl).1)
  have h3 : verB v.k v.t v.u v.ts v.s v.g = true := h
  rw [h2] at h3
  cases h3
theorem slot_two {i : Nat} {v : V} (h : slotB i v = true) : (noneC v.k v.t v.u v.ts.length v.s v.g = true ∧ v.t = 0) ∨ (noneC v.k v.t v.u v.ts.length v.s v.g = false ∧ 0 < v.t ∧ verV v = true) := by
  by_cases ht : v.t = 0
  · exact .inl ⟨slot_none h ht, ht⟩
  · exact .inr ⟨noneC_f (.inr (.inl (fun e => ht e.1))), ver_pos (slot_ver h ht), slot_ver h ht⟩
theorem ver_none {v : V} (h : verV v = true) : noneC v.k v.t v.u v.ts.length v.s v.g = false := noneC_f (.inr (.inl (fun e => by have := ver_pos h; omega)))
end Go.Proofs.YtnaggcdhimcilaaGreat
/- Contracts of what the program asks of a place's causes. Condition: sizes that memory holds. -/
namespace Go.Proofs.YtnaggcdhimcilaaGreat
open Go.RowKit Go.Joins
attribute [local go_sem ↓] Go.wp_at_zero Go.wp_at_succ

/-- Whether a version hangs on what not all nodes have. -/
def openB (st : List (Int × Int)) (v : V) : Bool := !noneC v.k v.t v.u v.ts.length v.s v.g && !pwB v.ts st
theorem open_slot {st : List (Int × Int)} {i : Nat} {v : V} (h : slotB i v = true) : openB st v = !hangsB st v := by
  unfold openB hangsB
  rcases slot_two h with ⟨h1, h2⟩ | ⟨h1, h2, _⟩
  · rw [h1, decide_eq_true (by omega)]; rfl
  · rw [h1, decide_eq_false (by omega)]; simp
theorem open_ver {st : List (Int × Int)} {v : V} (h : verV v = true) : openB st v = !hangsB st v := by
  have h2 := ver_pos h
  unfold openB hangsB
  rw [ver_none h, decide_eq_false (by omega)]
  simp
theorem any_not_all {α : Type} {l : List α} {p q : α → Bool} (h : ∀ x ∈ l, p x = !q x) : l.any p = !l.all q := by
  rw [Bool.eq_iff_iff, Bool.not_eq_true', List.any_eq_true, List.all_eq_false]
  constructor
  · rintro ⟨x, hx, hp⟩
    refine ⟨x, hx, ?_⟩
    rw [h x hx] at hp
    simpa using hp
  · rintro ⟨x, hx, hp⟩
    exact ⟨x, hx, by rw [h x hx]; simpa using hp⟩
/-- Whether a node has a version that hangs on what not all nodes have. -/
def openN (st : List (Int × Int)) (n : Nd) : Bool := n.ss.any (openB st) || n.ws.any (openB st)
theorem openN_causes {ns : List Nd} (h : ∀ (i : Nat) n, ns[i]? = some n → nodeB n = true) : ns.any (openN (stableR ns)) = !causesB ns := by
  unfold causesB
  refine any_not_all fun n hn => ?_
  obtain ⟨i, hi⟩ := List.getElem?_of_mem hn
  obtain ⟨h1, _, h3⟩ := nodeB_parts (h i n hi)
  unfold openN
  rw [any_not_all (p := openB (stableR ns)) (q := hangsB (stableR ns)) (l := n.ss) fun v hv => by
    obtain ⟨j, hj⟩ := List.getElem?_of_mem hv
    exact open_slot (storeB_slot h1 hj), any_not_all (p := openB (stableR ns)) (q := hangsB (stableR ns)) (l := n.ws) fun v hv => open_ver (h3 v hv)]
  cases n.ss.all (hangsB (stableR ns)) <;> cases n.ws.all (hangsB (stableR ns)) <;> rfl
set_option maxRecDepth 100000 in
set_option maxHeartbeats 2000000 in
theorem stable_any (C : Nat) (p : Pl) (w : World) (hB : Blk w C 73 (ctC p)) (hok : chainB p.ns = true) (hm : SmN p.ns) (hC : CgA w p.ca p.ns) :
    Calls Tryz.prog 137 #[.pointer (some ⟨C, 0, none⟩)] w (Answer w (stableR p.ns)) := by
  obtain ⟨⟨h1, h4⟩, -, -⟩ := chainB_parts hok
  obtain ⟨q, hq⟩ : ∃ q, p.ns.length = q + 1 := ⟨p.ns.length - 1, by omega⟩
  obtain ⟨nd, hnd⟩ : ∃ nd, p.ns[q]? = some nd := ⟨_, List.getElem?_eq_getElem (by omega)⟩
  have HE := hide (stableR_yes hok hq hnd)
  have HMN := hide (hm q nd hnd)
  rcases hC with h0 | ⟨G, cur, hca, hG⟩
  · rw [h0] at h1; simp at h1
  obtain ⟨me, ck, ca, cc, ns, la, lc, log, ga, gc, gs, fell⟩ := p
  simp only at hB h1 h4 hnd HE hca hq hG hok ⊢
  subst hca
  change Blk w C 73 (ctAt me ck (some ⟨G, 0, none⟩) ns.length cc la log.length lc ga gs.length gc fell) at hB
  rw [hq] at hB
  have HG := hide hG
  have HND := hide hnd
  have hq4 : q + 1 ≤ 4 := by omega
  have S0 := (Inv.start w).box 94 #[.slice none 0 0]
  simp only [World.size_alloc] at S0
  have q0 := (hB.on S0.below).six
  clear hG hnd hm hok hB h1 h4 hq
  go_enter Tryz.func137, Tryz.ntmps137
  go_wp2_with fail
  refine (tail_any G cc q ns cur nd _ (by omega) (HG.out.on S0.below) HND.out).mono ?_
  rintro e w2 ⟨rfl, hb2⟩
  have S2 := S0.on hb2
  have zr := S2.room
  have HV2 := hide (HG.out.on S2.below |>.store q nd HND.out)
  obtain ⟨sa, sc, ss, wa, wc, ws⟩ := nd
  simp only at HV2 HE HMN
  have hfd := field_store (.slice sa ss.length sc) (.slice wa ws.length wc)
  clear q0 hb2 S0
  go_wp2_with fail
  refine (implStoreTags_any sa sc ss w2 HMN.out.1.1 HMN.out.2.1 HV2.out).mono ?_
  rintro e w3 ⟨A3, cap3, rfl, R3, hb3⟩
  have S3 := S2.on hb3
  have q3 := (S3.nth 0 rfl).one
  have HR3 := hide R3
  clear S2 R3 hb3
  generalize tagsR ss = rs at HR3 HE ⊢
  go_wp2
  refine bodyPost_ret (v := .agg #[.slice A3 rs.length cap3]) (by simp [results, Tryz.results137, go_sem, q3]) rfl ?_
  rw [HE.out]
  refine ⟨A3, cap3, rfl, ?_, S3.below.setCell (by simp) _⟩
  have Z : (w3.setCell ⟨w.heap.size, 0, none⟩ (.slice A3 rs.length cap3)).heap.size = w3.heap.size := by simp [World.setCell]
  rw [Z]
  rcases HR3.out with h | ⟨g, T, cu, rfl, hB, hU, hb, hs, hc⟩
  · exact .inl h
  · exact .inr ⟨g, T, cu, rfl, by omega, hU, hb.aside (by simp; omega) _, hs, hc⟩
end Go.Proofs.YtnaggcdhimcilaaGreat
/- Contracts of whether a version, a node hangs on what not all nodes have. Condition: sizes that memory holds. -/
namespace Go.Proofs.YtnaggcdhimcilaaGreat
open Go.RowKit Go.Joins
attribute [local go_sem ↓] Go.wp_at_zero Go.wp_at_succ

set_option maxRecDepth 100000 in
set_option maxHeartbeats 2000000 in
theorem openVer_any (v : V) (b : Nat) (A : Option Addr) (cap : Nat) (st : List (Int × Int)) (w : World) (hn : v.ts.length ≤ 1048576) (hst : st.length ≤ 1048576) (ht : Tg w w.heap.size v.a v.ts) (hb : Blk w b 94 #[.slice A st.length cap]) (hs : Tg w w.heap.size A st) :
    Calls Tryz.prog 138 (#[.agg (verC v.k v.t v.u v.a v.ts.length v.c v.s v.g)] ++ #[.pointer (some ⟨b, 0, none⟩)]) w fun e w' => e = .returned (.bool (openB st v)) ∧ Below w.heap.size w w' := by
  have S0 := (Inv.start w).box 96 (verC v.k v.t v.u v.a v.ts.length v.c v.s v.g)
  simp only [World.size_alloc] at S0
  have HB := hide hb
  have HT := hide ht
  have HS := hide hs
  have HO : Hid (openB st v = (!noneC v.k v.t v.u v.ts.length v.s v.g && !pwB v.ts st)) := rfl
  obtain ⟨vk, vt, vu, va, vc, vts, vs', vg⟩ := v
  simp only at S0 HT hn HO
  have q0 := (S0.nth 0 rfl).six
  clear hb ht hs
  go_enter Tryz.func138, Tryz.ntmps138
  go_wp2_with fail
  with_reducible refine (verNone_any vk vt vu va vts.length vc vs' vg _).mono ?_
  rintro e w1 ⟨rfl, hb1⟩
  have S1 := S0.on hb1
  have q1 := (S1.nth 0 rfl).six
  have p1 := (HB.out.on S1.below).one
  clear S0 q0
  cases hno : noneC vk vt vu vts.length vs' vg
  · rw [hno] at HO
    clear hno
    go_wp2_with fail
    with_reducible refine (implPastWithin_any va A vc cap vts st _ hn hst ((HT.out.on S1.below).up S1.base) ((HS.out.on S1.below).up S1.base)).mono ?_
    rintro e w2 ⟨rfl, hb2⟩
    have S2 := S1.on hb2
    clear S1 q1 p1
    generalize pwB vts st = x at HO ⊢
    go_wp2
    go_ret
    exact ⟨ret_bool (by rw [HO.out]; simp), S2.below⟩
  · rw [hno] at HO
    clear hno
    go_wp2
    go_ret
    exact ⟨ret_bool (by rw [HO.out]; simp), S1.below⟩
set_option maxRecDepth 100000 in
set_option maxHeartbeats 2000000 in
theorem openNode_any (n : Nd) (b b' : Nat) (A : Option Addr) (cap : Nat) (st : List (Int × Int)) (w : World) (hn : n.ss.length ≤ 1048576 ∧ n.ws.length ≤ 1048576) (hm : Small n.ss) (hm' : Small n.ws) (hst : st.length ≤ 1048576) (hv : Vg w w.heap.size n.sa n.ss) (hw : Vg w w.heap.size n.wa n.ws)
    (hb : Blk w b 94 #[.slice A st.length cap]) (hs : Tg w w.heap.size A st) (hb' : Blk w b' 133 #[.func (.func 138) #[] #[.pointer (some ⟨b, 0, none⟩)]]) :
    Calls Tryz.prog 140 (#[.agg #[.slice n.sa n.ss.length n.sc, .slice n.wa n.ws.length n.wc]] ++ #[.pointer (some ⟨b', 0, none⟩)]) w fun e w' => e = .returned (.bool (openN st n)) ∧ Below w.heap.size w w' := by
  have S0 := (Inv.start w).box 90 #[.slice n.sa n.ss.length n.sc, .slice n.wa n.ws.length n.wc]
  simp only [World.size_alloc] at S0
  have HV := hide hv
  have HW := hide hw
  have HBB := hide hb'
  have HO : Hid (openN st n = (n.ss.any (openB st) || n.ws.any (openB st))) := rfl
  have HC : Hid (∀ (a : Option Addr) (c : Nat) (vs : List V) W, Below w.heap.size w W → vs.length ≤ 1048576 → Small vs → Vg w w.heap.size a vs → Calls Tryz.prog 112 #[.slice a vs.length c, .func (.func 138) #[] #[.pointer (some ⟨b, 0, none⟩)]] W fun e w' => e = .returned (.bool (vs.any (openB st))) ∧ Below W.heap.size W w') := fun a c vs W hW hn hm hv =>
    containsVers_any 138 #[.pointer (some ⟨b, 0, none⟩)] (openB st) a c vs W hn ((hv.on hW).up hW.size) (run_enterV Tryz.func138 (by kernel_rfl) rfl) (fun k v hk W' hW' => by
      have hWW := hW.trans (hW'.mono hW.size)
      have hx : Tg W' W'.heap.size v.a v.ts := by
        rcases hv with h0 | ⟨b0, off, _, _, hx⟩
        · rw [h0] at hk; simp at hk
        · exact ((hx k v hk).2.on hWW).up hWW.size
      exact openVer_any v b A cap st W' (hm v (List.mem_of_getElem? hk)).1 hst hx (hb.on hWW) ((hs.on hWW).up hWW.size))
  obtain ⟨sa, sc, ss, wa, wc, ws⟩ := n
  simp only at S0 HV HW HO hn hm hm'
  have HM := hide hm
  have HM' := hide hm'
  have q0 := (S0.nth 0 rfl).two
  have p0 := (HBB.out.on S0.below).one
  clear hv hw hb hs hb' hm hm'
  go_enter Tryz.func140, Tryz.ntmps140
  go_wp2_with fail
  with_reducible refine (HC.out sa sc ss _ S0.below hn.1 HM.out HV.out).mono ?_
  rintro e w1 ⟨rfl, hb1⟩
  have S1 := S0.on hb1
  have q1 := (S1.nth 0 rfl).two
  have p1 := (HBB.out.on S1.below).one
  clear S0 q0 p0
  generalize ss.any (openB st) = x at HO ⊢
  cases x
  · go_wp2_with fail
    with_reducible refine (HC.out wa wc ws _ S1.below hn.2 HM'.out HW.out).mono ?_
    rintro e w2 ⟨rfl, hb2⟩
    have S2 := S1.on hb2
    clear S1 q1 p1
    generalize ws.any (openB st) = x at HO ⊢
    go_wp2
    go_ret
    exact ⟨ret_bool (by rw [HO.out]; simp), S2.below⟩
  · go_wp2
    go_ret
    exact ⟨ret_bool (by rw [HO.out]; simp), S1.below⟩
end Go.Proofs.YtnaggcdhimcilaaGreat
/- Contract of what the program asks of a place's causes. Condition: sizes that memory holds. -/
namespace Go.Proofs.YtnaggcdhimcilaaGreat
open Go.RowKit Go.Joins
attribute [local go_sem ↓] Go.wp_at_zero Go.wp_at_succ

theorem store_fn (P : Program) (w : World) (a : Addr) (fn : Fn) (x y : Array Value) (m : Mode) : (store a (.func fn x y) m).run P w = stored P w a (.func fn x y) m := run_store P w a _ m rfl
attribute [local go_sem] store_fn

set_option maxRecDepth 100000 in
set_option maxHeartbeats 2000000 in
theorem pastsOk_any (C : Nat) (p : Pl) (w : World) (hB : Blk w C 73 (ctC p)) (hok : chainB p.ns = true) (hm : SmN p.ns) (hC : CgA w p.ca p.ns) :
    Calls Tryz.prog 109 #[.pointer (some ⟨C, 0, none⟩)] w fun e w' => e = .returned (.bool (causesB p.ns)) ∧ Below w.heap.size w w' := by
  have HE := hide (openN_causes (chainB_parts hok).2.1)
  have HCS : Hid (∀ W, Below w.heap.size w W → Calls Tryz.prog 137 #[.pointer (some ⟨C, 0, none⟩)] W (Answer W (stableR p.ns))) := fun W hW => stable_any C p W (hB.on hW) hok hm (hC.on hW)
  have H4 := stableR_len p.ns
  have HM := hide hm
  have HCC := hide hC
  have hl4 := (chainB_parts hok).1.2
  obtain ⟨me, ck, ca, cc, ns, la, lc, log, ga, gc, gs, fell⟩ := p
  simp only at hB HE HCS H4 HM HCC hl4
  have HB := hide hB
  have q0 := hB.six
  generalize hst : stableR ns = st at *
  clear hst hok hm hC hB
  go_enter Tryz.func109, Tryz.ntmps109
  go_wp2_with fail
  with_reducible refine (HCS.out _ (Below.refl _ _)).mono ?_
  rintro e w1 ⟨A1, cap1, rfl, R1, hb1⟩
  have I1 := (((Inv.start w).on hb1).top.box 94 #[.slice A1 st.length cap1]).box 133 #[.func (.func 138) #[] #[.pointer (some ⟨w1.heap.size, 0, none⟩)]]
  simp only [World.size_alloc] at I1
  have q1 := (HB.out.on I1.below).six
  have HS := hide (R1.tg)
  have z1 := hb1.size
  have bA : Below w1.heap.size w1 ((w1.alloc (.cells #[.slice A1 st.length cap1] 94)).alloc (.cells #[.func (.func 138) #[] #[.pointer (some ⟨w1.heap.size, 0, none⟩)]] 133)) := (below_alloc1 _ _).trans ((below_alloc1 _ _).mono (by simp))
  have CN := containsNodes_any 140 #[.pointer (some ⟨w1.heap.size + 1, 0, none⟩)] (openN st) ca cc ns _ (by omega) (HCC.out.on I1.below) (run_enterV Tryz.func140 (by kernel_rfl) rfl) (fun k n hk W hW => by
    have hx := HM.out k n hk
    have hWW := I1.below.trans (hW.mono I1.base)
    have hv : Vg W W.heap.size n.sa n.ss ∧ Vg W W.heap.size n.wa n.ws := by
      rcases HCC.out with h0 | ⟨G, cur, _, hG⟩
      · rw [h0] at hk; simp at hk
      · exact ⟨(hG.on hWW).store k n hk, (hG.on hWW).wait k n hk⟩
    exact openNode_any n w1.heap.size (w1.heap.size + 1) A1 cap1 st W hx.1 hx.2.1 hx.2.2 (by omega) hv.1 hv.2 ((I1.nth 1 rfl).on hW) (((HS.out.on bA).up bA.size |>.on hW).up hW.size) ((I1.nth 0 rfl).on hW))
  rw [HE.out] at CN
  have HCN := hide CN
  clear CN q0 R1 hb1 bA
  go_wp2_with fail
  generalize (w1.alloc (.cells #[.slice A1 st.length cap1] 94)).alloc (.cells #[.func (.func 138) #[] #[.pointer (some ⟨w1.heap.size, 0, none⟩)]] 133) = W2 at I1 HCN q1 ⊢
  with_reducible refine HCN.out.mono ?_
  rintro e w2 ⟨rfl, hb2⟩
  have I2 := I1.on hb2
  clear I1 HCN q1
  generalize hx : causesB ns = x
  have HX := hide hx
  clear hx
  go_wp2
  go_ret
  exact ⟨ret_bool (by rw [HX.out]), I2.below⟩
end Go.Proofs.YtnaggcdhimcilaaGreat
