/- Contracts of what the program asks of a place's clock, of its causes and of its logs. Condition: sizes that memory holds. -/
import Derived.Test.YtnaggcdhimcilaaGreatJNotePure
import Derived.Test.YtnaggcdhimcilaaGreatJChainRow
import Derived.Test.YtnaggcdhimcilaaGreatJStorePure
namespace Go.Proofs.YtnaggcdhimcilaaGreat
open Go.RowKit Go.Joins
attribute [local go_sem ↓] Go.wp_at_zero Go.wp_at_succ

/-- A place as a function works on it. -/
abbrev ctC (p : Pl) : Array Value := #[.slice p.ca p.ns.length p.cc, .int .i64 p.me, .int .i64 p.ck, .slice p.la p.log.length p.lc, .slice p.ga p.gs.length p.gc, .bool p.fell]
abbrev ctAt (me ck : Int) (ca : Option Addr) (cn cc : Nat) (la : Option Addr) (ln lc : Nat) (ga : Option Addr) (gn gc : Nat) (f : Bool) : Array Value := #[.slice ca cn cc, .int .i64 me, .int .i64 ck, .slice la ln lc, .slice ga gn gc, .bool f]
theorem lastT_le {t : Int} {ts : List (Int × Int)} : lastT ts ≤ t ↔ 0 ≤ t ∧ ∀ x ∈ ts, x.1 ≤ t := by
  have := @lastT_lt (t + 1) ts
  constructor
  · intro h
    obtain ⟨h1, h2⟩ := this.1 (by omega)
    exact ⟨by omega, fun x hx => by have := h2 x hx; omega⟩
  · intro ⟨h1, h2⟩
    have := this.2 ⟨by omega, fun x hx => by have := h2 x hx; omega⟩
    omega
theorem clockB_head {c : Int} {ns : List Nd} {n : Nd} (h : ns[0]? = some n) : clockB c ns = (decide (lastT (tagsL n.ss) ≤ c) && decide (c ≤ 999)) := by
  unfold clockB
  rw [h]
  simp only
  have e : decide (lastT (tagsL n.ss) ≤ c) = (decide (0 ≤ c) && n.ss.all fun v => decide (v.t ≤ c)) := by
    rw [Bool.eq_iff_iff, decide_eq_true_eq, Bool.and_eq_true, decide_eq_true_eq, List.all_eq_true, lastT_le]
    unfold tagsL
    constructor
    · rintro ⟨h1, h2⟩
      exact ⟨h1, fun v hv => by have := h2 _ (List.mem_map_of_mem hv); simpa using this⟩
    · rintro ⟨h1, h2⟩
      refine ⟨h1, fun x hx => ?_⟩
      obtain ⟨v, hv, rfl⟩ := List.mem_map.1 hx
      have := h2 v hv
      simpa using this
  rw [e, Bool.decide_and]
  cases decide (0 ≤ c) <;> cases decide (c ≤ 999) <;> simp
set_option maxRecDepth 100000 in
set_option maxHeartbeats 1000000 in
theorem laterVer_any (m : Int) (v : V) (w : World) :
    Calls Tryz.prog 135 #[.int .i64 m, .agg (verC v.k v.t v.u v.a v.ts.length v.c v.s v.g)] w fun e w' => e = .returned (.int .i64 (max m v.t)) ∧ Below w.heap.size w w' := by
  have S0 := (Inv.start w).box 96 (verC v.k v.t v.u v.a v.ts.length v.c v.s v.g)
  have q0 := (S0.nth 0 rfl).six
  go_enter Tryz.func135, Tryz.ntmps135
  go_wp2_with fail
  refine (laterTime_any _ _ _ _).mono ?_
  rintro e w1 ⟨rfl, hb1⟩
  have S1 := S0.on hb1
  generalize hx : max m v.t = x
  have HX := hide hx
  clear hx S0 q0
  go_wp2
  go_ret
  exact ⟨ret_int HX.out.symm, S1.below⟩
set_option maxRecDepth 100000 in
set_option maxHeartbeats 1000000 in
theorem foldVers_any (a : Option Addr) (c : Nat) (vs : List V) (w : World) (hn : vs.length ≤ 1048576) (hv : Vg w w.heap.size a vs) :
    Calls Tryz.prog 134 #[.slice a vs.length c, .int .i64 0, .func (.func 135) #[] #[]] w fun e w' => e = .returned (.int .i64 (lastT (tagsL vs))) ∧ Below w.heap.size w w' := by
  have HT : Hid (lastT ((tagsL vs).take vs.length) = lastT (tagsL vs)) := by unfold Hid; rw [← tagsL_len vs, List.take_length]
  generalize hnn : vs.length = n at *
  have HN := hide hnn
  clear hnn
  go_enter Tryz.func134, Tryz.ntmps134
  go_wp2
  go_loopw [1, 11] (fun r i wr => ∃ (k : Nat) (m : Int), k ≤ n ∧ i = .int .i64 (k : Int) ∧ r = .int .i64 m ∧ Hid (m = lastT ((tagsL vs).take k)) ∧ Below w.heap.size w wr) (fun _ i _ => n - (intOf i).toNat)
  case atStart => exact ⟨0, 0, Nat.zero_le _, rfl, rfl, rfl, Below.refl _ _⟩
  case round =>
    obtain ⟨k, m, hk, rfl, rfl, hm, hL⟩ := hrel
    by_cases hlt : k < n
    · rcases hv with h0 | ⟨b, off, rfl, hb, hx⟩
      · have := HN.out; subst h0; simp at this; omega
      · have hkl : k < vs.length := by have := HN.out; omega
        obtain ⟨hS, hT⟩ := hx k _ (List.getElem?_eq_getElem hkl)
        have HX := hide (List.getElem?_eq_getElem hkl)
        generalize vs[k] = v at hS hT HX
        have Q1 := (hS.keep hb fun _ hp => hL.cell hp)
        have CT : Hid (∀ W, Calls Tryz.prog 135 #[.int .i64 m, .agg (verC v.k v.t v.u v.a v.ts.length v.c v.s v.g)] W fun e w' => e = .returned (.int .i64 (max m v.t)) ∧ Below W.heap.size W w') := fun W => laterVer_any m v W
        have HM : Hid (max m v.t = lastT ((tagsL vs).take (k + 1))) := by
          unfold Hid
          rw [lastT_step (tagsL_at HX.out), ← hm.out]
        obtain ⟨vk, vt, vu, va, vc, vts, vs', vg⟩ := v
        simp only at Q1 CT HM
        clear hS hT hx
        have i1 : (0 : Int) ≤ (k : Int) := by omega
        have i2 : (k : Int) < (n : Int) := by omega
        have L1 := hL.alloc hL.size (.cells (verC vk vt vu va vts.length vc vs' vg) 96)
        go_wp2_with fail
        with_reducible refine (CT.out _).mono ?_
        rintro e w1 ⟨rfl, hb1⟩
        have hL1 := L1.trans (hb1.mono L1.size)
        clear Q1 CT
        go_wp2
        exact ⟨⟨k + 1, _, by omega, by go_num, rfl, HM, hL1⟩, by simp [intOf]; omega⟩
    · have hkn : k = n := by omega
      subst hkn
      clear hlt
      go_wp2
      go_ret
      exact ⟨ret_int (by rw [hm.out, HT.out]), hL⟩
set_option maxRecDepth 100000 in
set_option maxHeartbeats 2000000 in
theorem clockOk_any (C : Nat) (p : Pl) (w : World) (hB : Blk w C 73 (ctC p)) (hok : chainB p.ns = true) (hm : SmN p.ns) (hC : CgA w p.ca p.ns) :
    Calls Tryz.prog 108 #[.pointer (some ⟨C, 0, none⟩)] w fun e w' => e = .returned (.bool (clockB p.ck p.ns)) ∧ Below w.heap.size w w' := by
  obtain ⟨⟨h1, h4⟩, -, -⟩ := chainB_parts hok
  obtain ⟨nd, hnd⟩ : ∃ nd, p.ns[0]? = some nd := ⟨_, List.getElem?_eq_getElem (by omega)⟩
  have HE := hide (clockB_head (c := p.ck) hnd)
  have HMN := hide (hm 0 nd hnd)
  rcases hC with h0 | ⟨G, cur, hca, hG⟩
  · rw [h0] at h1; simp at h1
  have hG' := hG
  have n0 := (hG.blk.at (0 * 2)).trans (hG.at' 0 nd hnd).1
  have HV := hide (hG.store 0 nd hnd)
  obtain ⟨me, ck, ca, cc, ns, la, lc, log, ga, gc, gs, fell⟩ := p
  simp only at hB h1 h4 hnd HE hca
  subst hca
  obtain ⟨sa, sc, ss, wa, wc, ws⟩ := nd
  simp only at n0 HV HE HMN
  have i2 : (0 : Int) < (ns.length : Int) := by omega
  have q0 := hB.six
  have HB := hide hB
  clear hG hG' hnd hm hok hB
  go_enter Tryz.func108, Tryz.ntmps108
  go_wp2_with fail
  refine (foldVers_any sa sc ss w HMN.out.1.1 HV.out).mono ?_
  rintro e w1 ⟨rfl, hb1⟩
  have q1 := (HB.out.on hb1).six
  clear q0 n0
  generalize lastT (tagsL ss) = m at HE ⊢
  by_cases e1 : m ≤ ck
  · rw [decide_eq_true e1] at HE
    generalize hx : decide (ck ≤ 999) = x at HE
    have HXX := hide hx
    clear hx
    go_wp2
    go_ret
    exact ⟨ret_bool (by rw [HE.out, ← HXX.out]; simp), hb1⟩
  · rw [decide_eq_false e1] at HE
    go_wp2
    go_ret
    exact ⟨ret_bool (by rw [HE.out]; simp), hb1⟩
end Go.Proofs.YtnaggcdhimcilaaGreat
/- What a store's places hold: nothing, or a version with a time. No condition. -/
namespace Go.Proofs.YtnaggcdhimcilaaGreat
open Go.RowKit Go.Joins

theorem ver_pos {v : V} (h : verV v = true) : 0 < v.t := by
  apply Classical.byContradiction
  intro hn
  have h2 : verB v.k v.t v.u v.ts v.s v.g = false := verB_late (verB_parts h).2.2.1 (fun hl => hn (lastT_lt.1 hl).1)
  have h3 : verB v.k v.t v.u v.ts v.s v.g = true := h
  rw [h2] at h3
  cases h3
theorem slot_two {i : Nat} {v : V} (h : slotB i v = true) : (noneC v.k v.t v.u v.ts.length v.s v.g = true ∧ v.t = 0) ∨ (noneC v.k v.t v.u v.ts.length v.s v.g = false ∧ 0 < v.t ∧ verV v = true) := by
  by_cases ht : v.t = 0
  · exact .inl ⟨slot_none h ht, ht⟩
  · exact .inr ⟨noneC_f (.inr (.inl (fun e => ht e.1))), ver_pos (slot_ver h ht), slot_ver h ht⟩
theorem ver_none {v : V} (h : verV v = true) : noneC v.k v.t v.u v.ts.length v.s v.g = false := noneC_f (.inr (.inl (fun e => by have := ver_pos h; omega)))
end Go.Proofs.YtnaggcdhimcilaaGreat
/- Contracts of what the program asks of a place's causes. Condition: sizes that memory holds. -/
namespace Go.Proofs.YtnaggcdhimcilaaGreat
open Go.RowKit Go.Joins
attribute [local go_sem ↓] Go.wp_at_zero Go.wp_at_succ

/-- Whether a version hangs on what not all nodes have. -/
def openB (st : List (Int × Int)) (v : V) : Bool := !noneC v.k v.t v.u v.ts.length v.s v.g && !pwB v.ts st
theorem open_slot {st : List (Int × Int)} {i : Nat} {v : V} (h : slotB i v = true) : openB st v = !hangsB st v := by
  unfold openB hangsB
  rcases slot_two h with ⟨h1, h2⟩ | ⟨h1, h2, _⟩
  · rw [h1, decide_eq_true (by omega)]; rfl
  · rw [h1, decide_eq_false (by omega)]; simp
theorem open_ver {st : List (Int × Int)} {v : V} (h : verV v = true) : openB st v = !hangsB st v := by
  have h2 := ver_pos h
  unfold openB hangsB
  rw [ver_none h, decide_eq_false (by omega)]
  simp
theorem any_not_all {α : Type} {l : List α} {p q : α → Bool} (h : ∀ x ∈ l, p x = !q x) : l.any p = !l.all q := by
  rw [Bool.eq_iff_iff, Bool.not_eq_true', List.any_eq_true, List.all_eq_false]
  constructor
  · rintro ⟨x, hx, hp⟩
    refine ⟨x, hx, ?_⟩
    rw [h x hx] at hp
    simpa using hp
  · rintro ⟨x, hx, hp⟩
    exact ⟨x, hx, by rw [h x hx]; simpa using hp⟩
/-- Whether a node has a version that hangs on what not all nodes have. -/
def openN (st : List (Int × Int)) (n : Nd) : Bool := n.ss.any (openB st) || n.ws.any (openB st)
theorem openN_causes {ns : List Nd} (h : ∀ (i : Nat) n, ns[i]? = some n → nodeB n = true) : ns.any (openN (stableR ns)) = !causesB ns := by
  unfold causesB
  refine any_not_all fun n hn => ?_
  obtain ⟨i, hi⟩ := List.getElem?_of_mem hn
  obtain ⟨h1, _, h3⟩ := nodeB_parts (h i n hi)
  unfold openN
  rw [any_not_all (p := openB (stableR ns)) (q := hangsB (stableR ns)) (l := n.ss) fun v hv => by
    obtain ⟨j, hj⟩ := List.getElem?_of_mem hv
    exact open_slot (storeB_slot h1 hj), any_not_all (p := openB (stableR ns)) (q := hangsB (stableR ns)) (l := n.ws) fun v hv => open_ver (h3 v hv)]
  cases n.ss.all (hangsB (stableR ns)) <;> cases n.ws.all (hangsB (stableR ns)) <;> rfl
set_option maxRecDepth 100000 in
set_option maxHeartbeats 2000000 in
theorem stable_any (C : Nat) (p : Pl) (w : World) (hB : Blk w C 73 (ctC p)) (hok : chainB p.ns = true) (hm : SmN p.ns) (hC : CgA w p.ca p.ns) :
    Calls Tryz.prog 137 #[.pointer (some ⟨C, 0, none⟩)] w (Answer w (stableR p.ns)) := by
  obtain ⟨⟨h1, h4⟩, -, -⟩ := chainB_parts hok
  obtain ⟨q, hq⟩ : ∃ q, p.ns.length = q + 1 := ⟨p.ns.length - 1, by omega⟩
  obtain ⟨nd, hnd⟩ : ∃ nd, p.ns[q]? = some nd := ⟨_, List.getElem?_eq_getElem (by omega)⟩
  have HE := hide (stableR_yes hok hq hnd)
  have HMN := hide (hm q nd hnd)
  rcases hC with h0 | ⟨G, cur, hca, hG⟩
  · rw [h0] at h1; simp at h1
  obtain ⟨me, ck, ca, cc, ns, la, lc, log, ga, gc, gs, fell⟩ := p
  simp only at hB h1 h4 hnd HE hca hq hG hok ⊢
  subst hca
  change Blk w C 73 (ctAt me ck (some ⟨G, 0, none⟩) ns.length cc la log.length lc ga gs.length gc fell) at hB
  rw [hq] at hB
  have HG := hide hG
  have HND := hide hnd
  have hq4 : q + 1 ≤ 4 := by omega
  have S0 := (Inv.start w).box 94 #[.slice none 0 0]
  simp only [World.size_alloc] at S0
  have q0 := (hB.on S0.below).six
  clear hG hnd hm hok hB h1 h4 hq
  go_enter Tryz.func137, Tryz.ntmps137
  go_wp2_with fail
  refine (tail_any G cc q ns cur nd _ (by omega) (HG.out.on S0.below) HND.out).mono ?_
  rintro e w2 ⟨rfl, hb2⟩
  have S2 := S0.on hb2
  have zr := S2.room
  have HV2 := hide (HG.out.on S2.below |>.store q nd HND.out)
  obtain ⟨sa, sc, ss, wa, wc, ws⟩ := nd
  simp only at HV2 HE HMN
  have hfd := field_store (.slice sa ss.length sc) (.slice wa ws.length wc)
  clear q0 hb2 S0
  go_wp2_with fail
  refine (implStoreTags_any sa sc ss w2 HMN.out.1.1 HMN.out.2.1 HV2.out).mono ?_
  rintro e w3 ⟨A3, cap3, rfl, R3, hb3⟩
  have S3 := S2.on hb3
  have q3 := (S3.nth 0 rfl).one
  have HR3 := hide R3
  clear S2 R3 hb3
  generalize tagsR ss = rs at HR3 HE ⊢
  go_wp2
  refine bodyPost_ret (v := .agg #[.slice A3 rs.length cap3]) (by simp [results, Tryz.results137, go_sem, q3]) rfl ?_
  rw [HE.out]
  refine ⟨A3, cap3, rfl, ?_, S3.below.setCell (by simp) _⟩
  have Z : (w3.setCell ⟨w.heap.size, 0, none⟩ (.slice A3 rs.length cap3)).heap.size = w3.heap.size := by simp [World.setCell]
  rw [Z]
  rcases HR3.out with h | ⟨g, T, cu, rfl, hB, hU, hb, hs, hc⟩
  · exact .inl h
  · exact .inr ⟨g, T, cu, rfl, by omega, hU, hb.aside (by simp; omega) _, hs, hc⟩
end Go.Proofs.YtnaggcdhimcilaaGreat
/- Contracts of whether a version, a node hangs on what not all nodes have. Condition: sizes that memory holds. -/
namespace Go.Proofs.YtnaggcdhimcilaaGreat
open Go.RowKit Go.Joins
attribute [local go_sem ↓] Go.wp_at_zero Go.wp_at_succ

set_option maxRecDepth 100000 in
set_option maxHeartbeats 2000000 in
theorem openVer_any (v : V) (b : Nat) (A : Option Addr) (cap : Nat) (st : List (Int × Int)) (w : World) (hn : v.ts.length ≤ 1048576) (hst : st.length ≤ 1048576) (ht : Tg w w.heap.size v.a v.ts) (hb : Blk w b 94 #[.slice A st.length cap]) (hs : Tg w w.heap.size A st) :
    Calls Tryz.prog 138 (#[.agg (verC v.k v.t v.u v.a v.ts.length v.c v.s v.g)] ++ #[.pointer (some ⟨b, 0, none⟩)]) w fun e w' => e = .returned (.bool (openB st v)) ∧ Below w.heap.size w w' := by
  have S0 := (Inv.start w).box 96 (verC v.k v.t v.u v.a v.ts.length v.c v.s v.g)
  simp only [World.size_alloc] at S0
  have HB := hide hb
  have HT := hide ht
  have HS := hide hs
  have HO : Hid (openB st v = (!noneC v.k v.t v.u v.ts.length v.s v.g && !pwB v.ts st)) := rfl
  obtain ⟨vk, vt, vu, va, vc, vts, vs', vg⟩ := v
  simp only at S0 HT hn HO
  have q0 := (S0.nth 0 rfl).six
  clear hb ht hs
  go_enter Tryz.func138, Tryz.ntmps138
  go_wp2_with fail
  with_reducible refine (verNone_any vk vt vu va vts.length vc vs' vg _).mono ?_
  rintro e w1 ⟨rfl, hb1⟩
  have S1 := S0.on hb1
  have q1 := (S1.nth 0 rfl).six
  have p1 := (HB.out.on S1.below).one
  clear S0 q0
  cases hno : noneC vk vt vu vts.length vs' vg
  · rw [hno] at HO
    clear hno
    go_wp2_with fail
    with_reducible refine (implPastWithin_any va A vc cap vts st _ hn hst ((HT.out.on S1.below).up S1.base) ((HS.out.on S1.below).up S1.base)).mono ?_
    rintro e w2 ⟨rfl, hb2⟩
    have S2 := S1.on hb2
    clear S1 q1 p1
    generalize pwB vts st = x at HO ⊢
    go_wp2
    go_ret
    exact ⟨ret_bool (by rw [HO.out]; simp), S2.below⟩
  · rw [hno] at HO
    clear hno
    go_wp2
    go_ret
    exact ⟨ret_bool (by rw [HO.out]; simp), S1.below⟩
set_option maxRecDepth 100000 in
set_option maxHeartbeats 2000000 in
theorem openNode_any (n : Nd) (b b' : Nat) (A : Option Addr) (cap : Nat) (st : List (Int × Int)) (w : World) (hn : n.ss.length ≤ 1048576 ∧ n.ws.length ≤ 1048576) (hm : Small n.ss) (hm' : Small n.ws) (hst : st.length ≤ 1048576) (hv : Vg w w.heap.size n.sa n.ss) (hw : Vg w w.heap.size n.wa n.ws)
    (hb : Blk w b 94 #[.slice A st.length cap]) (hs : Tg w w.heap.size A st) (hb' : Blk w b' 133 #[.func (.func 138) #[] #[.pointer (some ⟨b, 0, none⟩)]]) :
    Calls Tryz.prog 140 (#[.agg #[.slice n.sa n.ss.length n.sc, .slice n.wa n.ws.length n.wc]] ++ #[.pointer (some ⟨b', 0, none⟩)]) w fun e w' => e = .returned (.bool (openN st n)) ∧ Below w.heap.size w w' := by
  have S0 := (Inv.start w).box 90 #[.slice n.sa n.ss.length n.sc, .slice n.wa n.ws.length n.wc]
  simp only [World.size_alloc] at S0
  have HV := hide hv
  have HW := hide hw
  have HBB := hide hb'
  have HO : Hid (openN st n = (n.ss.any (openB st) || n.ws.any (openB st))) := rfl
  have HC : Hid (∀ (a : Option Addr) (c : Nat) (vs : List V) W, Below w.heap.size w W → vs.length ≤ 1048576 → Small vs → Vg w w.heap.size a vs → Calls Tryz.prog 112 #[.slice a vs.length c, .func (.func 138) #[] #[.pointer (some ⟨b, 0, none⟩)]] W fun e w' => e = .returned (.bool (vs.any (openB st))) ∧ Below W.heap.size W w') := fun a c vs W hW hn hm hv =>
    containsVers_any 138 #[.pointer (some ⟨b, 0, none⟩)] (openB st) a c vs W hn ((hv.on hW).up hW.size) (run_enterV Tryz.func138 (by kernel_rfl) rfl) (fun k v hk W' hW' => by
      have hWW := hW.trans (hW'.mono hW.size)
      have hx : Tg W' W'.heap.size v.a v.ts := by
        rcases hv with h0 | ⟨b0, off, _, _, hx⟩
        · rw [h0] at hk; simp at hk
        · exact ((hx k v hk).2.on hWW).up hWW.size
      exact openVer_any v b A cap st W' (hm v (List.mem_of_getElem? hk)).1 hst hx (hb.on hWW) ((hs.on hWW).up hWW.size))
  obtain ⟨sa, sc, ss, wa, wc, ws⟩ := n
  simp only at S0 HV HW HO hn hm hm'
  have HM := hide hm
  have HM' := hide hm'
  have q0 := (S0.nth 0 rfl).two
  have p0 := (HBB.out.on S0.below).one
  clear hv hw hb hs hb' hm hm'
  go_enter Tryz.func140, Tryz.ntmps140
  go_wp2_with fail
  with_reducible refine (HC.out sa sc ss _ S0.below hn.1 HM.out HV.out).mono ?_
  rintro e w1 ⟨rfl, hb1⟩
  have S1 := S0.on hb1
  have q1 := (S1.nth 0 rfl).two
  have p1 := (HBB.out.on S1.below).one
  clear S0 q0 p0
  generalize ss.any (openB st) = x at HO ⊢
  cases x
  · go_wp2_with fail
    with_reducible refine (HC.out wa wc ws _ S1.below hn.2 HM'.out HW.out).mono ?_
    rintro e w2 ⟨rfl, hb2⟩
    have S2 := S1.on hb2
    clear S1 q1 p1
    generalize ws.any (openB st) = x at HO ⊢
    go_wp2
    go_ret
    exact ⟨ret_bool (by rw [HO.out]; simp), S2.below⟩
  · go_wp2
    go_ret
    exact ⟨ret_bool (by rw [HO.out]; simp), S1.below⟩
end Go.Proofs.YtnaggcdhimcilaaGreat
/- Contract of what the program asks of a place's causes. Condition: sizes that memory holds. -/
namespace Go.Proofs.YtnaggcdhimcilaaGreat
open Go.RowKit Go.Joins
attribute [local go_sem ↓] Go.wp_at_zero Go.wp_at_succ

theorem store_fn (P : Program) (w : World) (a : Addr) (fn : Fn) (x y : Array Value) (m : Mode) : (store a (.func fn x y) m).run P w = stored P w a (.func fn x y) m := run_store P w a _ m rfl
attribute [local go_sem] store_fn

set_option maxRecDepth 100000 in
set_option maxHeartbeats 2000000 in
theorem pastsOk_any (C : Nat) (p : Pl) (w : World) (hB : Blk w C 73 (ctC p)) (hok : chainB p.ns = true) (hm : SmN p.ns) (hC : CgA w p.ca p.ns) :
    Calls Tryz.prog 109 #[.pointer (some ⟨C, 0, none⟩)] w fun e w' => e = .returned (.bool (causesB p.ns)) ∧ Below w.heap.size w w' := by
  have HE := hide (openN_causes (chainB_parts hok).2.1)
  have HCS : Hid (∀ W, Below w.heap.size w W → Calls Tryz.prog 137 #[.pointer (some ⟨C, 0, none⟩)] W (Answer W (stableR p.ns))) := fun W hW => stable_any C p W (hB.on hW) hok hm (hC.on hW)
  have H4 := stableR_len p.ns
  have HM := hide hm
  have HCC := hide hC
  have hl4 := (chainB_parts hok).1.2
  obtain ⟨me, ck, ca, cc, ns, la, lc, log, ga, gc, gs, fell⟩ := p
  simp only at hB HE HCS H4 HM HCC hl4
  have HB := hide hB
  have q0 := hB.six
  generalize hst : stableR ns = st at *
  clear hst hok hm hC hB
  go_enter Tryz.func109, Tryz.ntmps109
  go_wp2_with fail
  with_reducible refine (HCS.out _ (Below.refl _ _)).mono ?_
  rintro e w1 ⟨A1, cap1, rfl, R1, hb1⟩
  have I1 := (((Inv.start w).on hb1).top.box 94 #[.slice A1 st.length cap1]).box 133 #[.func (.func 138) #[] #[.pointer (some ⟨w1.heap.size, 0, none⟩)]]
  simp only [World.size_alloc] at I1
  have q1 := (HB.out.on I1.below).six
  have HS := hide (R1.tg)
  have z1 := hb1.size
  have bA : Below w1.heap.size w1 ((w1.alloc (.cells #[.slice A1 st.length cap1] 94)).alloc (.cells #[.func (.func 138) #[] #[.pointer (some ⟨w1.heap.size, 0, none⟩)]] 133)) := (below_alloc1 _ _).trans ((below_alloc1 _ _).mono (by simp))
  have CN := containsNodes_any 140 #[.pointer (some ⟨w1.heap.size + 1, 0, none⟩)] (openN st) ca cc ns _ (by omega) (HCC.out.on I1.below) (run_enterV Tryz.func140 (by kernel_rfl) rfl) (fun k n hk W hW => by
    have hx := HM.out k n hk
    have hWW := I1.below.trans (hW.mono I1.base)
    have hv : Vg W W.heap.size n.sa n.ss ∧ Vg W W.heap.size n.wa n.ws := by
      rcases HCC.out with h0 | ⟨G, cur, _, hG⟩
      · rw [h0] at hk; simp at hk
      · exact ⟨(hG.on hWW).store k n hk, (hG.on hWW).wait k n hk⟩
    exact openNode_any n w1.heap.size (w1.heap.size + 1) A1 cap1 st W hx.1 hx.2.1 hx.2.2 (by omega) hv.1 hv.2 ((I1.nth 1 rfl).on hW) (((HS.out.on bA).up bA.size |>.on hW).up hW.size) ((I1.nth 0 rfl).on hW))
  rw [HE.out] at CN
  have HCN := hide CN
  clear CN q0 R1 hb1 bA
  go_wp2_with fail
  generalize (w1.alloc (.cells #[.slice A1 st.length cap1] 94)).alloc (.cells #[.func (.func 138) #[] #[.pointer (some ⟨w1.heap.size, 0, none⟩)]] 133) = W2 at I1 HCN q1 ⊢
  with_reducible refine HCN.out.mono ?_
  rintro e w2 ⟨rfl, hb2⟩
  have I2 := I1.on hb2
  clear I1 HCN q1
  generalize hx : causesB ns = x
  have HX := hide hx
  clear hx
  go_wp2
  go_ret
  exact ⟨ret_bool (by rw [HX.out]), I2.below⟩
end Go.Proofs.YtnaggcdhimcilaaGreat
/- Contracts of what the program asks of a place's logs. Condition: sizes that memory holds. -/
namespace Go.Proofs.YtnaggcdhimcilaaGreat
open Go.RowKit Go.Joins
attribute [local go_sem ↓] Go.wp_at_zero Go.wp_at_succ

theorem entry_no1 {us : List V} {p : Int} {i : Nat} {v : V} (h : us[i]? = some v) (hv : verV v = false) : entryB us p i = false := by rw [entryB_at h, hv]; rfl
theorem entry_no2 {us : List V} {p : Int} {i : Nat} {v : V} (h : us[i]? = some v) (hv : ¬ v.u = p) : entryB us p i = false := by rw [entryB_at h, decide_eq_false hv, Bool.and_false]; rfl
theorem entry_is {us : List V} {p : Int} {i : Nat} {v : V} (h : us[i]? = some v) (hv : verV v = true) (hu : v.u = p) : entryB us p i = !hasB (us.take i) v.t v.u := by rw [entryB_at h, hv, decide_eq_true hu]; rfl
set_option maxRecDepth 100000 in
set_option maxHeartbeats 4000000 in
theorem logOk_any (a : Option Addr) (c : Nat) (us : List V) (p : Int) (w : World) (hn : us.length ≤ 1048576) (hcap : us.length ≤ c) (hm : Small us) (hv : Vg w w.heap.size a us) :
    Calls Tryz.prog 141 #[.slice a us.length c, .int .i64 p] w fun e w' => e = .returned (.bool (logB us p)) ∧ Below w.heap.size w w' := by
  by_cases hl : us.length ≤ 60
  · have HM := hide hm
    have HF : Hid (∀ i, i < us.length → entryB us p i = false → logB us p = false) := fun i hi h => logB_bad hi h
    have HO : Hid ((∀ i, i < us.length → entryB us p i = true) → logB us p = true) := fun h => logB_ok hl h
    have HH : Hid (∀ (k : Nat) (t u : Int) W, k < us.length → Below w.heap.size w W → Calls Tryz.prog 74 #[.slice a k c, .agg #[.int .i64 t, .int .i64 u]] W fun e w' => e = .returned (.bool (hasB (us.take k) t u)) ∧ Below W.heap.size W w') := fun k t u W hk hW => by
      have := hasTag_any a c (us.take k) t u W (by rw [List.length_take]; omega) (((hv.take k).on hW).up hW.size)
      rw [List.length_take, Nat.min_eq_left (by omega)] at this
      exact this
    have z1 : ¬ ((us.length : Int) > 60) := by omega
    clear hm hl
    generalize hnn : us.length = n at *
    have HN := hide hnn
    clear hnn
    go_enter Tryz.func141, Tryz.ntmps141
    go_wp2
    go_loopw [12] (fun i wr => ∃ k : Nat, k ≤ n ∧ i = .int .i64 (k : Int) ∧ Hid (∀ i, i < k → entryB us p i = true) ∧ Below w.heap.size w wr) (fun i _ => n - (intOf i).toNat)
    case atStart => exact ⟨0, Nat.zero_le _, rfl, fun i hi => absurd hi (by omega), Below.refl _ _⟩
    case round =>
      obtain ⟨k, hk, rfl, hall, hL⟩ := hrel
      by_cases hlt : k < n
      · rcases hv with h0 | ⟨b, off, rfl, hb, hx⟩
        · have := HN.out; subst h0; simp at this; omega
        · have hkl : k < us.length := by have := HN.out; omega
          obtain ⟨hS, hT⟩ := hx k _ (List.getElem?_eq_getElem hkl)
          have HY := hide (List.getElem?_eq_getElem hkl)
          generalize us[k] = v at hS hT HY
          have HB := hide (HM.out v (List.mem_of_getElem? HY.out))
          have Q1 := (hS.keep hb fun _ hp => hL.cell hp)
          have HT := hide (show ∀ W, Below w.heap.size w W → Tg W W.heap.size v.a v.ts from fun W hW => (hT.on hW).up hW.size)
          have HE1 := hide (entry_no1 (p := p) HY.out)
          have HE2 := hide (entry_no2 (p := p) HY.out)
          have HE3 := hide (entry_is (p := p) HY.out)
          have HFF := hide (HF.out k hlt)
          obtain ⟨vk, vt, vu, va, vc, vts, vs', vg⟩ := v
          simp only at Q1 HT HB HE1 HE2 HE3
          have HVE : Hid (verV ⟨vk, vt, vu, va, vc, vts, vs', vg⟩ = verB vk vt vu vts vs' vg) := rfl
          have CV : Hid (∀ W, Below w.heap.size w W → Calls Tryz.prog 132 #[.agg (verC vk vt vu va vts.length vc vs' vg)] W fun e w' => e = .returned (.bool (verB vk vt vu vts vs' vg)) ∧ Below W.heap.size W w') := fun W hW => implVerOk_any vk vt vu va vc vts vs' vg W HB.out.1 HB.out.2 (HT.out W hW)
          have CH : Hid (∀ W, Below w.heap.size w W → Calls Tryz.prog 74 #[.slice (some ⟨b, off, none⟩) k c, .agg #[.int .i64 vt, .int .i64 vu]] W fun e w' => e = .returned (.bool (hasB (us.take k) vt vu)) ∧ Below W.heap.size W w') := fun W hW => HH.out k vt vu W hlt hW
          have I1 := (((Inv.start w).on hL).top).box 96 (verC vk vt vu va vts.length vc vs' vg)
          simp only [World.size_alloc] at I1
          have i1 : (0 : Int) ≤ (k : Int) := by omega
          have i2 : (k : Int) < (n : Int) := by omega
          have i3 : (k : Int) ≤ (c : Int) := by omega
          have i4 : ¬ (c : Int) < (k : Int) := by omega
          clear hS hT hx
          go_wp2_with fail
          generalize wr.alloc (.cells (verC vk vt vu va vts.length vc vs' vg) 96) = W1 at I1 ⊢
          cases hq : verB vk vt vu vts vs' vg
          · have HX := hide (HFF.out (HE1.out (HVE.out.trans hq)))
            rw [hq] at CV
            clear hq HE1 HE2 HE3 HFF
            refine wp_region_noPanic ?_
            refine wp_region_held_drew (S := (fun w' => (w'.cell? ⟨wr.heap.size, 0, none⟩ = some (.int .i64 vk) ∧ w'.cell? ⟨wr.heap.size, 1, none⟩ = some (.int .i64 vt) ∧ w'.cell? ⟨wr.heap.size, 2, none⟩ = some (.int .i64 vu) ∧ w'.cell? ⟨wr.heap.size, 3, none⟩ = some (.slice va vts.length vc) ∧ w'.cell? ⟨wr.heap.size, 4, none⟩ = some (.string vs') ∧ w'.cell? ⟨wr.heap.size, 5, none⟩ = some (.bool vg)) ∧ Inv w (wr.heap.size + 1) [(wr.heap.size, 96, verC vk vt vu va vts.length vc vs' vg)] w')) (by kernel_rfl) (by exact ⟨(I1.drew.nth 0 rfl).six.1, I1.drew⟩) (fun hHeld => ?_)
            refine mvR 0 (some 17) hHeld ?_
            refine take_one 1 (by kernel_rfl) rfl (fun K hK => ?_)
            go_simp
            ((with_reducible refine (CV.out _ hHeld.2.below).mono ?_); rintro e w3 ⟨rfl, hb⟩)
            try go_wp2_with fail
            refine hK.out _ _ (by exact ⟨((hHeld.2.on hb).nth 0 rfl).six.1, hHeld.2.on hb⟩) (fun hHeld => ?_)
            clear hK K
            refine mvR 2 (some 19) hHeld ?_
            refine mvR 3 (some 20) hHeld ?_
            refine mvS 4 (some 21) hHeld ?_
            refine mvS 5 (some 22) hHeld ?_
            refine mvS 6 (some 23) hHeld ?_
            refine mvS 7 (some 24) hHeld ?_
            refine mvS 8 (some 25) hHeld ?_
            refine mvR 9 (some 26) hHeld ?_
            refine mvR 10 (some 27) hHeld ?_
            refine mvS 11 (some 28) hHeld ?_
            refine mvS 12 (some 29) hHeld ?_
            refine mvS 13 (some 30) hHeld ?_
            refine mvS 14 (some 31) hHeld ?_
            refine mvS 15 (some 32) hHeld ?_
            refine mvS 16 (some 33) hHeld ?_
            refine mvR 17 (some 34) hHeld ?_
            refine wpAnyH_done (by kernel_rfl) ?_ _
            refine NoPanic.normal ?_
            have S1 := hHeld.2
            clear hHeld
            go_wp2
            go_ret
            exact ⟨ret_bool HX.out.symm, S1.below⟩
          · rw [hq] at CV
            by_cases hpu : vu = p
            · have HE := hide (HE3.out (HVE.out.trans hq) hpu)
              have hne : (vu != p) = false := by simpa using hpu
              have HPU := hide hpu
              clear hq HE1 HE2 HE3 hpu
              generalize hhb : hasB (us.take k) vt vu = hb0 at CH HE
              clear hhb
              refine wp_region_noPanic ?_
              refine wp_region_held_drew (S := (fun w' => (w'.cell? ⟨wr.heap.size, 0, none⟩ = some (.int .i64 vk) ∧ w'.cell? ⟨wr.heap.size, 1, none⟩ = some (.int .i64 vt) ∧ w'.cell? ⟨wr.heap.size, 2, none⟩ = some (.int .i64 vu) ∧ w'.cell? ⟨wr.heap.size, 3, none⟩ = some (.slice va vts.length vc) ∧ w'.cell? ⟨wr.heap.size, 4, none⟩ = some (.string vs') ∧ w'.cell? ⟨wr.heap.size, 5, none⟩ = some (.bool vg)) ∧ Inv w (wr.heap.size + 1) [(wr.heap.size, 96, verC vk vt vu va vts.length vc vs' vg)] w')) (by kernel_rfl) (by exact ⟨(I1.drew.nth 0 rfl).six.1, I1.drew⟩) (fun hHeld => ?_)
              refine mvR 0 (some 17) hHeld ?_
              refine take_one 1 (by kernel_rfl) rfl (fun K hK => ?_)
              go_simp
              ((with_reducible refine (CV.out _ hHeld.2.below).mono ?_); rintro e w3 ⟨rfl, hb⟩)
              try go_wp2_with fail
              refine hK.out _ _ (by exact ⟨((hHeld.2.on hb).nth 0 rfl).six.1, hHeld.2.on hb⟩) (fun hHeld => ?_)
              clear hK K
              refine mvR 2 (some 19) hHeld ?_
              refine mvR 3 (some 20) hHeld ?_
              refine mvR 4 (some 21) hHeld ?_
              refine mvR 5 (some 22) hHeld ?_
              refine mvR 6 (some 23) hHeld ?_
              refine mvR 7 (some 24) hHeld ?_
              refine mvR 8 (some 25) hHeld ?_
              refine mvR 9 (some 26) hHeld ?_
              refine mvR 10 (some 27) hHeld ?_
              refine mvR 11 (some 28) hHeld ?_
              refine mvR 12 (some 29) hHeld ?_
              refine mvR 13 (some 30) hHeld ?_
              refine mvR 14 (some 31) hHeld ?_
              refine mvR 15 (some 32) hHeld ?_
              refine take_one 16 (by kernel_rfl) rfl (fun K hK => ?_)
              go_simp
              ((with_reducible refine (CH.out _ hHeld.2.below).mono ?_); rintro e w4 ⟨rfl, hb⟩)
              try go_wp2_with fail
              refine hK.out _ _ (by exact ⟨((hHeld.2.on hb).nth 0 rfl).six.1, hHeld.2.on hb⟩) (fun hHeld => ?_)
              clear hK K
              refine mvR 17 (some 34) hHeld ?_
              refine wpAnyH_done (by kernel_rfl) ?_ _
              refine NoPanic.normal ?_
              have S1 := hHeld.2
              clear hHeld
              cases hb0
              · have HA : Hid (∀ i, i < k + 1 → entryB us p i = true) := fun i hi => by
                  by_cases e : i = k
                  · rw [e]; exact HE.out
                  · exact hall.out i (by omega)
                go_wp2
                exact ⟨⟨k + 1, by omega, by go_num, HA, S1.below⟩, by simp [intOf]; omega⟩
              · have HX := hide (HFF.out HE.out)
                go_wp2
                go_ret
                exact ⟨ret_bool HX.out.symm, S1.below⟩
            · have HX := hide (HFF.out (HE2.out hpu))
              have hne : (vu != p) = true := by simpa using hpu
              clear hq HE1 HE2 HE3 HFF hpu
              refine wp_region_noPanic ?_
              refine wp_region_held_drew (S := (fun w' => (w'.cell? ⟨wr.heap.size, 0, none⟩ = some (.int .i64 vk) ∧ w'.cell? ⟨wr.heap.size, 1, none⟩ = some (.int .i64 vt) ∧ w'.cell? ⟨wr.heap.size, 2, none⟩ = some (.int .i64 vu) ∧ w'.cell? ⟨wr.heap.size, 3, none⟩ = some (.slice va vts.length vc) ∧ w'.cell? ⟨wr.heap.size, 4, none⟩ = some (.string vs') ∧ w'.cell? ⟨wr.heap.size, 5, none⟩ = some (.bool vg)) ∧ Inv w (wr.heap.size + 1) [(wr.heap.size, 96, verC vk vt vu va vts.length vc vs' vg)] w')) (by kernel_rfl) (by exact ⟨(I1.drew.nth 0 rfl).six.1, I1.drew⟩) (fun hHeld => ?_)
              refine mvR 0 (some 17) hHeld ?_
              refine take_one 1 (by kernel_rfl) rfl (fun K hK => ?_)
              go_simp
              ((with_reducible refine (CV.out _ hHeld.2.below).mono ?_); rintro e w3 ⟨rfl, hb⟩)
              try go_wp2_with fail
              refine hK.out _ _ (by exact ⟨((hHeld.2.on hb).nth 0 rfl).six.1, hHeld.2.on hb⟩) (fun hHeld => ?_)
              clear hK K
              refine mvR 2 (some 19) hHeld ?_
              refine mvR 3 (some 20) hHeld ?_
              refine mvR 4 (some 21) hHeld ?_
              refine mvR 5 (some 22) hHeld ?_
              refine mvR 6 (some 23) hHeld ?_
              refine mvR 7 (some 24) hHeld ?_
              refine mvR 8 (some 25) hHeld ?_
              refine mvR 9 (some 26) hHeld ?_
              refine mvR 10 (some 27) hHeld ?_
              refine mvS 11 (some 28) hHeld ?_
              refine mvS 12 (some 29) hHeld ?_
              refine mvS 13 (some 30) hHeld ?_
              refine mvS 14 (some 31) hHeld ?_
              refine mvS 15 (some 32) hHeld ?_
              refine mvS 16 (some 33) hHeld ?_
              refine mvR 17 (some 34) hHeld ?_
              refine wpAnyH_done (by kernel_rfl) ?_ _
              refine NoPanic.normal ?_
              have S1 := hHeld.2
              clear hHeld
              go_wp2
              go_ret
              exact ⟨ret_bool HX.out.symm, S1.below⟩
      · have hkn : k = n := by omega
        subst hkn
        clear hlt
        have HX := hide (HO.out (fun i hi => hall.out i hi))
        go_wp2
        go_ret
        exact ⟨ret_bool HX.out.symm, hL⟩
  · have HF := hide (logB_long (p := p) hl)
    have z1 : (us.length : Int) > 60 := by omega
    clear hm hv
    go_enter Tryz.func141, Tryz.ntmps141
    go_wp2
    go_ret
    exact ⟨ret_bool HF.out.symm, Below.refl _ _⟩

theorem gotB_len {me : Int} {gs : List Lg} (h : ¬ gs.length = 3) : gotB me (gs.map Lg.vs) = false := by unfold gotB; rw [List.length_map, decide_eq_false h]; rfl
theorem gotB_no {me : Int} {gs : List Lg} {i : Nat} {l : Lg} (hi : gs[i]? = some l) (h : (logB l.vs (i : Int) && (decide ((i : Int) ≠ me) || decide (l.vs.length = 0))) = false) : gotB me (gs.map Lg.vs) = false := by
  cases hx : gotB me (gs.map Lg.vs) with
  | false => rfl
  | true =>
    unfold gotB at hx
    rw [Bool.and_eq_true, decide_eq_true_eq, List.length_map, List.all_eq_true] at hx
    have := hx.2 i (List.mem_range.2 (List.getElem?_eq_some_iff.1 hi).1)
    rw [List.getElem?_map, hi] at this
    simp only [Option.map_some] at this
    rw [h] at this
    cases this
theorem gotB_at {me : Int} {gs : List Lg} {i : Nat} {l : Lg} (hi : gs[i]? = some l) (h : logB l.vs (i : Int) = false) : gotB me (gs.map Lg.vs) = false := gotB_no hi (by rw [h]; rfl)
theorem gotB_me {m : Nat} {gs : List Lg} {l : Lg} (hi : gs[m]? = some l) (h : ¬ l.vs.length = 0) : gotB (m : Int) (gs.map Lg.vs) = false := gotB_no hi (by rw [decide_eq_false h, decide_eq_false (by simp)]; simp)
theorem gotB_mk {m : Nat} {gs : List Lg} {x : Lg} (h3 : gs.length = 3) (hx : gs[m]? = some x) (hm : x.vs.length = 0) (h : ∀ (i : Nat) l, i < 3 → gs[i]? = some l → logB l.vs (i : Int) = true) : gotB (m : Int) (gs.map Lg.vs) = true := by
  unfold gotB
  rw [List.length_map, decide_eq_true h3, Bool.true_and, List.all_eq_true]
  intro i hi
  have hi3 : i < 3 := by rw [← h3]; exact List.mem_range.1 hi
  obtain ⟨l, hl⟩ : ∃ l, gs[i]? = some l := ⟨_, List.getElem?_eq_getElem (by omega)⟩
  rw [List.getElem?_map, hl]
  simp only [Option.map_some]
  rw [h i l hi3 hl, Bool.true_and]
  by_cases e : i = m
  · subst e
    rw [hx] at hl
    injection hl with hl
    subst hl
    rw [decide_eq_true hm, Bool.or_true]
  · rw [decide_eq_true (by omega), Bool.true_or]
set_option maxRecDepth 100000 in
set_option maxHeartbeats 4000000 in
theorem logsOk_any (C : Nat) (p : Pl) (w : World) (hB : Blk w C 73 (ctC p)) (hme : 0 ≤ p.me ∧ p.me ≤ 2) (hl : p.log.length ≤ 1048576 ∧ Small p.log) (hg : p.gs.length ≤ 1048576 ∧ SmL p.gs) (hcap : p.log.length ≤ p.lc ∧ ∀ l ∈ p.gs, l.vs.length ≤ l.c) (hv : Vg w w.heap.size p.la p.log) (hw : Lgs w w.heap.size p.ga p.gs) :
    Calls Tryz.prog 110 #[.pointer (some ⟨C, 0, none⟩)] w fun e w' => e = .returned (.bool (logB p.log p.me && gotB p.me (p.gs.map Lg.vs))) ∧ Below w.heap.size w w' := by
  obtain ⟨me, ck, ca, cc, ns, la, lc, log, ga, gc, gs, fell⟩ := p
  simp only at hB hme hl hg hcap hv hw ⊢
  obtain ⟨m, rfl⟩ := Int.eq_ofNat_of_zero_le hme.1
  have hm3 : m < 3 := by have := hme.2; omega
  have CL : Hid (∀ W, Below w.heap.size w W → Calls Tryz.prog 141 #[.slice la log.length lc, .int .i64 (m : Int)] W fun e w' => e = .returned (.bool (logB log (m : Int))) ∧ Below W.heap.size W w') := fun W hW => logOk_any la lc log m W hl.1 hcap.1 hl.2 ((hv.on hW).up hW.size)
  have HSM := hide hg.2
  have HCAP := hide hcap.2
  have HGL := hide (gotB_len (me := (m : Int)) (gs := gs))
  have HB := hide hB
  have hcs : Hid (∀ W, Below w.heap.size w W → Blk W C 73 (ctAt (m : Int) ck ca ns.length cc la log.length lc ga gs.length gc fell)) := fun W hW => hB.on hW
  clear hB hl hcap hv hg hme
  cases hq : logB log (m : Int)
  · rw [hq] at CL
    have B0 := hcs.out w (Below.refl _ _)
    clear hq HGL
    go_enter Tryz.func110, Tryz.ntmps110
    go_wp2_with fail
    refine wp_region_noPanic ?_
    refine wp_region_held_drew (S := (fun w' => (w'.cell? ⟨C, 0, none⟩ = some (.slice ca ns.length cc) ∧ w'.cell? ⟨C, 1, none⟩ = some (.int .i64 (m : Int)) ∧ w'.cell? ⟨C, 2, none⟩ = some (.int .i64 ck) ∧ w'.cell? ⟨C, 3, none⟩ = some (.slice la log.length lc) ∧ w'.cell? ⟨C, 4, none⟩ = some (.slice ga gs.length gc) ∧ w'.cell? ⟨C, 5, none⟩ = some (.bool fell)) ∧ Below w.heap.size w w')) (by kernel_rfl) (by exact ⟨(hcs.out _ (Below.refl _ _).drew).six.1, (Below.refl _ _).drew⟩) (fun hHeld => ?_)
    refine mvR 0 (some 5) hHeld ?_
    refine mvR 1 (some 6) hHeld ?_
    refine mvR 2 (some 7) hHeld ?_
    refine mvR 3 (some 8) hHeld ?_
    refine mvR 4 (some 9) hHeld ?_
    refine mvR 5 (some 10) hHeld ?_
    refine mvR 6 (some 11) hHeld ?_
    refine mvR 7 (some 12) hHeld ?_
    refine take_one 8 (by kernel_rfl) rfl (fun K hK => ?_)
    go_simp
    ((with_reducible refine (CL.out _ hHeld.2).mono ?_); rintro e w3 ⟨rfl, hb⟩)
    try go_wp2_with fail
    refine hK.out _ _ (by exact ⟨(hcs.out _ (hHeld.2.trans (hb.mono hHeld.2.size))).six.1, hHeld.2.trans (hb.mono hHeld.2.size)⟩) (fun hHeld => ?_)
    clear hK K
    refine mvR 9 (some 14) hHeld ?_
    refine mvR 10 (some 15) hHeld ?_
    refine mvS 11 (some 16) hHeld ?_
    refine mvS 12 (some 17) hHeld ?_
    refine mvS 13 (some 18) hHeld ?_
    refine mvS 14 (some 19) hHeld ?_
    refine mvS 15 (some 20) hHeld ?_
    refine mvS 16 (some 21) hHeld ?_
    refine mvR 17 (some 22) hHeld ?_
    refine mvR 18 (some 23) hHeld ?_
    refine mvS 19 (some 24) hHeld ?_
    refine mvS 20 (some 25) hHeld ?_
    refine mvS 21 (some 26) hHeld ?_
    refine mvS 22 (some 27) hHeld ?_
    refine mvS 23 (some 28) hHeld ?_
    refine mvS 24 (some 29) hHeld ?_
    refine mvS 25 (some 30) hHeld ?_
    refine mvS 26 (some 31) hHeld ?_
    refine mvS 27 (some 32) hHeld ?_
    refine mvS 28 (some 33) hHeld ?_
    refine mvS 29 (some 34) hHeld ?_
    refine mvS 30 (some 35) hHeld ?_
    refine mvR 31 (some 36) hHeld ?_
    refine wpAnyH_done (by kernel_rfl) ?_ _
    refine NoPanic.normal ?_
    have S1 := hHeld.2
    clear hHeld
    go_wp2
    go_ret
    exact ⟨ret_bool (by simp), S1⟩
  · rw [hq] at CL
    have HQ := hide hq
    clear hq
    by_cases h3 : gs.length = 3
    rotate_left
    · have HF := hide (HGL.out h3)
      have hne : ((gs.length : Int) != 3) = true := by simp; omega
      clear h3 HGL
      go_enter Tryz.func110, Tryz.ntmps110
      go_wp2_with fail
      refine wp_region_noPanic ?_
      refine wp_region_held_drew (S := (fun w' => (w'.cell? ⟨C, 0, none⟩ = some (.slice ca ns.length cc) ∧ w'.cell? ⟨C, 1, none⟩ = some (.int .i64 (m : Int)) ∧ w'.cell? ⟨C, 2, none⟩ = some (.int .i64 ck) ∧ w'.cell? ⟨C, 3, none⟩ = some (.slice la log.length lc) ∧ w'.cell? ⟨C, 4, none⟩ = some (.slice ga gs.length gc) ∧ w'.cell? ⟨C, 5, none⟩ = some (.bool fell)) ∧ Below w.heap.size w w')) (by kernel_rfl) (by exact ⟨(hcs.out _ (Below.refl _ _).drew).six.1, (Below.refl _ _).drew⟩) (fun hHeld => ?_)
      refine mvR 0 (some 5) hHeld ?_
      refine mvR 1 (some 6) hHeld ?_
      refine mvR 2 (some 7) hHeld ?_
      refine mvR 3 (some 8) hHeld ?_
      refine mvR 4 (some 9) hHeld ?_
      refine mvR 5 (some 10) hHeld ?_
      refine mvR 6 (some 11) hHeld ?_
      refine mvR 7 (some 12) hHeld ?_
      refine take_one 8 (by kernel_rfl) rfl (fun K hK => ?_)
      go_simp
      ((with_reducible refine (CL.out _ hHeld.2).mono ?_); rintro e w3 ⟨rfl, hb⟩)
      try go_wp2_with fail
      refine hK.out _ _ (by exact ⟨(hcs.out _ (hHeld.2.trans (hb.mono hHeld.2.size))).six.1, hHeld.2.trans (hb.mono hHeld.2.size)⟩) (fun hHeld => ?_)
      clear hK K
      refine mvR 9 (some 14) hHeld ?_
      refine mvR 10 (some 15) hHeld ?_
      refine mvR 11 (some 16) hHeld ?_
      refine mvR 12 (some 17) hHeld ?_
      refine mvR 13 (some 18) hHeld ?_
      refine mvR 14 (some 19) hHeld ?_
      refine mvR 15 (some 20) hHeld ?_
      refine mvR 16 (some 21) hHeld ?_
      refine mvR 17 (some 22) hHeld ?_
      refine mvR 18 (some 23) hHeld ?_
      refine mvS 19 (some 24) hHeld ?_
      refine mvS 20 (some 25) hHeld ?_
      refine mvS 21 (some 26) hHeld ?_
      refine mvS 22 (some 27) hHeld ?_
      refine mvS 23 (some 28) hHeld ?_
      refine mvS 24 (some 29) hHeld ?_
      refine mvS 25 (some 30) hHeld ?_
      refine mvS 26 (some 31) hHeld ?_
      refine mvS 27 (some 32) hHeld ?_
      refine mvS 28 (some 33) hHeld ?_
      refine mvS 29 (some 34) hHeld ?_
      refine mvS 30 (some 35) hHeld ?_
      refine mvR 31 (some 36) hHeld ?_
      refine wpAnyH_done (by kernel_rfl) ?_ _
      refine NoPanic.normal ?_
      have S1 := hHeld.2
      clear hHeld
      go_wp2
      go_ret
      exact ⟨ret_bool (by rw [HF.out]; simp), S1⟩
    · obtain ⟨x, hx⟩ : ∃ x, gs[m]? = some x := ⟨_, List.getElem?_eq_getElem (by omega)⟩
      rcases hw with h0 | ⟨b, off, rfl, hb0, hc⟩
      · rw [h0] at h3; simp at h3
      have HX := hide hx
      have HME := hide (gotB_me hx)
      have HMK := hide (gotB_mk (gs := gs) h3 hx)
      have H3 := hide h3
      rw [h3] at hcs
      have HC := hide hc
      have HCM : Hid (∀ W, Below w.heap.size w W → W.cell? ⟨b, off + m, none⟩ = some (.slice x.a x.vs.length x.c)) := fun W hW => (hW.cell (p := ⟨b, off + m, none⟩) hb0).trans (hc m x hx).1
      have i1 : (0 : Int) ≤ (m : Int) := by omega
      have i2 : (m : Int) < 3 := by omega
      clear hx hc HGL h3
      by_cases h0 : x.vs.length = 0
      rotate_left
      · have HF := hide (HME.out h0)
        have hne : ((x.vs.length : Int) != 0) = true := by simpa using h0
        clear h0 HMK
        go_enter Tryz.func110, Tryz.ntmps110
        go_wp2_with fail
        refine wp_region_noPanic ?_
        refine wp_region_held_drew (S := (fun w' => (w'.cell? ⟨C, 0, none⟩ = some (.slice ca ns.length cc) ∧ w'.cell? ⟨C, 1, none⟩ = some (.int .i64 (m : Int)) ∧ w'.cell? ⟨C, 2, none⟩ = some (.int .i64 ck) ∧ w'.cell? ⟨C, 3, none⟩ = some (.slice la log.length lc) ∧ w'.cell? ⟨C, 4, none⟩ = some (.slice (some ⟨b, off, none⟩) 3 gc) ∧ w'.cell? ⟨C, 5, none⟩ = some (.bool fell)) ∧ w'.cell? ⟨b, off + m, none⟩ = some (.slice x.a x.vs.length x.c) ∧ Below w.heap.size w w')) (by kernel_rfl) (by exact ⟨(hcs.out _ (Below.refl _ _).drew).six.1, HCM.out _ (Below.refl _ _).drew, (Below.refl _ _).drew⟩) (fun hHeld => ?_)
        refine mvR 0 (some 5) hHeld ?_
        refine mvR 1 (some 6) hHeld ?_
        refine mvR 2 (some 7) hHeld ?_
        refine mvR 3 (some 8) hHeld ?_
        refine mvR 4 (some 9) hHeld ?_
        refine mvR 5 (some 10) hHeld ?_
        refine mvR 6 (some 11) hHeld ?_
        refine mvR 7 (some 12) hHeld ?_
        refine take_one 8 (by kernel_rfl) rfl (fun K hK => ?_)
        go_simp
        ((with_reducible refine (CL.out _ hHeld.2.2).mono ?_); rintro e w3 ⟨rfl, hb⟩)
        try go_wp2_with fail
        refine hK.out _ _ (by exact ⟨(hcs.out _ (hHeld.2.2.trans (hb.mono hHeld.2.2.size))).six.1, HCM.out _ (hHeld.2.2.trans (hb.mono hHeld.2.2.size)), hHeld.2.2.trans (hb.mono hHeld.2.2.size)⟩) (fun hHeld => ?_)
        clear hK K
        refine mvR 9 (some 14) hHeld ?_
        refine mvR 10 (some 15) hHeld ?_
        refine mvR 11 (some 16) hHeld ?_
        refine mvR 12 (some 17) hHeld ?_
        refine mvR 13 (some 18) hHeld ?_
        refine mvR 14 (some 19) hHeld ?_
        refine mvR 15 (some 20) hHeld ?_
        refine mvR 16 (some 21) hHeld ?_
        refine mvR 17 (some 22) hHeld ?_
        refine mvR 18 (some 23) hHeld ?_
        refine mvR 19 (some 24) hHeld ?_
        refine mvR 20 (some 25) hHeld ?_
        refine mvR 21 (some 26) hHeld ?_
        refine mvR 22 (some 27) hHeld ?_
        refine mvR 23 (some 28) hHeld ?_
        refine mvR 24 (some 29) hHeld ?_
        refine mvR 25 (some 30) hHeld ?_
        refine mvR 26 (some 31) hHeld ?_
        refine mvR 27 (some 32) hHeld ?_
        refine mvR 28 (some 33) hHeld ?_
        refine mvR 29 (some 34) hHeld ?_
        refine mvR 30 (some 35) hHeld ?_
        refine mvR 31 (some 36) hHeld ?_
        refine wpAnyH_done (by kernel_rfl) ?_ _
        refine NoPanic.normal ?_
        have S1 := hHeld.2.2
        clear hHeld
        go_wp2
        go_ret
        exact ⟨ret_bool (by rw [HF.out]; simp), S1⟩
      · have hne : ((x.vs.length : Int) != 0) = false := by simpa using h0
        have HMK2 := hide (HMK.out h0)
        clear h0 HME HMK
        go_enter Tryz.func110, Tryz.ntmps110
        go_wp2_with fail
        refine wp_region_noPanic ?_
        refine wp_region_held_drew (S := (fun w' => (w'.cell? ⟨C, 0, none⟩ = some (.slice ca ns.length cc) ∧ w'.cell? ⟨C, 1, none⟩ = some (.int .i64 (m : Int)) ∧ w'.cell? ⟨C, 2, none⟩ = some (.int .i64 ck) ∧ w'.cell? ⟨C, 3, none⟩ = some (.slice la log.length lc) ∧ w'.cell? ⟨C, 4, none⟩ = some (.slice (some ⟨b, off, none⟩) 3 gc) ∧ w'.cell? ⟨C, 5, none⟩ = some (.bool fell)) ∧ w'.cell? ⟨b, off + m, none⟩ = some (.slice x.a x.vs.length x.c) ∧ Below w.heap.size w w')) (by kernel_rfl) (by exact ⟨(hcs.out _ (Below.refl _ _).drew).six.1, HCM.out _ (Below.refl _ _).drew, (Below.refl _ _).drew⟩) (fun hHeld => ?_)
        refine mvR 0 (some 5) hHeld ?_
        refine mvR 1 (some 6) hHeld ?_
        refine mvR 2 (some 7) hHeld ?_
        refine mvR 3 (some 8) hHeld ?_
        refine mvR 4 (some 9) hHeld ?_
        refine mvR 5 (some 10) hHeld ?_
        refine mvR 6 (some 11) hHeld ?_
        refine mvR 7 (some 12) hHeld ?_
        refine take_one 8 (by kernel_rfl) rfl (fun K hK => ?_)
        go_simp
        ((with_reducible refine (CL.out _ hHeld.2.2).mono ?_); rintro e w3 ⟨rfl, hb⟩)
        try go_wp2_with fail
        refine hK.out _ _ (by exact ⟨(hcs.out _ (hHeld.2.2.trans (hb.mono hHeld.2.2.size))).six.1, HCM.out _ (hHeld.2.2.trans (hb.mono hHeld.2.2.size)), hHeld.2.2.trans (hb.mono hHeld.2.2.size)⟩) (fun hHeld => ?_)
        clear hK K
        refine mvR 9 (some 14) hHeld ?_
        refine mvR 10 (some 15) hHeld ?_
        refine mvR 11 (some 16) hHeld ?_
        refine mvR 12 (some 17) hHeld ?_
        refine mvR 13 (some 18) hHeld ?_
        refine mvR 14 (some 19) hHeld ?_
        refine mvR 15 (some 20) hHeld ?_
        refine mvR 16 (some 21) hHeld ?_
        refine mvR 17 (some 22) hHeld ?_
        refine mvR 18 (some 23) hHeld ?_
        refine mvR 19 (some 24) hHeld ?_
        refine mvR 20 (some 25) hHeld ?_
        refine mvR 21 (some 26) hHeld ?_
        refine mvR 22 (some 27) hHeld ?_
        refine mvR 23 (some 28) hHeld ?_
        refine mvR 24 (some 29) hHeld ?_
        refine mvR 25 (some 30) hHeld ?_
        refine mvR 26 (some 31) hHeld ?_
        refine mvR 27 (some 32) hHeld ?_
        refine mvR 28 (some 33) hHeld ?_
        refine mvR 29 (some 34) hHeld ?_
        refine mvR 30 (some 35) hHeld ?_
        refine mvR 31 (some 36) hHeld ?_
        refine wpAnyH_done (by kernel_rfl) ?_ _
        refine NoPanic.normal ?_
        have S1 := hHeld.2.2
        have q1 := (hcs.out _ S1).six.1
        clear hHeld hne
        go_wp2
        clear q1
        go_loopw [42] (fun i wr => ∃ k : Nat, k ≤ 3 ∧ i = .int .i64 (k : Int) ∧ Hid (∀ (i : Nat) l, i < k → gs[i]? = some l → logB l.vs (i : Int) = true) ∧ Below w.heap.size w wr) (fun i _ => 3 - (intOf i).toNat)
        case atStart => exact ⟨0, by omega, rfl, fun i l hi => absurd hi (by omega), S1⟩
        case round =>
          obtain ⟨k, hk, rfl, hall, hL⟩ := hrel
          clear S1
          by_cases hlt : k < 3
          · obtain ⟨y, hy⟩ : ∃ y, gs[k]? = some y := ⟨_, List.getElem?_eq_getElem (by have := H3.out; omega)⟩
            obtain ⟨hcy, hvy⟩ := HC.out k y hy
            have q0 := (hL.cell (p := ⟨b, off + k, none⟩) hb0).trans hcy
            have CY := hide (logOk_any y.a y.c y.vs (k : Int) wr (HSM.out y (List.mem_of_getElem? hy)).1 (HCAP.out y (List.mem_of_getElem? hy)) (HSM.out y (List.mem_of_getElem? hy)).2 ((hvy.on hL).up hL.size))
            have HYY := hide hy
            have HAT := hide (gotB_at (me := (m : Int)) hy)
            obtain ⟨ya, yc, ys⟩ := y
            simp only at q0 CY HAT
            have j1 : (0 : Int) ≤ (k : Int) := by omega
            have j2 : (k : Int) < 3 := by omega
            clear hcy hvy hy
            go_wp2_with fail
            with_reducible refine CY.out.mono ?_
            rintro e w4 ⟨rfl, hb4⟩
            have hL1 := hL.trans (hb4.mono hL.size)
            clear q0 CY
            cases hq : logB ys (k : Int)
            · have HF := hide (HAT.out hq)
              clear hq
              go_wp2
              go_ret
              exact ⟨ret_bool (by rw [HF.out]; simp), hL1⟩
            · have HA : Hid (∀ (i : Nat) l, i < k + 1 → gs[i]? = some l → logB l.vs (i : Int) = true) := fun i l hi hl => by
                by_cases e : i = k
                · subst e
                  have := HYY.out
                  rw [this] at hl
                  injection hl with hl
                  subst hl
                  exact hq
                · exact hall.out i l (by omega) hl
              clear hq
              go_wp2
              exact ⟨⟨k + 1, by omega, by go_num, HA, hL1⟩, by simp [intOf]; omega⟩
          · have hk3 : k = 3 := by omega
            have HF := hide (HMK2.out (fun i l hi hl => hall.out i l (by omega) hl))
            have hkk : ((k : Nat) : Int) = 3 := by omega
            subst hk3
            clear hlt
            go_wp2
            go_ret
            exact ⟨ret_bool (by rw [HF.out]; rfl), hL⟩
end Go.Proofs.YtnaggcdhimcilaaGreat
/- Contract of whether a place is valid, in the program. Condition: sizes that memory holds. -/
namespace Go.Proofs.YtnaggcdhimcilaaGreat
open Go.RowKit Go.Joins
attribute [local go_sem ↓] Go.wp_at_zero Go.wp_at_succ

theorem plB_me {p : Pl} (h : ¬ (0 ≤ p.me ∧ p.me ≤ 2)) : plB p = false := by unfold plB placeB; rw [decide_eq_false h]; rfl
theorem plB_is {p : Pl} (h : 0 ≤ p.me ∧ p.me ≤ 2) (hc : chainB p.ns = true) : plB p = (clockB p.ck p.ns && causesB p.ns && (logB p.log p.me && gotB p.me (p.gs.map Lg.vs))) := by
  unfold plB placeB
  rw [decide_eq_true h, hc]
  simp [Bool.and_assoc]
theorem plB_chain {p : Pl} (hc : chainB p.ns = false) : plB p = false := by unfold plB placeB; rw [hc]; simp
set_option maxRecDepth 100000 in
set_option maxHeartbeats 4000000 in
theorem implPlaceOk_any (p : Pl) (w : World) (hm : SmP p) (hcap : p.log.length ≤ p.lc ∧ ∀ l ∈ p.gs, l.vs.length ≤ l.c) (hC : Cp w p) :
    Calls Tryz.prog 69 #[.agg (plCells p)] w fun e w' => e = .returned (.bool (plB p)) ∧ Below w.heap.size w w' := by
  have S0 := (Inv.start w).box 36 (plCells p)
  simp only [World.size_alloc] at S0
  have HCH : Hid (∀ W, Below w.heap.size w W → Calls Tryz.prog 65 #[.agg #[.slice p.ca p.ns.length p.cc]] W fun e w' => e = .returned (.bool (chainB p.ns)) ∧ Below W.heap.size W w') := fun W hW => implChainOk_any p.ca p.cc p.ns W hm.1.1 hm.1.2 (hC.1.on hW)
  have HI := hide (plB_is (p := p))
  have HMM := hide (plB_me (p := p))
  have HCC := hide (plB_chain (p := p))
  have P1 : Hid (∀ (C : Nat) (q : Pl) W, q.ca = p.ca → q.ns = p.ns → q.ck = p.ck → Below w.heap.size w W → chainB p.ns = true → Blk W C 73 (ctC q) → Calls Tryz.prog 108 #[.pointer (some ⟨C, 0, none⟩)] W fun e w' => e = .returned (.bool (clockB p.ck p.ns)) ∧ Below W.heap.size W w') := fun C q W e1 e2 e3 hW hc hB => by
    have := clockOk_any C q W hB (by rw [e2]; exact hc) (by rw [e2]; exact hm.1.2) (by rw [e1, e2]; exact hC.1.on hW)
    rwa [e2, e3] at this
  have P2 : Hid (∀ (C : Nat) (q : Pl) W, q.ca = p.ca → q.ns = p.ns → Below w.heap.size w W → chainB p.ns = true → Blk W C 73 (ctC q) → Calls Tryz.prog 109 #[.pointer (some ⟨C, 0, none⟩)] W fun e w' => e = .returned (.bool (causesB p.ns)) ∧ Below W.heap.size W w') := fun C q W e1 e2 hW hc hB => by
    have := pastsOk_any C q W hB (by rw [e2]; exact hc) (by rw [e2]; exact hm.1.2) (by rw [e1, e2]; exact hC.1.on hW)
    rwa [e2] at this
  have P3 : Hid (∀ (C : Nat) (q : Pl) W, q.me = p.me → q.la = p.la → q.lc = p.lc → q.log = p.log → q.ga = p.ga → q.gs = p.gs → Below w.heap.size w W → (0 ≤ p.me ∧ p.me ≤ 2) → Blk W C 73 (ctC q) → Calls Tryz.prog 110 #[.pointer (some ⟨C, 0, none⟩)] W fun e w' => e = .returned (.bool (logB p.log p.me && gotB p.me (p.gs.map Lg.vs))) ∧ Below W.heap.size W w') := fun C q W e1 e2 e3 e4 e5 e6 hW hme hB => by
    have := logsOk_any C q W hB (by rw [e1]; exact hme) (by rw [e4]; exact hm.2.1) (by rw [e6]; exact hm.2.2) (by rw [e4, e3, e6]; exact hcap) (by rw [e2, e4]; exact (hC.2.1.on hW).up hW.size) (by rw [e5, e6]; exact (hC.2.2.on hW).up hW.size)
    rwa [e1, e4, e6] at this
  obtain ⟨me, ck, ca, cc, ns, la, lc, log, ga, gc, gs, fell⟩ := p
  simp only at S0 HCH HI HMM HCC P1 P2 P3
  have q0 := (S0.nth 0 rfl).six
  clear hm hcap hC
  by_cases h1 : me < 0
  · have HF := hide (HMM.out (by omega))
    go_enter Tryz.func69, Tryz.ntmps69
    go_wp2
    go_ret
    exact ⟨ret_bool HF.out.symm, S0.below⟩
  by_cases h2 : me ≥ 3
  · have HF := hide (HMM.out (by omega))
    go_enter Tryz.func69, Tryz.ntmps69
    go_wp2
    go_ret
    exact ⟨ret_bool HF.out.symm, S0.below⟩
  have h22 : ¬ (3 ≤ me) := by omega
  cases hc : chainB ns
  · have HF := hide (HCC.out hc)
    rw [hc] at HCH
    clear hc
    go_enter Tryz.func69, Tryz.ntmps69
    go_wp2_with fail
    with_reducible refine (HCH.out _ S0.below).mono ?_
    rintro e w1 ⟨rfl, hb1⟩
    have S1 := S0.on hb1
    clear S0 q0
    go_wp2
    go_ret
    exact ⟨ret_bool HF.out.symm, S1.below⟩
  · have HF := hide (HI.out (by omega) hc)
    have P1' := hide (fun (C : Nat) W hW hB => P1.out C ⟨me, ck, ca, cc, ns, la, lc, log, ga, gc, gs, false⟩ W rfl rfl rfl hW hc hB)
    have P2' := hide (fun (C : Nat) W hW hB => P2.out C ⟨me, ck, ca, cc, ns, la, lc, log, ga, gc, gs, false⟩ W rfl rfl hW hc hB)
    have P3' := hide (fun (C : Nat) W hW hB => P3.out C ⟨me, ck, ca, cc, ns, la, lc, log, ga, gc, gs, false⟩ W rfl rfl rfl rfl rfl rfl hW (by omega) hB)
    rw [hc] at HCH
    generalize clockB ck ns = x1 at HF P1' P1
    generalize causesB ns = x2 at HF P2' P2
    generalize (logB log me && gotB me (gs.map Lg.vs)) = x3 at HF P3' P3
    clear hc P1 P2 P3 HI HMM HCC
    go_enter Tryz.func69, Tryz.ntmps69
    go_wp2_with fail
    with_reducible refine (HCH.out _ S0.below).mono ?_
    rintro e w1 ⟨rfl, hb1⟩
    have S1 := S0.on hb1
    have q1 := (S1.nth 0 rfl).six
    have I1 := (S1.top).box 73 (ctAt me ck ca ns.length cc la log.length lc ga gs.length gc false)
    clear S0 q0 HCH
    go_wp2_with fail
    generalize w1.alloc (.cells (ctAt me ck ca ns.length cc la log.length lc ga gs.length gc false) 73) = W at I1 ⊢
    with_reducible refine (P1'.out _ W I1.below (I1.nth 0 rfl)).mono ?_
    rintro e w2 ⟨rfl, hb2⟩
    have I2 := I1.on hb2
    clear I1 S1 q1
    cases x1
    · go_wp2
      go_ret
      exact ⟨ret_bool (by rw [HF.out]; rfl), I2.below⟩
    go_wp2_with fail
    with_reducible refine (P2'.out _ w2 I2.below (I2.nth 0 rfl)).mono ?_
    rintro e w3 ⟨rfl, hb3⟩
    have I3 := I2.on hb3
    clear I2
    cases x2
    · go_wp2
      go_ret
      exact ⟨ret_bool (by rw [HF.out]; rfl), I3.below⟩
    go_wp2_with fail
    with_reducible refine (P3'.out _ w3 I3.below (I3.nth 0 rfl)).mono ?_
    rintro e w4 ⟨rfl, hb4⟩
    have I4 := I3.on hb4
    clear I3
    go_wp2
    go_ret
    exact ⟨ret_bool (by rw [HF.out]; rfl), I4.below⟩
end Go.Proofs.YtnaggcdhimcilaaGreat
