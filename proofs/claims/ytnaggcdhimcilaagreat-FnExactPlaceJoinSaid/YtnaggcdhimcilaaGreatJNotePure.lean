/- What a place records, and what its changes answer, said plainly. No condition. -/
import Derived.Test.YtnaggcdhimcilaaGreatJVerFind
import Derived.Test.YtnaggcdhimcilaaGreatJChainPass
namespace Go.Proofs.YtnaggcdhimcilaaGreat
open Go.RowKit Go.Joins

/-- Whether a version is to be recorded: it is one, of this place, and not there. -/
def noteB (me : Int) (l : List V) (v : V) : Bool := decide (0 < v.t) && decide (v.u = me) && !hasB l v.t v.u
def stepNote (me : Int) (l : List V) (v : V) : List V := if noteB me l v = true then l ++ [v] else l
def noteL (me : Int) (l : List V) (vs : List V) : List V := vs.foldl (stepNote me) l
/-- What all nodes have: the store of the last. -/
def tailSS (ns : List Nd) : List V := match ns[ns.length - 1]? with | some n => n.ss | none => []
/-- Whether nothing waits. -/
def stillB (ns : List Nd) : Bool := ns.all fun n => decide (n.ws.length = 0)
/-- A place with other nodes. -/
def chP (p : Pl) (ns : List Nd) : Pl := ⟨p.me, p.ck, p.ca, p.cc, ns, p.la, p.lc, p.log, p.ga, p.gc, p.gs, p.fell⟩
def fellP (p : Pl) (f : Bool) : Pl := ⟨p.me, p.ck, p.ca, p.cc, p.ns, p.la, p.lc, p.log, p.ga, p.gc, p.gs, f⟩
def ckP (p : Pl) (c : Int) : Pl := ⟨p.me, c, p.ca, p.cc, p.ns, p.la, p.lc, p.log, p.ga, p.gc, p.gs, p.fell⟩
/-- A place that has recorded. -/
def noteP (p : Pl) : Pl := ⟨p.me, p.ck, p.ca, p.cc, p.ns, p.la, p.lc, noteL p.me p.log (tailSS p.ns), p.ga, p.gc, p.gs, p.fell && !stillB p.ns⟩
def noP : Pl := ⟨0, 0, none, 0, [], none, 0, [], none, 0, [], false⟩
theorem ll_self (us : List V) : LL us us := ⟨rfl, fun i a b ha hb => by rw [ha] at hb; injection hb with hb; subst hb; exact ⟨rfl, rfl, rfl, rfl, rfl, rfl⟩⟩
theorem nl_self (us : List Nd) : NL us us := ⟨rfl, fun i a b ha hb => by rw [ha] at hb; injection hb with hb; subst hb; exact ⟨rfl, (ll_self _).2, rfl, (ll_self _).2⟩⟩
theorem lls_refl (us : List Lg) : LLs us us := ⟨rfl, fun i a b ha hb => by rw [ha] at hb; injection hb with hb; subst hb; exact ll_self _⟩
theorem lls_trans {a b c : List Lg} (h : LLs a b) (k : LLs b c) : LLs a c := ⟨h.1.trans k.1, fun i x z hx hz => by
  obtain ⟨y, hy, hl⟩ := lls_at h hx
  exact ll_trans hl (k.2 i y z hy hz)⟩
theorem lls_symm {a b : List Lg} (h : LLs a b) : LLs b a := ⟨h.1.symm, fun i x y hx hy => ll_symm (h.2 i y x hy hx)⟩
theorem lp_refl (p : Pl) : LP p p := ⟨rfl, rfl, nl_self _, ll_self _, lls_refl _, rfl⟩
theorem lp_trans {p q r : Pl} (h : LP p q) (k : LP q r) : LP p r := ⟨h.1.trans k.1, h.2.1.trans k.2.1, nl_trans h.2.2.1 k.2.2.1, ll_trans h.2.2.2.1 k.2.2.2.1, lls_trans h.2.2.2.2.1 k.2.2.2.2.1, h.2.2.2.2.2.trans k.2.2.2.2.2⟩
theorem lp_symm {p q : Pl} (h : LP p q) : LP q p := ⟨h.1.symm, h.2.1.symm, nl_symm h.2.2.1, ll_symm h.2.2.2.1, lls_symm h.2.2.2.2.1, h.2.2.2.2.2.symm⟩
/-- A place whose parts are small: of a valid place, or what has recorded since. -/
def FineP (p : Pl) : Prop := FineN p.ns ∧ (p.log.length ≤ 70 ∧ ∀ v ∈ p.log, v.ts.length ≤ 4) ∧ p.gs.length ≤ 3 ∧ ∀ l ∈ p.gs, l.vs.length ≤ 70 ∧ ∀ v ∈ l.vs, v.ts.length ≤ 4
theorem small4_ll {us rs : List V} (h : LL us rs) (hr : rs.length ≤ 70 ∧ ∀ v ∈ rs, v.ts.length ≤ 4) : us.length ≤ 70 ∧ ∀ v ∈ us, v.ts.length ≤ 4 := by
  refine ⟨by rw [h.1]; exact hr.1, fun v hv => ?_⟩
  obtain ⟨i, hi⟩ := List.getElem?_of_mem hv
  obtain ⟨x, hx, hl⟩ := ll_at h hi
  rw [hl.2.2.2.1]
  exact hr.2 x (List.mem_of_getElem? hx)
theorem FineP.like {p r : Pl} (h : LP p r) (hr : FineP r) : FineP p := by
  obtain ⟨-, -, h3, h4, h5, -⟩ := h
  refine ⟨hr.1.like h3, small4_ll h4 hr.2.1, by rw [h5.1]; exact hr.2.2.1, fun l hl => ?_⟩
  obtain ⟨i, hi⟩ := List.getElem?_of_mem hl
  obtain ⟨x, hx, hxl⟩ := lls_at h5 hi
  exact small4_ll hxl (hr.2.2.2 x (List.mem_of_getElem? hx))
theorem FineP.few {p : Pl} (h : FineP p) : FewP p := by
  obtain ⟨h1, h2, h3, h4⟩ := h
  exact ⟨⟨by have := h1.1; omega, h1.small⟩, ⟨by omega, fun v hv => by have := h2.2 v hv; omega⟩, by omega, fun l hl => ⟨by have := (h4 l hl).1; omega, fun v hv => by have := (h4 l hl).2 v hv; omega⟩⟩
theorem wts_small {us : List V} (h : us.length ≤ 70 ∧ ∀ v ∈ us, v.ts.length ≤ 4) : wts us ≤ 910 := by
  have := few_wts us h.2
  omega
theorem wtL_small : ∀ (ls : List Lg), (∀ l ∈ ls, l.vs.length ≤ 70 ∧ ∀ v ∈ l.vs, v.ts.length ≤ 4) → wtL ls ≤ 910 * (ls.length : Int)
  | [], _ => by simp [wtL]
  | l :: r, h => by
    have h1 := wts_small (h l (List.mem_cons_self))
    have h2 := wtL_small r (fun x hx => h x (List.mem_cons_of_mem _ hx))
    unfold wtL at *
    simp only [List.map_cons, List.sum_cons, List.length_cons]
    omega
theorem FineP.wt {p : Pl} (h : FineP p) : (1 : Int) + wtP p ≤ 8388000 ∧ 0 ≤ wtP p := by
  obtain ⟨h1, h2, h3, h4⟩ := h
  have a := h1.wt
  have b := wts_small h2
  have c := wtL_small p.gs h4
  have a' := wtNs_pos p.ns
  have b' := wts_pos p.log
  have c' := wtL_pos p.gs
  unfold wtP
  omega
theorem verV_ts {v : V} (h : verV v = true) : v.ts.length ≤ 4 := few_ver h
theorem logB_fine {us : List V} {p : Int} (h : logB us p = true) : us.length ≤ 60 ∧ ∀ v ∈ us, v.ts.length ≤ 4 := by
  obtain ⟨h1, h2⟩ := logB_parts h
  refine ⟨h1, fun v hv => ?_⟩
  obtain ⟨i, hi⟩ := List.getElem?_of_mem hv
  have := h2 i (List.getElem?_eq_some_iff.1 hi).1
  rw [entryB_at hi, Bool.and_eq_true, Bool.and_eq_true] at this
  exact verV_ts this.1.1
theorem gotB_parts {me : Int} {gs : List Lg} (h : gotB me (gs.map Lg.vs) = true) : gs.length = 3 ∧ ∀ (i : Nat) l, gs[i]? = some l → logB l.vs (i : Int) = true ∧ ((i : Int) = me → l.vs.length = 0) := by
  unfold gotB at h
  rw [Bool.and_eq_true, decide_eq_true_eq, List.length_map, List.all_eq_true] at h
  refine ⟨h.1, fun i l hi => ?_⟩
  have := h.2 i (List.mem_range.2 (List.getElem?_eq_some_iff.1 hi).1)
  rw [List.getElem?_map, hi] at this
  simp only [Option.map_some, Bool.and_eq_true, Bool.or_eq_true, decide_eq_true_eq] at this
  exact ⟨this.1, fun e => by rcases this.2 with h | h; exact absurd e h; exact h⟩
theorem plB_fine {p : Pl} (h : plB p = true) : FineP p ∧ p.log.length ≤ 60 := by
  obtain ⟨-, h2, -, -, h5, h6⟩ := plB_parts h
  obtain ⟨c1, c2, -⟩ := chainB_parts h2
  obtain ⟨l1, l2⟩ := logB_fine h5
  obtain ⟨g1, g2⟩ := gotB_parts h6
  refine ⟨⟨⟨c1.2, c2⟩, ⟨by omega, l2⟩, by omega, fun l hl => ?_⟩, l1⟩
  obtain ⟨i, hi⟩ := List.getElem?_of_mem hl
  obtain ⟨d1, d2⟩ := logB_fine (g2 i l hi).1
  exact ⟨by omega, d2⟩
end Go.Proofs.YtnaggcdhimcilaaGreat
