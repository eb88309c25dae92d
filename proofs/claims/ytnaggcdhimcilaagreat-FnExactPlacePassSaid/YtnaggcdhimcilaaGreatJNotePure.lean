/- What a place records, and what its changes answer, said plainly. No condition. -/
import Derived.Test.YtnaggcdhimcilaaGreatJVerFind
import Derived.Test.YtnaggcdhimcilaaGreatJChainApply2
namespace Go.Proofs.YtnaggcdhimcilaaGreat
open Go.RowKit Go.Joins

/-- Whether a version is to be recorded: it is one, of this place, and not there. -/
def noteB (me : Int) (l : List V) (v : V) : Bool := decide (0 < v.t) && decide (v.u = me) && !hasB l v.t v.u
def stepNote (me : Int) (l : List V) (v : V) : List V := if noteB me l v = true then l ++ [v] else l
def noteL (me : Int) (l : List V) (vs : List V) : List V := vs.foldl (stepNote me) l
theorem noteL_step {me : Int} {l vs : List V} {k : Nat} {v : V} (h : vs[k]? = some v) : noteL me l (vs.take (k + 1)) = stepNote me (noteL me l (vs.take k)) v := by
  unfold noteL
  rw [List.take_add_one, h, List.foldl_append]
  rfl
theorem noteL_all (me : Int) (l vs : List V) : noteL me l (vs.take vs.length) = noteL me l vs := by rw [List.take_length]
theorem hasB_like {us vs : List V} (h : LL us vs) (t u : Int) : hasB us t u = hasB vs t u := any_tag_like h
theorem ll_push {us vs : List V} {x y : V} (h : LL us vs) (hl : V.like x y) : LL (us ++ [x]) (vs ++ [y]) := by
  refine ⟨by simp [h.1], fun i a b ha hb => ?_⟩
  rcases snoc_get rfl i a ha with ⟨e1, e2⟩ | ⟨e, ha⟩ <;> rcases snoc_get rfl i b hb with ⟨e3, e4⟩ | ⟨e', hb⟩
  · rw [e2, e4]; exact hl
  · have := h.1; omega
  · have := h.1; omega
  · exact h.2 i a b ha hb
theorem stepNote_like {me : Int} {l l' : List V} {v v' : V} (h : LL l l') (hv : V.like v v') : LL (stepNote me l v) (stepNote me l' v') := by
  have e : noteB me l v = noteB me l' v' := by unfold noteB; rw [hv.2.1, hv.2.2.1, hasB_like h]
  unfold stepNote
  rw [e]
  split
  · exact ll_push h hv
  · exact h
theorem noteL_like {me : Int} : ∀ {vs vs' l l' : List V}, LL vs vs' → LL l l' → LL (noteL me l vs) (noteL me l' vs')
  | [], [], _, _, _, h => h
  | [], _ :: _, _, _, h, _ => by have := h.1; simp at this
  | _ :: _, [], _, _, h, _ => by have := h.1; simp at this
  | a :: r, b :: r', l, l', h, hl => by
    obtain ⟨h1, h2⟩ := ll_cons h
    show LL (noteL me (stepNote me l a) r) (noteL me (stepNote me l' b) r')
    exact noteL_like h2 (stepNote_like hl h1)
theorem stepNote_len (me : Int) (l : List V) (v : V) : (stepNote me l v).length ≤ l.length + 1 := by
  unfold stepNote
  split
  · simp
  · omega
theorem noteL_len (me : Int) : ∀ (vs l : List V), (noteL me l vs).length ≤ l.length + vs.length
  | [], l => by simp [noteL]
  | v :: r, l => by
    have h1 := noteL_len me r (stepNote me l v)
    have h2 := stepNote_len me l v
    show (noteL me (stepNote me l v) r).length ≤ _
    simp only [List.length_cons]
    omega
theorem noteL_mem (me : Int) : ∀ (vs l : List V) (x : V), x ∈ noteL me l vs → x ∈ l ∨ x ∈ vs
  | [], l, x, h => .inl h
  | v :: r, l, x, h => by
    rcases noteL_mem me r (stepNote me l v) x h with h | h
    · unfold stepNote at h
      split at h
      · rcases List.mem_append.1 h with h | h
        · exact .inl h
        · exact .inr (by rw [List.mem_singleton.1 h]; exact List.mem_cons_self)
      · exact .inl h
    · exact .inr (List.mem_cons_of_mem _ h)
/-- What all nodes have: the store of the last. -/
def tailSS (ns : List Nd) : List V := match ns[ns.length - 1]? with | some n => n.ss | none => []
theorem tailSS_is {ns : List Nd} {p : Nat} {n : Nd} (hp : ns.length = p + 1) (hn : ns[p]? = some n) : tailSS ns = n.ss := by unfold tailSS; rw [hp, Nat.add_sub_cancel, hn]
theorem tailSS_like {ns us : List Nd} (h : NL ns us) : LL (tailSS ns) (tailSS us) := by
  unfold tailSS
  rw [h.1]
  cases hx : ns[us.length - 1]? with
  | none => rw [nl_none h hx]; exact ⟨rfl, fun i a b ha _ => by simp at ha⟩
  | some n =>
    obtain ⟨m, hm, hl⟩ := nl_at h hx
    rw [hm]
    exact ⟨hl.1, hl.2.1⟩
/-- Whether nothing waits. -/
def stillB (ns : List Nd) : Bool := ns.all fun n => decide (n.ws.length = 0)
theorem stillB_like {ns us : List Nd} (h : NL ns us) : stillB ns = stillB us := by
  unfold stillB
  rw [Bool.eq_iff_iff, List.all_eq_true, List.all_eq_true]
  constructor
  · intro hx y hy
    obtain ⟨i, hi⟩ := List.getElem?_of_mem hy
    obtain ⟨x, hxi, hl⟩ := nl_at (nl_symm h) hi
    rw [hl.2.2.1]
    exact hx x (List.mem_of_getElem? hxi)
  · intro hx y hy
    obtain ⟨i, hi⟩ := List.getElem?_of_mem hy
    obtain ⟨x, hxi, hl⟩ := nl_at h hi
    rw [hl.2.2.1]
    exact hx x (List.mem_of_getElem? hxi)
/-- A place with other nodes. -/
def chP (p : Pl) (ns : List Nd) : Pl := ⟨p.me, p.ck, p.ca, p.cc, ns, p.la, p.lc, p.log, p.ga, p.gc, p.gs, p.fell⟩
def fellP (p : Pl) (f : Bool) : Pl := ⟨p.me, p.ck, p.ca, p.cc, p.ns, p.la, p.lc, p.log, p.ga, p.gc, p.gs, f⟩
def ckP (p : Pl) (c : Int) : Pl := ⟨p.me, c, p.ca, p.cc, p.ns, p.la, p.lc, p.log, p.ga, p.gc, p.gs, p.fell⟩
/-- A place that has recorded. -/
def noteP (p : Pl) : Pl := ⟨p.me, p.ck, p.ca, p.cc, p.ns, p.la, p.lc, noteL p.me p.log (tailSS p.ns), p.ga, p.gc, p.gs, p.fell && !stillB p.ns⟩
def noP : Pl := ⟨0, 0, none, 0, [], none, 0, [], none, 0, [], false⟩
theorem ll_self (us : List V) : LL us us := ⟨rfl, fun i a b ha hb => by rw [ha] at hb; injection hb with hb; subst hb; exact ⟨rfl, rfl, rfl, rfl, rfl, rfl⟩⟩
theorem nl_self (us : List Nd) : NL us us := ⟨rfl, fun i a b ha hb => by rw [ha] at hb; injection hb with hb; subst hb; exact ⟨rfl, (ll_self _).2, rfl, (ll_self _).2⟩⟩
theorem lls_refl (us : List Lg) : LLs us us := ⟨rfl, fun i a b ha hb => by rw [ha] at hb; injection hb with hb; subst hb; exact ll_self _⟩
theorem lls_trans {a b c : List Lg} (h : LLs a b) (k : LLs b c) : LLs a c := ⟨h.1.trans k.1, fun i x z hx hz => by
  obtain ⟨y, hy, hl⟩ := lls_at h hx
  exact ll_trans hl (k.2 i y z hy hz)⟩
theorem lls_symm {a b : List Lg} (h : LLs a b) : LLs b a := ⟨h.1.symm, fun i x y hx hy => ll_symm (h.2 i y x hy hx)⟩
theorem lp_refl (p : Pl) : LP p p := ⟨rfl, rfl, nl_self _, ll_self _, lls_refl _, rfl⟩
theorem lp_trans {p q r : Pl} (h : LP p q) (k : LP q r) : LP p r := ⟨h.1.trans k.1, h.2.1.trans k.2.1, nl_trans h.2.2.1 k.2.2.1, ll_trans h.2.2.2.1 k.2.2.2.1, lls_trans h.2.2.2.2.1 k.2.2.2.2.1, h.2.2.2.2.2.trans k.2.2.2.2.2⟩
theorem lp_symm {p q : Pl} (h : LP p q) : LP q p := ⟨h.1.symm, h.2.1.symm, nl_symm h.2.2.1, ll_symm h.2.2.2.1, lls_symm h.2.2.2.2.1, h.2.2.2.2.2.symm⟩
theorem noteP_like {p q : Pl} (h : LP p q) : LP (noteP p) (noteP q) := by
  obtain ⟨h1, h2, h3, h4, h5, h6⟩ := h
  refine ⟨h1, h2, h3, ?_, h5, ?_⟩
  · show LL (noteL p.me p.log (tailSS p.ns)) (noteL q.me q.log (tailSS q.ns))
    rw [h1]
    exact noteL_like (tailSS_like h3) h4
  · show (p.fell && !stillB p.ns) = (q.fell && !stillB q.ns)
    rw [h6, stillB_like h3]
/-- A place whose parts are small: of a valid place, or what has recorded since. -/
def FineP (p : Pl) : Prop := FineN p.ns ∧ (p.log.length ≤ 70 ∧ ∀ v ∈ p.log, v.ts.length ≤ 4) ∧ p.gs.length ≤ 3 ∧ ∀ l ∈ p.gs, l.vs.length ≤ 70 ∧ ∀ v ∈ l.vs, v.ts.length ≤ 4
theorem small4_ll {us rs : List V} (h : LL us rs) (hr : rs.length ≤ 70 ∧ ∀ v ∈ rs, v.ts.length ≤ 4) : us.length ≤ 70 ∧ ∀ v ∈ us, v.ts.length ≤ 4 := by
  refine ⟨by rw [h.1]; exact hr.1, fun v hv => ?_⟩
  obtain ⟨i, hi⟩ := List.getElem?_of_mem hv
  obtain ⟨x, hx, hl⟩ := ll_at h hi
  rw [hl.2.2.2.1]
  exact hr.2 x (List.mem_of_getElem? hx)
theorem FineP.like {p r : Pl} (h : LP p r) (hr : FineP r) : FineP p := by
  obtain ⟨-, -, h3, h4, h5, -⟩ := h
  refine ⟨hr.1.like h3, small4_ll h4 hr.2.1, by rw [h5.1]; exact hr.2.2.1, fun l hl => ?_⟩
  obtain ⟨i, hi⟩ := List.getElem?_of_mem hl
  obtain ⟨x, hx, hxl⟩ := lls_at h5 hi
  exact small4_ll hxl (hr.2.2.2 x (List.mem_of_getElem? hx))
theorem FineP.few {p : Pl} (h : FineP p) : FewP p := by
  obtain ⟨h1, h2, h3, h4⟩ := h
  exact ⟨⟨by have := h1.1; omega, h1.small⟩, ⟨by omega, fun v hv => by have := h2.2 v hv; omega⟩, by omega, fun l hl => ⟨by have := (h4 l hl).1; omega, fun v hv => by have := (h4 l hl).2 v hv; omega⟩⟩
theorem wts_small {us : List V} (h : us.length ≤ 70 ∧ ∀ v ∈ us, v.ts.length ≤ 4) : wts us ≤ 910 := by
  have := few_wts us h.2
  omega
theorem wtL_small : ∀ (ls : List Lg), (∀ l ∈ ls, l.vs.length ≤ 70 ∧ ∀ v ∈ l.vs, v.ts.length ≤ 4) → wtL ls ≤ 910 * (ls.length : Int)
  | [], _ => by simp [wtL]
  | l :: r, h => by
    have h1 := wts_small (h l (List.mem_cons_self))
    have h2 := wtL_small r (fun x hx => h x (List.mem_cons_of_mem _ hx))
    unfold wtL at *
    simp only [List.map_cons, List.sum_cons, List.length_cons]
    omega
theorem FineP.wt {p : Pl} (h : FineP p) : (1 : Int) + wtP p ≤ 8388000 ∧ 0 ≤ wtP p := by
  obtain ⟨h1, h2, h3, h4⟩ := h
  have a := h1.wt
  have b := wts_small h2
  have c := wtL_small p.gs h4
  have a' := wtNs_pos p.ns
  have b' := wts_pos p.log
  have c' := wtL_pos p.gs
  unfold wtP
  omega
theorem verV_ts {v : V} (h : verV v = true) : v.ts.length ≤ 4 := few_ver h
theorem logB_fine {us : List V} {p : Int} (h : logB us p = true) : us.length ≤ 60 ∧ ∀ v ∈ us, v.ts.length ≤ 4 := by
  obtain ⟨h1, h2⟩ := logB_parts h
  refine ⟨h1, fun v hv => ?_⟩
  obtain ⟨i, hi⟩ := List.getElem?_of_mem hv
  have := h2 i (List.getElem?_eq_some_iff.1 hi).1
  rw [entryB_at hi, Bool.and_eq_true, Bool.and_eq_true] at this
  exact verV_ts this.1.1
theorem gotB_parts {me : Int} {gs : List Lg} (h : gotB me (gs.map Lg.vs) = true) : gs.length = 3 ∧ ∀ (i : Nat) l, gs[i]? = some l → logB l.vs (i : Int) = true ∧ ((i : Int) = me → l.vs.length = 0) := by
  unfold gotB at h
  rw [Bool.and_eq_true, decide_eq_true_eq, List.length_map, List.all_eq_true] at h
  refine ⟨h.1, fun i l hi => ?_⟩
  have := h.2 i (List.mem_range.2 (List.getElem?_eq_some_iff.1 hi).1)
  rw [List.getElem?_map, hi] at this
  simp only [Option.map_some, Bool.and_eq_true, Bool.or_eq_true, decide_eq_true_eq] at this
  exact ⟨this.1, fun e => by rcases this.2 with h | h; exact absurd e h; exact h⟩
theorem plB_fine {p : Pl} (h : plB p = true) : FineP p ∧ p.log.length ≤ 60 := by
  obtain ⟨-, h2, -, -, h5, h6⟩ := plB_parts h
  obtain ⟨c1, c2, -⟩ := chainB_parts h2
  obtain ⟨l1, l2⟩ := logB_fine h5
  obtain ⟨g1, g2⟩ := gotB_parts h6
  refine ⟨⟨⟨c1.2, c2⟩, ⟨by omega, l2⟩, by omega, fun l hl => ?_⟩, l1⟩
  obtain ⟨i, hi⟩ := List.getElem?_of_mem hl
  obtain ⟨d1, d2⟩ := logB_fine (g2 i l hi).1
  exact ⟨by omega, d2⟩
theorem noteP_fine {p : Pl} (h : FineP p) (hl : p.log.length ≤ 60) (ht : (tailSS p.ns).length ≤ 4 ∧ ∀ v ∈ tailSS p.ns, v.ts.length ≤ 4) : FineP (noteP p) := by
  refine ⟨h.1, ⟨?_, fun v hv => ?_⟩, h.2.2.1, h.2.2.2⟩
  · have := noteL_len p.me (tailSS p.ns) p.log
    show (noteL p.me p.log (tailSS p.ns)).length ≤ 70
    omega
  · rcases noteL_mem p.me (tailSS p.ns) p.log v hv with h1 | h1
    · exact h.2.1.2 v h1
    · exact ht.2 v h1
theorem tailSS_fine {ns : List Nd} (h : FineN ns) : (tailSS ns).length ≤ 4 ∧ ∀ v ∈ tailSS ns, v.ts.length ≤ 4 := by
  unfold tailSS
  cases hx : ns[ns.length - 1]? with
  | none => simp
  | some n =>
    have := (node_ts (h.2 _ n hx)).1
    exact ⟨by show n.ss.length ≤ 4; omega, this.2⟩
end Go.Proofs.YtnaggcdhimcilaaGreat
