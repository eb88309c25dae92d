/- A valid chain without a node is valid; what its nodes had they have; what all nodes have is no less. No condition. -/
import Derived.Test.YtnaggcdhimcilaaGreatJFall
import Derived.Test.YtnaggcdhimcilaaGreatJNotePure
import Derived.Test.YtnaggcdhimcilaaGreatJAppendMore
import Derived.Sort.Statements
import Derived.Shelf.SlSortCmp.Insertion
import Derived.Sort.Grow
import Derived.Test.YtnaggcdhimcilaaGreatJLogRow
import Derived.Shelf.SlSortCmp.SmallK
import Derived.Shelf.SlSortCmp.NoneTotal
import Derived.Shelf.Small.Bits
import Derived.Test.YtnaggcdhimcilaaGreatJChainRow
namespace Go.Proofs.YtnaggcdhimcilaaGreat
open Go.RowKit Go.Joins

/-- Slots that are nowhere earlier than others. -/
def Above (xs ys : List V) : Prop := xs.length = ys.length ∧ ∀ (i : Nat) x y, xs[i]? = some x → ys[i]? = some y → V.like x y ∨ lessB y.t y.u x.t x.u = true
theorem lessB_chain {a b c d e f : Int} (h : lessB a b c d = true) (k : lessB c d e f = true) : lessB a b e f = true := by
  unfold lessB at *
  simp only [decide_eq_true_eq] at *
  omega
theorem above_refl (xs : List V) : Above xs xs := ⟨rfl, fun i x y hx hy => by
  rw [hx] at hy
  injection hy with hy
  exact .inl (hy ▸ vlike_refl _)⟩
theorem above_trans {xs ys zs : List V} (h : Above xs ys) (k : Above ys zs) : Above xs zs := ⟨h.1.trans k.1, fun i x z hx hz => by
  obtain ⟨y, hy⟩ : ∃ y, ys[i]? = some y := ⟨_, List.getElem?_eq_getElem (by rw [k.1]; exact (List.getElem?_eq_some_iff.1 hz).1)⟩
  rcases h.2 i x y hx hy with q | q <;> rcases k.2 i y z hy hz with r | r
  · exact .inl (vlike_trans q r)
  · exact .inr (by rw [q.2.1, q.2.2.1]; exact r)
  · exact .inr (by rw [← r.2.1, ← r.2.2.1]; exact q)
  · exact .inr (lessB_chain r q)⟩
theorem above_like {xs xs' ys : List V} (h : Above xs ys) (hl : LL xs xs') : Above xs' ys := ⟨hl.1.symm.trans h.1, fun i x y hx hy => by
  obtain ⟨x0, hx0, q⟩ := ll_at (ll_symm hl) hx
  rcases h.2 i x0 y hx0 hy with r | r
  · exact .inl (vlike_trans q r)
  · exact .inr (by rw [q.2.1, q.2.2.1]; exact r)⟩
theorem step_above {ms us : List V} {v : V} (h : stepL ms v = some us) : Above us ms := by
  unfold stepL at h
  split at h
  · rename_i x hx
    split at h
    · rename_i hb
      injection h with h
      subst h
      refine ⟨by rw [List.length_set], fun i a b ha hb' => ?_⟩
      rcases set_at ha with ⟨rfl, rfl, _⟩ | ⟨_, q⟩
      · rw [hx] at hb'
        injection hb' with hb'
        subst hb'
        exact .inr hb
      · rw [q] at hb'
        injection hb' with hb'
        exact .inl (hb' ▸ vlike_refl _)
    · cases h
  · cases h
theorem walk_above : ∀ {ws ms us : List V}, walkL ms ws = some us → Above us ms
  | [], ms, us, h => by
    have e : ms = us := by unfold walkL at h; simpa using h
    rw [e]
    exact above_refl _
  | v :: r, ms, us, h => by
    rw [walkL_cons] at h
    cases hs : stepL ms v with
    | none => rw [hs] at h; cases h
    | some ss =>
      rw [hs] at h
      exact above_trans (walk_above (ws := r) h) (step_above hs)
theorem link_above {n m : Nd} (h : linkB n m = true) : Above n.ss m.ss := by
  obtain ⟨us, hu, hl⟩ := linkB_parts h
  exact above_like (walk_above hu) hl
/-- Along a chain. -/
theorem chain_above {ns : List Nd} (h : chainB ns = true) : ∀ (d i : Nat) (n m : Nd), ns[i]? = some n → ns[i + d]? = some m → Above n.ss m.ss
  | 0, i, n, m, hn, hm => by
    rw [Nat.add_zero, hn] at hm
    injection hm with hm
    rw [hm]
    exact above_refl _
  | d + 1, i, n, m, hn, hm => by
    obtain ⟨x, hx⟩ : ∃ x, ns[i + d]? = some x := ⟨_, List.getElem?_eq_getElem (by have := (List.getElem?_eq_some_iff.1 hm).1; omega)⟩
    exact above_trans (chain_above h d i n x hn hx) (link_above (chain_link h hx hm))
/-- Versions of different keys, each later than what is there, all come in. -/
theorem walk_keys : ∀ (ws ys : List V), (∀ v ∈ ws, ∃ y, ys[v.k.toNat]? = some y ∧ lessB y.t y.u v.t v.u = true) → ws.Pairwise (fun a b => a.k.toNat ≠ b.k.toNat) →
    ∃ us, walkL ys ws = some us ∧ us.length = ys.length ∧ ∀ (i : Nat) u, us[i]? = some u → (∃ v ∈ ws, v.k.toNat = i ∧ u = v) ∨ ((∀ v ∈ ws, v.k.toNat ≠ i) ∧ ys[i]? = some u)
  | [], ys, _, _ => ⟨ys, rfl, rfl, fun i u hu => .inr ⟨fun v hv => (by simp at hv), hu⟩⟩
  | v :: r, ys, h, hp => by
    obtain ⟨hv, hr⟩ := List.pairwise_cons.1 hp
    obtain ⟨y, hy, hb⟩ := h v (List.mem_cons_self ..)
    have hs : stepL ys v = some (ys.set v.k.toNat v) := by unfold stepL; rw [hy]; simp only; rw [if_pos hb]
    obtain ⟨us, h1, h2, h3⟩ := walk_keys r (ys.set v.k.toNat v) (fun x hx => by
      obtain ⟨z, hz, hzb⟩ := h x (List.mem_cons_of_mem _ hx)
      exact ⟨z, by rw [List.getElem?_set_ne (hv x hx)]; exact hz, hzb⟩) hr
    refine ⟨us, by rw [walkL_cons, hs]; exact h1, by rw [h2, List.length_set], fun i u hu => ?_⟩
    rcases h3 i u hu with ⟨x, hx, e1, e2⟩ | ⟨hn, hq⟩
    · exact .inl ⟨x, List.mem_cons_of_mem _ hx, e1, e2⟩
    · rcases set_at hq with ⟨e, e2, _⟩ | ⟨e, hq⟩
      · exact .inl ⟨v, List.mem_cons_self .., e.symm, e2⟩
      · refine .inr ⟨fun x hx => ?_, hq⟩
        rcases List.mem_cons.1 hx with rfl | hx
        · exact fun q => e q.symm
        · exact hn x hx
theorem insL_perm (us : List V) (v : V) : (insL us v).Perm (v :: us) := by
  unfold insL
  refine List.perm_middle.trans ?_
  rw [List.takeWhile_append_dropWhile]
theorem lack_in {xs ys : List V} : ∀ (i : Nat) v, v ∈ lackN xs ys i → ∃ j, j < i ∧ xs[j]? = some v ∧ ∃ y, ys[j]? = some y ∧ lessB y.t y.u v.t v.u = true
  | 0, v, h => by simp [lackN] at h
  | i + 1, v, h => by
    have low : v ∈ lackN xs ys i → ∃ j, j < i + 1 ∧ xs[j]? = some v ∧ ∃ y, ys[j]? = some y ∧ lessB y.t y.u v.t v.u = true := fun q => by
      obtain ⟨j, hj, q⟩ := lack_in i v q
      exact ⟨j, by omega, q⟩
    unfold lackN at h
    split at h
    · rename_i x y hx hy
      split at h
      · rename_i hb
        rcases List.mem_cons.1 ((insL_perm _ _).mem_iff.1 h) with rfl | h
        · exact ⟨i, by omega, hx, y, hy, hb⟩
        · exact low h
      · exact low h
    · exact low h
theorem lack_has {xs ys : List V} {j : Nat} {x y : V} (hx : xs[j]? = some x) (hy : ys[j]? = some y) (hb : lessB y.t y.u x.t x.u = true) : ∀ (i : Nat), j < i → x ∈ lackN xs ys i
  | 0, h => by omega
  | i + 1, h => by
    by_cases e : j = i
    · subst e
      rw [lackN_yes hx hy hb]
      exact (insL_perm _ _).mem_iff.2 (List.mem_cons_self ..)
    · have ih := lack_has hx hy hb i (by omega)
      unfold lackN
      split
      · split
        · exact (insL_perm _ _).mem_iff.2 (List.mem_cons_of_mem _ ih)
        · exact ih
      · exact ih
theorem late_slot {i : Nat} {v y : V} (hv : slotB i v = true) {j : Nat} (hy : slotB j y = true) (hb : lessB y.t y.u v.t v.u = true) : 0 < v.t := by
  apply Classical.byContradiction
  intro hn
  obtain ⟨_, h1, h2⟩ := slot_late hv hn
  have := slot_ge hy
  rw [h1, h2] at hb
  rw [hb] at this
  cases this
theorem lack_key {xs ys : List V} (hx : storeB xs = true) (hy : storeB ys = true) {i : Nat} {v y : V} (h1 : xs[i]? = some v) (h2 : ys[i]? = some y) (hb : lessB y.t y.u v.t v.u = true) : v.k.toNat = i ∧ verV v = true := by
  have ht := late_slot (store_slot hx h1) (store_slot hy h2) hb
  have hk := slot_own (store_slot hx h1) ht
  refine ⟨by rw [hk]; simp, ?_⟩
  have hs := store_slot hx h1
  rw [slotB_ver (noneC_f (.inr (.inl (by omega)))) hk] at hs
  exact hs
theorem lack_pair {xs ys : List V} (hx : storeB xs = true) (hy : storeB ys = true) : ∀ i, (lackN xs ys i).Pairwise (fun a b => a.k.toNat ≠ b.k.toNat)
  | 0 => List.Pairwise.nil
  | i + 1 => by
    have ih := lack_pair hx hy i
    unfold lackN
    split
    · rename_i x y h1 h2
      split
      · rename_i hb
        refine (List.Perm.pairwise_iff (fun q => Ne.symm q) (insL_perm _ _)).2 (List.pairwise_cons.2 ⟨fun v hv => ?_, ih⟩)
        obtain ⟨j, hj, q1, z, q2, q3⟩ := lack_in i v hv
        rw [(lack_key hx hy h1 h2 hb).1, (lack_key hx hy q1 q2 q3).1]
        omega
      · exact ih
    · exact ih
/-- What a node lacks, when it comes, makes it what the other one is. -/
theorem lack_walk {xs ys : List V} (hx : storeB xs = true) (hy : storeB ys = true) (h : Above xs ys) : ∃ us, walkL ys (lackN xs ys 4) = some us ∧ LL us xs := by
  have h4 := storeB_four hx
  obtain ⟨us, h1, h2, h3⟩ := walk_keys (lackN xs ys 4) ys (fun v hv => by
    obtain ⟨j, hj, q1, z, q2, q3⟩ := lack_in 4 v hv
    rw [(lack_key hx hy q1 q2 q3).1]
    exact ⟨z, q2, q3⟩) (lack_pair hx hy 4)
  refine ⟨us, h1, by rw [h2]; exact h.1.symm, fun i u x hu hxi => ?_⟩
  rcases h3 i u hu with ⟨v, hv, e1, rfl⟩ | ⟨hn, hq⟩
  · obtain ⟨j, hj, q1, z, q2, q3⟩ := lack_in 4 u hv
    have := (lack_key hx hy q1 q2 q3).1
    have e : j = i := by omega
    subst e
    rw [q1] at hxi
    injection hxi with hxi
    exact hxi ▸ vlike_refl _
  · rcases h.2 i x u hxi hq with q | q
    · exact vlike_symm q
    · have hi := (List.getElem?_eq_some_iff.1 hxi).1
      exact absurd (lack_key hx hy hxi hq q).1 (hn x (lack_has hxi hq q 4 (by omega)))
theorem lack_ok {n m : Nd} (hn : nodeB n = true) (hm : storeB m.ss = true) : nodeB (lackNd n m) = true := by
  obtain ⟨h1, _, _⟩ := nodeB_parts hn
  refine nodeB_mk h1 ?_ (fun i v hi => ?_)
  · have := lackN_len n.ss m.ss 4
    show (lackN n.ss m.ss 4).length ≤ 6
    omega
  · obtain ⟨j, hj, q1, z, q2, q3⟩ := lack_in 4 v (List.mem_of_getElem? hi)
    exact (lack_key h1 hm q1 q2 q3).2
/-- What stands where in a chain without a node. -/
theorem fall_at {ns : List Nd} {k i : Nat} {x : Nd} (hk : k < ns.length) (hx : (fallG ns k)[i]? = some x) : ∃ y, (ns.eraseIdx k)[i]? = some y ∧ x.ss = y.ss ∧
    ((i + 1 + 1 = ns.length ∧ x = bare ⟨y.sa, y.sc, y.ss, x.wa, x.wc, x.ws⟩) ∨ (i + 1 + 1 ≠ ns.length ∧ i + 1 = k ∧ ∃ m, (ns.eraseIdx k)[k]? = some m ∧ x = lackNd y m) ∨ (i + 1 + 1 ≠ ns.length ∧ i + 1 ≠ k ∧ x = y)) := by
  have hl := erase_len hk
  unfold fallG at hx
  have ho : ∀ z, (owedN (ns.eraseIdx k) k)[i]? = some z → ∃ y, (ns.eraseIdx k)[i]? = some y ∧ ((i + 1 = k ∧ k + 1 < ns.length ∧ ∃ m, (ns.eraseIdx k)[k]? = some m ∧ z = lackNd y m) ∨ (¬ (i + 1 = k ∧ k + 1 < ns.length) ∧ z = y)) := fun z hz => by
    by_cases hc : 0 < k ∧ k < (ns.eraseIdx k).length
    · obtain ⟨n, hn⟩ : ∃ n, (ns.eraseIdx k)[k - 1]? = some n := ⟨_, List.getElem?_eq_getElem (by omega)⟩
      obtain ⟨m, hm⟩ : ∃ m, (ns.eraseIdx k)[k]? = some m := ⟨_, List.getElem?_eq_getElem hc.2⟩
      rw [owedN_at hc.1 hn hm] at hz
      rcases set_at hz with ⟨e, rfl, _⟩ | ⟨e, q⟩
      · subst e
        exact ⟨n, hn, .inl ⟨by omega, by omega, m, hm, rfl⟩⟩
      · exact ⟨z, q, .inr ⟨by omega, rfl⟩⟩
    · rw [owedN_head hc] at hz
      exact ⟨z, hz, .inr ⟨by omega, rfl⟩⟩
  obtain ⟨l, hlast⟩ : ∃ l, (owedN (ns.eraseIdx k) k)[(owedN (ns.eraseIdx k) k).length - 1]? = some l := by
    have hi : i < (owedN (ns.eraseIdx k) k).length := by have := (List.getElem?_eq_some_iff.1 hx).1; rw [lastN_len] at this; exact this
    exact ⟨_, List.getElem?_eq_getElem (by omega)⟩
  have hi : i < ns.length - 1 := by have := (List.getElem?_eq_some_iff.1 hx).1; rw [lastN_len, owedN_len, hl] at this; exact this
  rw [lastN_at hlast, owedN_len, hl] at hx
  rw [owedN_len, hl] at hlast
  rcases set_at hx with ⟨e, rfl, _⟩ | ⟨e, q⟩
  · subst e
    obtain ⟨y, hy, q⟩ := ho l hlast
    rcases q with ⟨_, q, _⟩ | ⟨_, rfl⟩
    · omega
    · exact ⟨l, hy, rfl, .inl ⟨by omega, rfl⟩⟩
  · obtain ⟨y, hy, q⟩ := ho x q
    rcases q with ⟨q1, q2, m, hm, rfl⟩ | ⟨q1, rfl⟩
    · exact ⟨y, hy, rfl, .inr (.inl ⟨by omega, q1, m, hm, rfl⟩)⟩
    · exact ⟨x, hy, rfl, .inr (.inr ⟨by omega, by omega, rfl⟩)⟩
theorem erase_at {ns : List Nd} {k i : Nat} {x : Nd} (h : (ns.eraseIdx k)[i]? = some x) : ns[if i < k then i else i + 1]? = some x := by
  rw [List.getElem?_eraseIdx] at h
  split at h
  · rename_i q
    rw [if_pos q]
    exact h
  · rename_i q
    rw [if_neg q]
    exact h
/-- A chain without a node is valid. -/
theorem chain_fall {ns : List Nd} {k : Nat} (h : chainB ns = true) (h2 : 2 ≤ ns.length) (hk : k < ns.length) : chainB (fallG ns k) = true := by
  obtain ⟨h0, h1, _⟩ := chainB_parts h
  have hl := fallG_len hk
  refine chain_mk (by rw [hl]; omega) (fun i x hx => ?_) (fun i x x' hx hx' => ?_) (fun i x hi hx => ?_)
  · obtain ⟨y, hy, _, q⟩ := fall_at hk hx
    have hb := h1 _ y (erase_at hy)
    rcases q with ⟨_, e⟩ | ⟨_, _, m, hm, rfl⟩ | ⟨_, _, rfl⟩
    · rw [e]
      exact nodeB_mk (nodeB_parts hb).1 (Nat.zero_le _) (fun j v hj => by simp [bare] at hj)
    · exact lack_ok hb (nodeB_parts (h1 _ m (erase_at hm))).1
    · exact hb
  · obtain ⟨y, hy, e, q⟩ := fall_at hk hx
    obtain ⟨y', hy', e', _⟩ := fall_at hk hx'
    have hi := (List.getElem?_eq_some_iff.1 hx').1
    rw [hl] at hi
    have ey := erase_at hy
    have ey' := erase_at hy'
    rcases q with ⟨q, _⟩ | ⟨_, q, m, hm, rfl⟩ | ⟨_, q, rfl⟩
    · omega
    · -- where the node fell
      subst q
      rw [hm] at hy'
      injection hy' with hy'
      subst hy'
      rw [if_pos (by omega)] at ey
      rw [if_neg (by omega)] at ey'
      obtain ⟨us, hu, hul⟩ := lack_walk (nodeB_parts (h1 _ y ey)).1 (nodeB_parts (h1 _ m ey')).1 (chain_above h 2 i y m ey ey')
      refine linkB_mk (us := us) ?_ hul
      rw [e']
      exact hu
    · have hlk : linkB x y' = true := by
        by_cases c : i + 1 < k
        · rw [if_pos (by omega)] at ey
          rw [if_pos c] at ey'
          exact chain_link h ey ey'
        · rw [if_neg (by omega)] at ey
          rw [if_neg (by omega)] at ey'
          exact chain_link h ey ey'
      exact link_tail hlk _ e'
  · obtain ⟨y, hy, _, q⟩ := fall_at hk hx
    rw [hl] at hi
    rcases q with ⟨_, e⟩ | ⟨q, _⟩ | ⟨q, _⟩
    · rw [e]
      rfl
    · omega
    · omega
end Go.Proofs.YtnaggcdhimcilaaGreat
/- Contract of the model's ChainFall. Condition: sizes that memory holds. -/
namespace Go.Proofs.YtnaggcdhimcilaaGreat
open Go.RowKit Go.Joins
attribute [local go_sem ↓] Go.wp_at_zero Go.wp_at_succ

theorem fallN_fine (ns : List Nd) (k : Int) : FineN (fallN ns k) := by
  cases hc : chainB ns with
  | false => rw [(fallN_no hc).1]; exact ⟨by simp, fun i n hi => by simp at hi⟩
  | true =>
    cases hf : fallB ns k with
    | false => rw [(fallN_not hc hf).1]; exact ⟨(chainB_parts hc).1.2, (chainB_parts hc).2.1⟩
    | true =>
      rw [(fallN_yes hc hf).1]
      unfold fallB at hf
      rw [Bool.and_eq_true, decide_eq_true_eq, decide_eq_true_eq] at hf
      have h := chainB_parts (chain_fall (k := k.toNat) hc hf.1 (by omega))
      exact ⟨h.1.2, h.2.1⟩
end Go.Proofs.YtnaggcdhimcilaaGreat
/- What PlaceFall answers, said plainly. No condition. -/
namespace Go.Proofs.YtnaggcdhimcilaaGreat
open Go.RowKit Go.Joins

def fallP (p : Pl) (k : Int) : Pl := if plB p = true then (if p.fell = true then p else if fallK p.ns k = true then noteP (fellP (chP p (fallN p.ns k)) true) else chP p (fallN p.ns k)) else noP
def fallPK (p : Pl) (k : Int) : Bool := plB p && (!p.fell && fallK p.ns k)
theorem fallP_no {p : Pl} {k : Int} (h : plB p = false) : fallP p k = noP ∧ fallPK p k = false := by unfold fallP fallPK; rw [h]; exact ⟨rfl, rfl⟩
theorem fallP_fell {p : Pl} {k : Int} (h : plB p = true) (hf : p.fell = true) : fallP p k = p ∧ fallPK p k = false := by unfold fallP fallPK; rw [h, hf]; exact ⟨rfl, rfl⟩
theorem fallP_not {p : Pl} {k : Int} (h : plB p = true) (hf : p.fell = false) (hk : fallK p.ns k = false) : fallP p k = chP p (fallN p.ns k) ∧ fallPK p k = false := by unfold fallP fallPK; rw [h, hf, hk]; exact ⟨rfl, rfl⟩
theorem fallP_yes {p : Pl} {k : Int} (h : plB p = true) (hf : p.fell = false) (hk : fallK p.ns k = true) : fallP p k = noteP (fellP (chP p (fallN p.ns k)) true) ∧ fallPK p k = true := by unfold fallP fallPK; rw [h, hf, hk]; exact ⟨rfl, rfl⟩
theorem fellP_like {p q : Pl} (h : LP p q) (f : Bool) : LP (fellP p f) (fellP q f) := ⟨h.1, h.2.1, h.2.2.1, h.2.2.2.1, h.2.2.2.2.1, rfl⟩
theorem fallP_like {q p : Pl} (k : Int) (h : LP q p) : LP (fallP q k) (fallP p k) ∧ fallPK q k = fallPK p k := by
  have hn := fallN_like h.2.2.1 k
  have hl := h.2.2.2.2.2
  cases hp : plB p with
  | false =>
    have hq : plB q = false := (plB_like h).trans hp
    rw [(fallP_no hq).1, (fallP_no hq).2, (fallP_no hp).1, (fallP_no hp).2]
    exact ⟨lp_refl _, rfl⟩
  | true =>
    have hq : plB q = true := (plB_like h).trans hp
    cases hf : p.fell with
    | true =>
      have hf' := hl.trans hf
      rw [(fallP_fell hq hf').1, (fallP_fell hq hf').2, (fallP_fell hp hf).1, (fallP_fell hp hf).2]
      exact ⟨h, rfl⟩
    | false =>
      have hf' := hl.trans hf
      cases hk : fallK p.ns k with
      | false =>
        have hk' := hn.2.trans hk
        rw [(fallP_not hq hf' hk').1, (fallP_not hq hf' hk').2, (fallP_not hp hf hk).1, (fallP_not hp hf hk).2]
        exact ⟨chP_like' h hn.1, rfl⟩
      | true =>
        have hk' := hn.2.trans hk
        rw [(fallP_yes hq hf' hk').1, (fallP_yes hq hf' hk').2, (fallP_yes hp hf hk).1, (fallP_yes hp hf hk).2]
        exact ⟨noteP_like (fellP_like (chP_like' h hn.1) true), rfl⟩
theorem fallP_fine (p : Pl) (k : Int) : FineP (fallP p k) := by
  cases hp : plB p with
  | false => rw [(fallP_no hp).1]; exact ⟨⟨by simp [noP], fun i n hi => by simp [noP] at hi⟩, ⟨by simp [noP], fun v hv => by simp [noP] at hv⟩, by simp [noP], fun l hl => by simp [noP] at hl⟩
  | true =>
    obtain ⟨hf, hl⟩ := plB_fine hp
    have hc := fineP_ch' hf (fallN_fine p.ns k)
    cases hfl : p.fell with
    | true => rw [(fallP_fell hp hfl).1]; exact hf
    | false =>
      cases hk : fallK p.ns k with
      | false => rw [(fallP_not hp hfl hk).1]; exact hc
      | true => rw [(fallP_yes hp hfl hk).1]; exact noteP_fine (p := fellP (chP p (fallN p.ns k)) true) hc hl (tailSS_fine (fallN_fine p.ns k))
theorem fallN_pos {ns : List Nd} {k : Int} (h : chainB ns = true) : 1 ≤ (fallN ns k).length := by
  have h1 := (chainB_parts h).1.1
  cases hb : fallB ns k with
  | false => rw [(fallN_not h hb).1]; exact h1
  | true =>
    rw [(fallN_yes h hb).1]
    unfold fallB at hb
    rw [Bool.and_eq_true, decide_eq_true_eq, decide_eq_true_eq] at hb
    rw [fallG_len (by omega)]
    omega
theorem chg_fall {p r : Pl} {k : Int} {b : Bool} (h : Chg p 2 (fun i => if i = 0 then p else if i = 1 then p else chP p (fallN p.ns k)) (fun i => if i = 0 then !p.fell else fallK p.ns k) (noteP (fellP (chP p (fallN p.ns k)) true)) r b) : r = fallP p k ∧ b = fallPK p k := by
  rcases h with ⟨h1, h2, h3⟩ | ⟨h1, ⟨j, hj, h0, h2, h3, h4⟩ | ⟨h2, h3, h4⟩⟩
  · rw [h2, h3, (fallP_no h1).1, (fallP_no h1).2]; exact ⟨rfl, rfl⟩
  · by_cases e : j = 0
    · subst e
      have e2 : p.fell = true := by simpa using h2
      have e3 : r = p := h3
      rw [e3, h4, (fallP_fell h1 e2).1, (fallP_fell h1 e2).2]; exact ⟨rfl, rfl⟩
    · have e1 : j = 1 := by omega
      subst e1
      have e2 : p.fell = false := by simpa using h0 0 (by omega)
      have e3 : fallK p.ns k = false := h2
      have e4 : r = chP p (fallN p.ns k) := h3
      rw [e4, h4, (fallP_not h1 e2 e3).1, (fallP_not h1 e2 e3).2]; exact ⟨rfl, rfl⟩
  · have e2 : p.fell = false := by simpa using h2 0 (by omega)
    have e3 : fallK p.ns k = true := h2 1 (by omega)
    rw [h3, h4, (fallP_yes h1 e2 e3).1, (fallP_yes h1 e2 e3).2]; exact ⟨rfl, rfl⟩
end Go.Proofs.YtnaggcdhimcilaaGreat
/- What a node owes, sorted by tags and then by keys downwards, is what the model says: there is one such order. No condition. -/
namespace Go.Proofs.YtnaggcdhimcilaaGreat
open Go.RowKit Go.Joins

instance : Inhabited V := ⟨v0⟩
/-- How the program's byTag compares two versions. -/
def cfV (x y : V) : Int := orI (cmpT x.t x.u y.t y.u) (cmpI y.k x.k)
abbrev ltV : V → V → Bool := Go.Proofs.ltOf cfV
theorem ltV_iff (x y : V) : ltV x y = true ↔ (x.t < y.t ∨ x.t = y.t ∧ (x.u < y.u ∨ x.u = y.u ∧ y.k < x.k)) := by
  unfold ltV Go.Proofs.ltOf cfV cmpT orI cmpI
  simp only [decide_eq_true_eq]
  repeat' split
  all_goals omega
theorem ltV_not (x y : V) : ltV x y = false ↔ ¬ (x.t < y.t ∨ x.t = y.t ∧ (x.u < y.u ∨ x.u = y.u ∧ y.k < x.k)) := by
  rw [← ltV_iff]
  cases ltV x y <;> simp
theorem swoV : Go.Sort.SWO ltV where
  irrefl x := by rw [ltV_not]; omega
  trans x y z h k := by rw [ltV_iff] at *; omega
  ntrans x y z h k := by rw [ltV_not] at *; omega
/-- What the program lists before it sorts. -/
def filtL (xs ys : List V) : Nat → List V
  | 0 => []
  | i + 1 => match xs[i]?, ys[i]? with
    | some x, some y => if lessB y.t y.u x.t x.u = true then filtL xs ys i ++ [x] else filtL xs ys i
    | _, _ => filtL xs ys i
theorem filtL_yes {xs ys : List V} {i : Nat} {x y : V} (hx : xs[i]? = some x) (hy : ys[i]? = some y) (h : lessB y.t y.u x.t x.u = true) : filtL xs ys (i + 1) = filtL xs ys i ++ [x] := by
  rw [filtL, hx, hy]
  simp only [h, if_true]
theorem filtL_not {xs ys : List V} {i : Nat} {x y : V} (hx : xs[i]? = some x) (hy : ys[i]? = some y) (h : lessB y.t y.u x.t x.u = false) : filtL xs ys (i + 1) = filtL xs ys i := by
  rw [filtL, hx, hy]
  simp only [h]
  rfl
theorem filtL_set {xs ys : List V} {j : Nat} {v : V} : ∀ (i : Nat), i ≤ j → filtL (xs.set j v) ys i = filtL xs ys i
  | 0, _ => rfl
  | i + 1, h => by
    have e : (xs.set j v)[i]? = xs[i]? := List.getElem?_set_ne (by omega)
    rw [filtL, filtL, e, filtL_set i (by omega)]
theorem filtL_len (xs ys : List V) : ∀ i, (filtL xs ys i).length ≤ i
  | 0 => Nat.le_refl _
  | i + 1 => by
    have ih := filtL_len xs ys i
    unfold filtL
    split
    · split
      · rw [List.length_append]; simp; omega
      · omega
    · omega
theorem filt_perm (xs ys : List V) : ∀ i, (lackN xs ys i).Perm (filtL xs ys i)
  | 0 => List.Perm.refl _
  | i + 1 => by
    have ih := filt_perm xs ys i
    cases hx : xs[i]? with
    | none => simp only [lackN, filtL, hx]; exact ih
    | some x =>
      cases hy : ys[i]? with
      | none => simp only [lackN, filtL, hx, hy]; exact ih
      | some y =>
        cases hb : lessB y.t y.u x.t x.u
        · rw [lackN_not hx hy hb, filtL_not hx hy hb]
          exact ih
        · rw [lackN_yes hx hy hb, filtL_yes hx hy hb]
          exact (insL_perm _ _).trans ((List.Perm.cons _ ih).trans (List.perm_append_singleton _ _).symm)
/-- What a node lacks is in order. -/
theorem lack_sorted {xs ys : List V} (hx : storeB xs = true) (hy : storeB ys = true) : ∀ i, (lackN xs ys i).Pairwise (fun a b => ltV a b = true)
  | 0 => List.Pairwise.nil
  | i + 1 => by
    have ih := lack_sorted hx hy i
    unfold lackN
    split
    · rename_i x y h1 h2
      split
      · rename_i hb
        obtain ⟨hkx, hvx⟩ := lack_key hx hy h1 h2 hb
        have hx0 := (ver_key hvx).1
        have low : ∀ v ∈ lackN xs ys i, v.k < x.k := fun v hv => by
          obtain ⟨j, hj, q1, z, q2, q3⟩ := lack_in i v hv
          obtain ⟨hk, hvv⟩ := lack_key hx hy q1 q2 q3
          have := (ver_key hvv).1
          omega
        obtain ⟨p, hp, hp1, hp2⟩ := insL_cut (lackN xs ys i) x
        rw [insL_at ⟨hp, hp1, hp2⟩]
        have hsplit : (lackN xs ys i).take p ++ (lackN xs ys i).drop p = lackN xs ys i := List.take_append_drop _ _
        rw [← hsplit, List.pairwise_append] at ih
        obtain ⟨ihA, ihB, ihC⟩ := ih
        have before : ∀ a ∈ (lackN xs ys i).take p, lessB a.t a.u x.t x.u = true := fun a ha => by
          obtain ⟨j, hj⟩ := List.getElem?_of_mem ha
          have hjp : j < p := by have := (List.getElem?_eq_some_iff.1 hj).1; rw [List.length_take] at this; omega
          rw [List.getElem?_take_of_lt hjp] at hj
          exact hp1 j a hjp hj
        have behind : ∀ b ∈ (lackN xs ys i).drop p, lessB b.t b.u x.t x.u = false := fun b hb' => by
          cases hd : (lackN xs ys i).drop p with
          | nil => rw [hd] at hb'; simp at hb'
          | cons d r =>
            have hd0 : (lackN xs ys i)[p]? = some d := by
              have : ((lackN xs ys i).drop p)[0]? = some d := by rw [hd]; rfl
              rw [List.getElem?_drop, Nat.add_zero] at this
              exact this
            have hdl := hp2 d hd0
            rw [hd] at hb' ihB
            rcases List.mem_cons.1 hb' with rfl | hb'
            · exact hdl
            · have := (ltV_iff d b).1 ((List.pairwise_cons.1 ihB).1 b hb')
              unfold lessB at hdl ⊢
              simp only [decide_eq_false_iff_not] at hdl ⊢
              omega
        refine List.pairwise_append.2 ⟨ihA, List.pairwise_cons.2 ⟨fun b hb' => ?_, ihB⟩, fun a ha b hb' => ?_⟩
        · have h3 := behind b hb'
          have h4 := low b (List.mem_of_mem_drop hb')
          rw [ltV_iff]
          unfold lessB at h3
          simp only [decide_eq_false_iff_not] at h3
          omega
        · rcases List.mem_cons.1 hb' with rfl | hb'
          · have h3 := before a ha
            rw [ltV_iff]
            unfold lessB at h3
            simp only [decide_eq_true_eq] at h3
            omega
          · exact ihC a ha b hb'
      · exact ih
    · exact ih
/-- There is one order. -/
theorem lack_unique {xs ys us : List V} (hx : storeB xs = true) (hy : storeB ys = true) (hp : us.Perm (filtL xs ys 4)) (hs : us.Pairwise (fun a b => ltV b a = false)) : us = lackN xs ys 4 := by
  refine List.Perm.eq_of_pairwise (le := fun a b => ltV b a = false) (fun a b ha hb h1 h2 => ?_) hs ((lack_sorted hx hy 4).imp fun {a b} q => ?_) (hp.trans (filt_perm xs ys 4).symm)
  · have ha' := (hp.trans (filt_perm xs ys 4).symm).mem_iff.1 ha
    obtain ⟨i, _, p1, z, p2, p3⟩ := lack_in 4 a ha'
    obtain ⟨j, _, q1, z', q2, q3⟩ := lack_in 4 b hb
    obtain ⟨e1, e2⟩ := lack_key hx hy p1 p2 p3
    obtain ⟨f1, f2⟩ := lack_key hx hy q1 q2 q3
    have := (ver_key e2).1
    have := (ver_key f2).1
    rw [ltV_not] at h1 h2
    have e : i = j := by omega
    subst e
    rw [p1] at q1
    injection q1
  · rw [ltV_iff] at q
    rw [ltV_not]
    omega
end Go.Proofs.YtnaggcdhimcilaaGreat
/- How the program's byTag compares two versions: it lays blocks, and turns nothing. No condition. -/
namespace Go.Proofs.YtnaggcdhimcilaaGreat
open Go.RowKit Go.Joins
attribute [local go_sem ↓] Go.wp_at_zero Go.wp_at_succ

/-- Nothing but draws and new blocks. -/
def Gr (w w' : World) : Prop := ∃ q os, w' = Go.Sort.grow (w.drewN q) os
theorem Gr.refl (w : World) : Gr w w := ⟨0, #[], by rw [Go.Sort.grow_empty]; rfl⟩
theorem Gr.alloc {w w' : World} (h : Gr w w') (o : Obj) : Gr w (w'.alloc o) := by
  obtain ⟨q, os, rfl⟩ := h
  exact ⟨q, os ++ #[o], by rw [Go.Sort.alloc_eq_grow, Go.Sort.grow_grow]⟩
theorem Gr.drew {w w' : World} (h : Gr w w') : Gr w w'.drew := by
  obtain ⟨q, os, rfl⟩ := h
  exact ⟨q + 1, os, rfl⟩
theorem Gr.trans {a b c : World} (h : Gr a b) (k : Gr b c) : Gr a c := by
  obtain ⟨q, os, rfl⟩ := h
  obtain ⟨q', os', rfl⟩ := k
  refine ⟨q + q', os ++ os', ?_⟩
  rw [← Go.Sort.grow_grow]
  unfold Go.Sort.grow World.drewN
  simp only [Nat.add_assoc]
theorem gr_below {w w' : World} (h : Gr w w') : Below w.heap.size w w' := by
  obtain ⟨q, os, rfl⟩ := h
  refine ⟨rfl, rfl, rfl, by simp [Go.Sort.grow], fun k hk => ?_⟩
  show ((w.drewN q).heap ++ os)[k]? = _
  rw [Array.getElem?_append_left (by simpa using hk)]
  rfl
set_option maxRecDepth 100000 in
set_option maxHeartbeats 2000000 in
theorem compare_gr (t p t' p' : Int) (w : World) :
    Calls Tryz.prog 146 #[.agg #[.int .i64 t, .int .i64 p], .agg #[.int .i64 t', .int .i64 p']] w fun e w' => e = .returned (.int .i64 (cmpT t p t' p')) ∧ Gr w w' := by
  have S0 := ((Inv.start w).box 91 #[.int .i64 t, .int .i64 p]).box 91 #[.int .i64 t', .int .i64 p']
  have HG := hide (((Gr.refl w).alloc (.cells #[.int .i64 t, .int .i64 p] 91)).alloc (.cells #[.int .i64 t', .int .i64 p'] 91))
  simp only [World.size_alloc] at S0
  go_enter Tryz.func146, Tryz.ntmps146
  go_wp2_with fail
  generalize (w.alloc (.cells #[.int .i64 t, .int .i64 p] 91)).alloc (.cells #[.int .i64 t', .int .i64 p'] 91) = W at S0 HG ⊢
  refine wp_region_noPanic ?_
  refine wp_region_held_drew (S := (fun w' => w'.cell? ⟨w.heap.size, 0, none⟩ = some (.int .i64 t) ∧ w'.cell? ⟨w.heap.size, 1, none⟩ = some (.int .i64 p) ∧ w'.cell? ⟨w.heap.size + 1, 0, none⟩ = some (.int .i64 t') ∧ w'.cell? ⟨w.heap.size + 1, 1, none⟩ = some (.int .i64 p') ∧ Inv w (w.heap.size + 1 + 1) [(w.heap.size + 1, 91, #[.int .i64 t', .int .i64 p']), (w.heap.size, 91, #[.int .i64 t, .int .i64 p])] w' ∧ Hid (Gr w w'))) (by kernel_rfl) (by exact ⟨(S0.nth 1 rfl).at 0, (S0.nth 1 rfl).at 1, (S0.nth 0 rfl).at 0, (S0.nth 0 rfl).at 1, S0.drew, HG.out.drew⟩) (fun hHeld => ?_)
  refine mvR 0 (some 5) hHeld ?_
  refine mvR 1 (some 6) hHeld ?_
  refine mvR 2 (some 7) hHeld ?_
  refine mvR 3 (some 8) hHeld ?_
  refine mvR 5 (some 10) hHeld ?_
  refine mvR 6 (some 11) hHeld ?_
  refine mvR 7 (some 12) hHeld ?_
  refine mvR 8 (some 13) hHeld ?_
  refine take_one 4 (by kernel_rfl) rfl (fun K hK => ?_)
  go_simp
  (refine (cmpInt_any _ _ _).mono ?_; rintro e w1 ⟨rfl, rfl⟩)
  try go_wp2_with fail
  refine hK.out _ _ (by exact hHeld) (fun hHeld => ?_)
  clear hK K
  refine take_one 9 (by kernel_rfl) rfl (fun K hK => ?_)
  go_simp
  (refine (cmpInt_any _ _ _).mono ?_; rintro e w1 ⟨rfl, rfl⟩)
  try go_wp2_with fail
  refine hK.out _ _ (by exact hHeld) (fun hHeld => ?_)
  clear hK K
  refine take_one 10 (by kernel_rfl) rfl (fun K hK => ?_)
  go_simp
  refine hK.out _ _ (by exact ⟨((hHeld.2.2.2.2.1.alloc _).nth 1 rfl).at 0, ((hHeld.2.2.2.2.1.alloc _).nth 1 rfl).at 1, ((hHeld.2.2.2.2.1.alloc _).nth 0 rfl).at 0, ((hHeld.2.2.2.2.1.alloc _).nth 0 rfl).at 1, hHeld.2.2.2.2.1.alloc _, hHeld.2.2.2.2.2.out.alloc _⟩) (fun hHeld => ?_)
  clear hK K
  refine take_one 11 (by kernel_rfl) rfl (fun K hK => ?_)
  go_simp
  (refine (cmpOr_two _ _ (cmpI t t') (cmpI p p') _ (Blk.made _ _ _).drew.two.1 (Blk.made _ _ _).drew.two.2.1).mono ?_; rintro e w1 ⟨rfl, rfl⟩)
  try go_wp2_with fail
  refine hK.out _ _ (by exact hHeld) (fun hHeld => ?_)
  clear hK K
  refine mvR 12 (some 4) hHeld ?_
  refine wpAnyH_done (by kernel_rfl) ?_ _
  refine NoPanic.normal ?_
  have L := hHeld.2.2.2.2.2
  clear hHeld
  go_wp2
  go_ret
  exact ⟨rfl, L.out⟩
abbrev verCx (x : V) : Array Value := verC x.k x.t x.u x.a x.ts.length x.c x.s x.g
set_option maxRecDepth 100000 in
set_option maxHeartbeats 2000000 in
theorem byTag_gr (x y : V) (w : World) :
    Calls Tryz.prog 120 #[.agg (verCx x), .agg (verCx y)] w fun e w' => e = .returned (.int .i64 (cfV x y)) ∧ Gr w w' := by
  have S0 := ((Inv.start w).box 96 (verCx x)).box 96 (verCx y)
  have HG := hide (((Gr.refl w).alloc (.cells (verCx x) 96)).alloc (.cells (verCx y) 96))
  simp only [World.size_alloc] at S0
  go_enter Tryz.func120, Tryz.ntmps120
  go_wp2_with fail
  generalize (w.alloc (.cells (verCx x) 96)).alloc (.cells (verCx y) 96) = W at S0 HG ⊢
  refine wp_region_noPanic ?_
  refine wp_region_held_drew (S := (fun w' => (w'.cell? ⟨w.heap.size, 0, none⟩ = some (.int .i64 x.k) ∧ w'.cell? ⟨w.heap.size, 1, none⟩ = some (.int .i64 x.t) ∧ w'.cell? ⟨w.heap.size, 2, none⟩ = some (.int .i64 x.u)) ∧ (w'.cell? ⟨w.heap.size + 1, 0, none⟩ = some (.int .i64 y.k) ∧ w'.cell? ⟨w.heap.size + 1, 1, none⟩ = some (.int .i64 y.t) ∧ w'.cell? ⟨w.heap.size + 1, 2, none⟩ = some (.int .i64 y.u)) ∧ Inv w (w.heap.size + 1 + 1) [(w.heap.size + 1, 96, (verCx y)), (w.heap.size, 96, (verCx x))] w' ∧ Hid (Gr w w'))) (by kernel_rfl) (by exact ⟨⟨(S0.nth 1 rfl).at 0, (S0.nth 1 rfl).at 1, (S0.nth 1 rfl).at 2⟩, ⟨(S0.nth 0 rfl).at 0, (S0.nth 0 rfl).at 1, (S0.nth 0 rfl).at 2⟩, S0.drew, HG.out.drew⟩) (fun hHeld => ?_)
  refine mvR 0 (some 5) hHeld ?_
  refine mvR 1 (some 6) hHeld ?_
  refine mvR 2 (some 7) hHeld ?_
  refine mvR 3 (some 8) hHeld ?_
  refine mvR 5 (some 10) hHeld ?_
  refine mvR 6 (some 11) hHeld ?_
  refine mvR 7 (some 12) hHeld ?_
  refine mvR 8 (some 13) hHeld ?_
  refine take_one 4 (by kernel_rfl) rfl (fun K hK => ?_)
  go_simp
  (refine (compare_gr _ _ _ _ _).mono ?_; rintro e w1 ⟨rfl, hb⟩)
  try go_wp2_with fail
  refine hK.out _ _ (by (have hI := hHeld.2.2.1.on (gr_below hb); exact ⟨⟨(hI.nth 1 rfl).at 0, (hI.nth 1 rfl).at 1, (hI.nth 1 rfl).at 2⟩, ⟨(hI.nth 0 rfl).at 0, (hI.nth 0 rfl).at 1, (hI.nth 0 rfl).at 2⟩, hI, hHeld.2.2.2.out.trans hb⟩)) (fun hHeld => ?_)
  clear hK K
  refine take_one 9 (by kernel_rfl) rfl (fun K hK => ?_)
  go_simp
  (refine (cmpInt_any _ _ _).mono ?_; rintro e w1 ⟨rfl, rfl⟩)
  try go_wp2_with fail
  refine hK.out _ _ (by exact hHeld) (fun hHeld => ?_)
  clear hK K
  refine take_one 10 (by kernel_rfl) rfl (fun K hK => ?_)
  go_simp
  refine hK.out _ _ (by exact ⟨⟨((hHeld.2.2.1.alloc _).nth 1 rfl).at 0, ((hHeld.2.2.1.alloc _).nth 1 rfl).at 1, ((hHeld.2.2.1.alloc _).nth 1 rfl).at 2⟩, ⟨((hHeld.2.2.1.alloc _).nth 0 rfl).at 0, ((hHeld.2.2.1.alloc _).nth 0 rfl).at 1, ((hHeld.2.2.1.alloc _).nth 0 rfl).at 2⟩, hHeld.2.2.1.alloc _, hHeld.2.2.2.out.alloc _⟩) (fun hHeld => ?_)
  clear hK K
  refine take_one 11 (by kernel_rfl) rfl (fun K hK => ?_)
  go_simp
  (refine (cmpOr_two _ _ (cmpT x.t x.u y.t y.u) (cmpI y.k x.k) _ (Blk.made _ _ _).two.1 (Blk.made _ _ _).two.2.1).mono ?_; rintro e w1 ⟨rfl, rfl⟩)
  try go_wp2_with fail
  refine hK.out _ _ (by exact hHeld) (fun hHeld => ?_)
  clear hK K
  refine mvR 12 (some 4) hHeld ?_
  refine wpAnyH_done (by kernel_rfl) ?_ _
  refine NoPanic.normal ?_
  have L := hHeld.2.2.2
  clear hHeld
  go_wp2
  go_ret
  exact ⟨rfl, L.out⟩
end Go.Proofs.YtnaggcdhimcilaaGreat
/- The shelf's contracts for slices.SortFunc and math/bits.Len, laid over this program. No condition. -/
namespace Go.Proofs.YtnaggcdhimcilaaGreat
open Go.Shelf
def sortVer_ren : Go.Shelf.Ren := ⟨fun | 6 => 119 | 15 => 148 | 14 => 147 | 28 => 167 | 29 => 168 | 20 => 159 | 21 => 160 | 22 => 161 | 23 => 162 | 24 => 163 | 25 => 164 | 26 => 165 | 27 => 166 | 46 => 172 | 47 => 173 | 48 => 174 | 49 => 175 | 50 => 176 | 57 => 180 | n => n, fun | 22 => 33 | 24 => 96 | 25 => 148 | 3 => 3 | 39 => 167 | 0 => 0 | 53 => 189 | 55 => 191 | 4 => 4 | 46 => 182 | 45 => 181 | 50 => 186 | 5 => 5 | 9 => 9 | 66 => 198 | 70 => 202 | 76 => 206 | 77 => 207 | n => n, fun | n => n⟩
theorem sortVer : Go.Proofs.SlLaysF0.n6 Tryz.prog sortVer_ren := {
  mixed := by kernel_rfl
  f6 := ⟨Tryz.f119.name, by decide, Tryz.func119.trans (congrArg some (by kernel_rfl))⟩
  f14 := ⟨Tryz.f147.name, by decide, Tryz.func147.trans (congrArg some (by kernel_rfl))⟩
  f15 := Tryz.func148.trans (congrArg some (by kernel_rfl))
  f20 := ⟨Tryz.f159.name, by decide, Tryz.func159.trans (congrArg some (by kernel_rfl))⟩
  f21 := ⟨Tryz.f160.name, by decide, Tryz.func160.trans (congrArg some (by kernel_rfl))⟩
  f22 := ⟨Tryz.f161.name, by decide, Tryz.func161.trans (congrArg some (by kernel_rfl))⟩
  f23 := ⟨Tryz.f162.name, by decide, Tryz.func162.trans (congrArg some (by kernel_rfl))⟩
  f24 := ⟨Tryz.f163.name, by decide, Tryz.func163.trans (congrArg some (by kernel_rfl))⟩
  f25 := ⟨Tryz.f164.name, by decide, Tryz.func164.trans (congrArg some (by kernel_rfl))⟩
  f26 := ⟨Tryz.f165.name, by decide, Tryz.func165.trans (congrArg some (by kernel_rfl))⟩
  f27 := ⟨Tryz.f166.name, by decide, Tryz.func166.trans (congrArg some (by kernel_rfl))⟩
  f28 := Tryz.func167.trans (congrArg some (by kernel_rfl))
  f29 := Tryz.func168.trans (congrArg some (by kernel_rfl))
  f46 := ⟨Tryz.f172.name, by decide, Tryz.func172.trans (congrArg some (by kernel_rfl))⟩
  f47 := Tryz.func173.trans (congrArg some (by kernel_rfl))
  f48 := Tryz.func174.trans (congrArg some (by kernel_rfl))
  f49 := ⟨Tryz.f175.name, by decide, Tryz.func175.trans (congrArg some (by kernel_rfl))⟩
  f50 := ⟨Tryz.f176.name, by decide, Tryz.func176.trans (congrArg some (by kernel_rfl))⟩
  f57 := ⟨Tryz.f180.name, by decide, Tryz.func180.trans (congrArg some (by kernel_rfl))⟩
  t0 := Tryz.underlying0
  a0 := Tryz.isAgg0
  z0 := Tryz.sizeOf0
  v0 := Tryz.zeroValue0
  t3 := Tryz.underlying3
  a3 := Tryz.isAgg3
  z3 := Tryz.sizeOf3
  v3 := Tryz.zeroValue3
  t4 := Tryz.underlying4
  a4 := Tryz.isAgg4
  z4 := Tryz.sizeOf4
  v4 := Tryz.zeroValue4
  t5 := Tryz.underlying5
  a5 := Tryz.isAgg5
  z5 := Tryz.sizeOf5
  v5 := Tryz.zeroValue5
  t9 := Tryz.underlying9
  a9 := Tryz.isAgg9
  z9 := Tryz.sizeOf9
  v9 := Tryz.zeroValue9
  t22 := Tryz.underlying33
  a22 := Tryz.isAgg33
  z22 := Tryz.sizeOf33
  v22 := Tryz.zeroValue33
  t25 := Tryz.underlying148
  a25 := Tryz.isAgg148
  z25 := Tryz.sizeOf148
  v25 := Tryz.zeroValue148
  t39 := Tryz.underlying167
  a39 := Tryz.isAgg167
  z39 := Tryz.sizeOf167
  v39 := Tryz.zeroValue167
  t45 := Tryz.underlying181
  a45 := Tryz.isAgg181
  z45 := Tryz.sizeOf181
  v45 := Tryz.zeroValue181
  t46 := Tryz.underlying182
  a46 := Tryz.isAgg182
  z46 := Tryz.sizeOf182
  v46 := Tryz.zeroValue182
  t50 := Tryz.underlying186
  a50 := Tryz.isAgg186
  z50 := Tryz.sizeOf186
  v50 := Tryz.zeroValue186
  t53 := Tryz.underlying189
  a53 := Tryz.isAgg189
  z53 := Tryz.sizeOf189
  v53 := Tryz.zeroValue189
  t55 := Tryz.underlying191
  a55 := Tryz.isAgg191
  z55 := Tryz.sizeOf191
  v55 := Tryz.zeroValue191
  t66 := Tryz.underlying198
  a66 := Tryz.isAgg198
  z66 := Tryz.sizeOf198
  v66 := Tryz.zeroValue198
  t70 := Tryz.underlying202
  a70 := Tryz.isAgg202
  z70 := Tryz.sizeOf202
  v70 := Tryz.zeroValue202
  t76 := Tryz.underlying206
  a76 := Tryz.isAgg206
  z76 := Tryz.sizeOf206
  v76 := Tryz.zeroValue206
  t77 := Tryz.underlying207
  a77 := Tryz.isAgg207
  z77 := Tryz.sizeOf207
  v77 := Tryz.zeroValue207 }
def bitsLen_ren : Go.Shelf.Ren := ⟨fun | 125 => 148 | 128 => 167 | 129 => 168 | n => n, fun | 46 => 167 | 3 => 3 | 51 => 189 | 53 => 191 | 4 => 4 | 5 => 5 | 9 => 9 | n => n, fun | n => n⟩
theorem bitsLen : Go.Proofs.Lays.n125 Tryz.prog bitsLen_ren := {
  mixed := by kernel_rfl
  f125 := Tryz.func148.trans (congrArg some (by kernel_rfl))
  f128 := Tryz.func167.trans (congrArg some (by kernel_rfl))
  f129 := Tryz.func168.trans (congrArg some (by kernel_rfl))
  t3 := Tryz.underlying3
  a3 := Tryz.isAgg3
  z3 := Tryz.sizeOf3
  v3 := Tryz.zeroValue3
  t4 := Tryz.underlying4
  a4 := Tryz.isAgg4
  z4 := Tryz.sizeOf4
  v4 := Tryz.zeroValue4
  t5 := Tryz.underlying5
  a5 := Tryz.isAgg5
  z5 := Tryz.sizeOf5
  v5 := Tryz.zeroValue5
  t9 := Tryz.underlying9
  a9 := Tryz.isAgg9
  z9 := Tryz.sizeOf9
  v9 := Tryz.zeroValue9
  t46 := Tryz.underlying167
  a46 := Tryz.isAgg167
  z46 := Tryz.sizeOf167
  v46 := Tryz.zeroValue167
  t51 := Tryz.underlying189
  a51 := Tryz.isAgg189
  z51 := Tryz.sizeOf189
  v51 := Tryz.zeroValue189
  t53 := Tryz.underlying191
  a53 := Tryz.isAgg191
  z53 := Tryz.sizeOf191
  v53 := Tryz.zeroValue191 }
theorem lenV (n : Nat) (W : World) (h : n ≤ 12) : Calls Tryz.prog 148 #[.int .u64 n] W fun e w' => (∃ l : Int, e = .returned (.int .i64 l)) ∧ w' = W :=
  (Go.Proofs.Any.bits_Len bitsLen n W (by omega) (by omega)).mono fun _ _ ⟨he, hw⟩ => ⟨⟨_, he⟩, hw⟩
theorem enters_byTag : ∀ args w, (callFunc 120 args).run Tryz.prog w = .ok (.enter 120 args) w := enters_of Tryz.func120 (by kernel_rfl) rfl
theorem isAggV : ∀ w, (isAgg 96).run Tryz.prog w = .ok true w := Tryz.isAgg96
theorem sizeOfV : ∀ w, (Go.sizeOf 96).run Tryz.prog w = .ok 6 w := Tryz.sizeOf96
end Go.Proofs.YtnaggcdhimcilaaGreat
/- Contract of slices.SortFunc by byTag over a row of versions of the call's own. Condition: at most 12 of them. -/
namespace Go.Proofs.YtnaggcdhimcilaaGreat
open Go.RowKit Go.Joins
attribute [local go_sem ↓] Go.wp_at_zero Go.wp_at_succ

theorem cells6_len (v : V) : (cells6 v).length = 6 := rfl
theorem cells6_one (v : V) : ∀ u ∈ cells6 v, u.oneCell' = true := fun u hu => by
  simp only [cells6, List.mem_cons, List.not_mem_nil, or_false] at hu
  rcases hu with rfl | rfl | rfl | rfl | rfl | rfl <;> rfl
theorem flatK6 (us : List V) : (Go.Sort.flatK cells6 6 us.toArray) = (flat6 us).toArray := by
  apply Array.ext
  · rw [Go.Sort.size_flatK]
    simp [flat6_len]
  · intro t h1 h2
    rw [Go.Sort.size_flatK] at h1
    have hl : t / 6 < us.length := by simp at h1; omega
    have e := Go.Sort.get_flatK cells6 6 us.toArray t h1
    have hb : t < (Go.Sort.flatK cells6 6 us.toArray).size := by rw [Go.Sort.size_flatK]; exact h1
    rw [getElem!_pos _ t hb] at e
    rw [e]
    have hg : us.toArray[t / 6]! = us[t / 6] := by
      rw [getElem!_pos us.toArray (t / 6) (by simpa using hl)]
      simp
    rw [hg]
    have h6 := flat6_at us (t / 6) us[t / 6] (t % 6) (List.getElem?_eq_getElem hl) (Nat.mod_lt _ (by decide))
    rw [show t / 6 * 6 + t % 6 = t by omega] at h6
    have hm : t % 6 < (cells6 us[t / 6]).length := by rw [cells6_len]; exact Nat.mod_lt _ (by decide)
    rw [List.getElem?_eq_getElem hm] at h6
    obtain ⟨q, h7⟩ := List.getElem?_eq_some_iff.1 h6
    rw [getElem!_pos (cells6 us[t / 6]) (t % 6) hm]
    simp only [List.getElem_toArray]
    exact h7.symm
theorem holdsK6 {base : Nat} {w : World} {g c : Nat} {us : List V} (h : CRow base w (.slice (some ⟨g, 0, none⟩) us.length c) us) : Go.Sort.HoldsK cells6 6 w g 0 us.toArray := by
  unfold Go.Sort.HoldsK Go.Sort.Holds
  rw [flatK6]
  intro j hj
  have hj' : j < us.length * 6 := by simpa [flat6_len] using hj
  refine ⟨?_, ?_⟩
  · rw [Nat.zero_add, World.ownsRow.cellAt (n := us.length) h.row j hj']
    have hl : j < (flat6 us).length := by rw [flat6_len]; exact hj'
    rw [List.getElem?_eq_getElem hl, getElem!_pos _ j hj]
    simp
  · obtain ⟨cs, hb, _⟩ := h.typed g rfl
    exact hb.loose _
theorem cmpLaysV (blk off size : Nat) (w : World) : Go.Proofs.CmpLays Tryz.prog 120 #[] cells6 6 cfV blk off size w :=
  fun _ _ _ _ x y => byTag_gr x y _
/-- What a sort makes of the world. -/
theorem sorted_block {w : World} {g : Nat} {cr : Array Value} (h : Blk w g 96 cr) (n : Nat) (us' : List V) (os : Array Obj) (hs : us'.length * 6 ≤ cr.size) :
    ∃ cr', Blk (Go.Proofs.sortWorldK cells6 6 w g 0 n us'.toArray os) g 96 cr' ∧ cr'.size = cr.size ∧ cr'.toList.take (us'.length * 6) = flat6 us' := by
  refine ⟨Go.Sort.putCells id 0 (flat6 us').toArray cr, ?_, ?_, ?_⟩
  · unfold Go.Proofs.sortWorldK Go.Sort.putRowK Go.Sort.putRow Go.Sort.mapBlock Go.Sort.grow Blk
    rw [flatK6]
    have hi := h.inside
    show ((Go.Sort.ahead w n).heap.modify g _ ++ os)[g]? = _
    rw [Array.getElem?_append_left (by rw [Array.size_modify]; exact hi), Array.getElem?_modify, if_pos rfl]
    show Option.map _ (w.heap[g]?) = _
    rw [show w.heap[g]? = some (.cells cr 96 (0, 0)) from h]
    rfl
  · unfold Go.Sort.putCells
    rw [Array.size_mapIdx]
  · apply List.ext_getElem?
    intro i
    by_cases hi : i < us'.length * 6
    · rw [List.getElem?_take_of_lt hi]
      have hl : i < (flat6 us').length := by rw [flat6_len]; exact hi
      unfold Go.Sort.putCells
      rw [Array.getElem?_toList, Array.getElem?_mapIdx, Array.getElem?_eq_getElem (by omega : i < cr.size), List.getElem?_eq_getElem hl]
      simp only [Option.map_some, Nat.zero_le, Nat.zero_add, true_and, List.size_toArray, Nat.sub_zero, id_eq]
      rw [if_pos hl, getElem!_pos _ i (by simpa using hl)]
      simp
    · rw [List.getElem?_eq_none (by rw [List.length_take]; omega), List.getElem?_eq_none (by rw [flat6_len]; omega)]
theorem sorted_turn (w : World) (g n : Nat) (us' : List V) (os : Array Obj) : Turn (fun y => y = g) w (Go.Proofs.sortWorldK cells6 6 w g 0 n us'.toArray os) := by
  unfold Go.Proofs.sortWorldK Go.Sort.putRowK Go.Sort.putRow Go.Sort.mapBlock Go.Sort.grow
  refine ⟨rfl, rfl, rfl, ?_, fun k hk hne => ?_⟩
  · show w.heap.size ≤ ((Go.Sort.ahead w n).heap.modify g _ ++ os).size
    rw [Array.size_append, Array.size_modify]
    exact Nat.le_add_right _ _
  · show ((Go.Sort.ahead w n).heap.modify g _ ++ os)[k]? = _
    rw [Array.getElem?_append_left (by rw [Array.size_modify]; exact hk), Array.getElem?_modify, if_neg (fun e => hne e.symm)]
    rfl
/-- A row of versions, put in another order in place. -/
theorem CRow.sorted {base : Nat} {w : World} {g c n : Nat} {us us' : List V} {os : Array Obj} (h : CRow base w (.slice (some ⟨g, 0, none⟩) us.length c) us) (hp : us'.Perm us) :
    CRow base (Go.Proofs.sortWorldK cells6 6 w g 0 n us'.toArray os) (.slice (some ⟨g, 0, none⟩) us'.length c) us' := by
  have hT := sorted_turn w g n us' os
  have hl := hp.length_eq
  have hrow : ∃ cr, Blk w g 96 cr ∧ base ≤ g ∧ us.length ≤ c ∧ c ≤ maxLen ∧ cr.size = c * 6 := by
    rcases h.row.2 with ⟨q, _⟩ | ⟨g', cap, cr, q, h1, h2, h3, h4, h5, _⟩
    · cases q
    · injection q with q1 q2 q3
      injection q1 with q1
      injection q1 with q1
      subst q1 q3
      exact ⟨cr, h2, h1, h3, h4, h5⟩
  obtain ⟨cr, hb, h1, h3, h4, h5⟩ := hrow
  obtain ⟨cr', hb', hs', ht'⟩ := sorted_block hb n us' os (by rw [h5]; omega)
  have hap : us.Pairwise (fun v v' => v.ts ≠ [] → v'.ts ≠ [] → v.a ≠ v'.a) := by
    rw [List.pairwise_iff_getElem]
    intro i j hi hj hij
    exact h.apart i j _ _ (by omega) (List.getElem?_eq_getElem hi) (List.getElem?_eq_getElem hj)
  have hap' := (List.Perm.pairwise_iff (fun {x y} q a b => fun e => q b a e.symm) hp).2 hap
  rw [List.pairwise_iff_getElem] at hap'
  refine ⟨⟨by rw [flat6_len], .inr ⟨g, c, cr', rfl, h1, hb', by omega, h4, by rw [hs', h5], ht'⟩⟩, fun i v hi => ?_, fun i j v v' hne hi hj q q' => ?_, Nat.le_trans h.lo hT.size⟩
  · obtain ⟨j, hj⟩ := List.getElem?_of_mem (hp.mem_iff.1 (List.mem_of_getElem? hi))
    have ho := h.own j v hj
    refine (ho.turned hT (fun g' hg' _ _ hnz e => ?_)).wide hT.size
    rcases ho with q | ⟨g2, cur, e2, _, _, hb2, _⟩
    · exact hnz q
    · rw [hg'] at e2
      injection e2 with e2
      injection e2 with e2
      subst e2
      rw [e] at hb2
      exact ver_ne_tag (blk_one hb hb2)
  · obtain ⟨hi1, rfl⟩ := List.getElem?_eq_some_iff.1 hi
    obtain ⟨hj1, rfl⟩ := List.getElem?_eq_some_iff.1 hj
    rcases Nat.lt_or_gt_of_ne hne with hlt | hlt
    · exact hap' i j hi1 hj1 hlt q q'
    · exact fun e => hap' j i hj1 hi1 hlt q' q e.symm
set_option maxHeartbeats 2000000 in
theorem sort_row (base g c : Nat) (us : List V) (w : World) (h : CRow base w (.slice (some ⟨g, 0, none⟩) us.length c) us) (h12 : us.length ≤ 12) :
    Calls Tryz.prog 119 #[.slice (some ⟨g, 0, none⟩) us.length c, .func (.func 120) #[] #[]] w fun e w' =>
      e = .returned (.tuple #[]) ∧ ∃ us', us'.Perm us ∧ us'.Pairwise (fun a b => ltV b a = false) ∧ CRow base w' (.slice (some ⟨g, 0, none⟩) us'.length c) us' ∧ Turn (fun y => y = g) w w' := by
  have hblk : g < w.heap.size := h.caps.2
  have C := Go.Proofs.AnyQ.slices_SortFunc_small_sorted sortVer 6 isAggV sizeOfV cells6 cells6_len cells6_one cfV 120 #[] swoV g 0 c us.toArray w enters_byTag (cmpLaysV g 0 _ w) (holdsK6 h) hblk (by simpa using h12) lenV
  change Calls Tryz.prog 119 _ _ _ at C
  simp only [List.size_toArray] at C
  refine C.mono ?_
  rintro e w' ⟨he, d', n, os, hp, hs, rfl⟩
  obtain ⟨us', rfl⟩ : ∃ us' : List V, d' = us'.toArray := ⟨d'.toList, by simp⟩
  have hsz : us'.length = us.length := by simpa using hp.1
  have hperm : us'.Perm us := by
    have := hp.2.2
    simp only [List.extract_toArray, List.extract_eq_take_drop, Nat.sub_zero, List.drop_zero] at this
    rw [List.take_of_length_le (by omega), List.take_of_length_le (Nat.le_refl _)] at this
    exact this
  refine ⟨he, us', hperm, ?_, h.sorted hperm, sorted_turn w g n us' os⟩
  rw [List.pairwise_iff_getElem]
  intro i j hi hj hij
  have := hs i j (Nat.zero_le _) hij (by omega)
  rw [getElem!_pos _ j (by simpa using hj), getElem!_pos _ i (by simpa using hi)] at this
  simpa using this
theorem sort_none (w : World) :
    Calls Tryz.prog 119 #[.slice none 0 0, .func (.func 120) #[] #[]] w fun e w' => e = .returned (.tuple #[]) ∧ w' = w :=
  Go.Proofs.AnyF.slices_SortFunc_none sortVer none 0 _ w
end Go.Proofs.YtnaggcdhimcilaaGreat
