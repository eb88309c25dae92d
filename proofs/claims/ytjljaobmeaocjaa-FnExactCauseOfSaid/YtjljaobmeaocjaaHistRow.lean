/- What the model's walk through a history keeps in memory: rows of vectors. And the steps of a history, case by case. -/
import Derived.Test.YtjljaobmeaocjaaHistSpec2
namespace Go.Proofs.Ytjljaobmeaocjaa
open Go.RowKit Go.Joins

/-- Every block of tags stays as it is. -/
def Tk (w w' : World) : Prop := ∀ g cur, Blk w g 43 cur → Blk w' g 43 cur
theorem Tk.below {w w' : World} (h : Below w.heap.size w w') : Tk w w' := fun _ _ hb => hb.on h
theorem Tk.drew (w : World) : Tk w w.drew := fun _ _ hb => hb
theorem Tk.alloc (w : World) (o : Obj) : Tk w (w.alloc o) := fun _ _ hb => hb.more o
theorem Tk.trans {a b c : World} (h : Tk a b) (k : Tk b c) : Tk a c := fun g cur hb => k g cur (h g cur hb)
theorem blk_type {w : World} {g : Nat} {T T' : TypeId} {cs cs' : Array Value} (h : Blk w g T cs) (h' : Blk w g T' cs') : T = T' ∧ cs = cs' := by
  unfold Blk at h h'
  rw [h] at h'
  injection h' with h'
  injection h' with h1 h2 h3
  exact ⟨h2, h1⟩
theorem Tk.set {w : World} {p : Addr} {T : TypeId} {cs : Array Value} (hb : Blk w p.block T cs) (hT : T ≠ 43) (u : Value) : Tk w (w.setCell p u) := fun _ _ h => h.aside (fun e => by
  subst e
  exact hT (blk_type hb h).1) u
theorem Tk.grown {w w' : World} {row : Option Nat} (hg : w.grownBy w' row) (hr : ∀ r, row = some r → ∃ T cs, Blk w r T cs ∧ T ≠ 43) : Tk w w' := fun g _ h => h.kept hg (fun e => by
  obtain ⟨T, cs, hb, hT⟩ := hr g e
  exact hT (blk_type hb h).1)
theorem TB.tk {w w' : World} {g : Nat} {x : T4} (h : TB w g x) (hk : Tk w w') : TB w' g x := by
  obtain ⟨cur, h1, h2, h3, h4⟩ := h
  exact ⟨cur, hk _ _ h1, h2, h3, h4⟩

/-- A cell that holds a vector of four. -/
def PV (B : Nat) (w : World) (o : Option Value) (x : T4) : Prop := ∃ g c, o = some (.slice (some ⟨g, 0, none⟩) 4 c) ∧ TB w g x ∧ B ≤ g
theorem PV.tk {B : Nat} {w w' : World} {o : Option Value} {x : T4} (h : PV B w o x) (hk : Tk w w') : PV B w' o x := by
  obtain ⟨g, c, h1, h2, h3⟩ := h
  exact ⟨g, c, h1, h2.tk hk, h3⟩
theorem PV.bare {B : Nat} {w : World} {o : Option Value} {x : T4} (h : PV B w o x) : ∃ g c, o = some (.slice (some ⟨g, 0, none⟩) 4 c) ∧ TB w g x := by
  obtain ⟨g, c, h1, h2, _⟩ := h
  exact ⟨g, c, h1, h2⟩

/-- The row of the clients' views, in block G; the row of what was seen, in block gs, made behind block base. -/
structure WS (w : World) (G base gs cap : Nat) (st : St) (wr : World) : Prop where
  below : Below w.heap.size w wr
  lo : w.heap.size ≤ G
  hi : G < base
  room : base ≤ wr.heap.size
  gsLo : base ≤ gs
  sees : ∃ cur, Blk wr G 35 cur ∧ 4 ≤ cur.size ∧ ∀ (i : Nat) x, st.1[i]? = some x → PV w.heap.size wr cur[i]? x
  seen : ∃ cur, Blk wr gs 35 cur ∧ st.2.length ≤ cap ∧ cap ≤ maxLen ∧ cur.size = cap ∧ ∀ (i : Nat) x, st.2[i]? = some x → PV w.heap.size wr cur[i]? x.2
section
variable {w wr w2 : World} {G base gs cap : Nat} {st : St}
theorem past_ne_tag : (35 : TypeId) ≠ 43 := by decide
theorem WS.gsHi (h : WS w G base gs cap st wr) : gs < wr.heap.size := by obtain ⟨cur, hb, _⟩ := h.seen; exact hb.inside
theorem WS.on (h : WS w G base gs cap st wr) (hb : Below wr.heap.size wr w2) : WS w G base gs cap st w2 := by
  obtain ⟨c1, b1, s1, p1⟩ := h.sees
  obtain ⟨c2, b2, s2, s3, s4, p2⟩ := h.seen
  exact ⟨h.below.trans (hb.mono h.below.size), h.lo, h.hi, Nat.le_trans h.room hb.size, h.gsLo, ⟨c1, b1.on hb, s1, fun i x hx => (p1 i x hx).tk (.below hb)⟩, ⟨c2, b2.on hb, s2, s3, s4, fun i x hx => (p2 i x hx).tk (.below hb)⟩⟩
theorem WS.drew (h : WS w G base gs cap st wr) : WS w G base gs cap st wr.drew := by
  obtain ⟨c1, b1, s1, p1⟩ := h.sees
  obtain ⟨c2, b2, s2, s3, s4, p2⟩ := h.seen
  exact ⟨h.below.drew, h.lo, h.hi, h.room, h.gsLo, ⟨c1, b1, s1, p1⟩, ⟨c2, b2, s2, s3, s4, p2⟩⟩
/-- A store elsewhere, into a block that holds no tags. -/
theorem WS.aside (h : WS w G base gs cap st wr) {p : Addr} {T : TypeId} {cs : Array Value} (hb : Blk wr p.block T cs) (hT : T ≠ 43) (hp : base ≤ p.block) (hq : gs ≠ p.block) (u : Value) : WS w G base gs cap st (wr.setCell p u) := by
  obtain ⟨c1, b1, s1, p1⟩ := h.sees
  obtain ⟨c2, b2, s2, s3, s4, p2⟩ := h.seen
  have h1 := h.lo
  have h2 := h.hi
  exact ⟨h.below.setCell (by omega) u, h.lo, h.hi, by simpa [World.setCell] using h.room, h.gsLo, ⟨c1, b1.aside (by omega) u, s1, fun i x hx => (p1 i x hx).tk (.set hb hT u)⟩, ⟨c2, b2.aside hq u, s2, s3, s4, fun i x hx => (p2 i x hx).tk (.set hb hT u)⟩⟩
theorem WS.see (h : WS w G base gs cap st wr) {i : Nat} {x : T4} (hx : st.1[i]? = some x) : PV w.heap.size wr (wr.cell? ⟨G, i, none⟩) x := by
  obtain ⟨c1, b1, s1, p1⟩ := h.sees
  rw [b1.at]
  exact p1 i x hx
theorem WS.saw (h : WS w G base gs cap st wr) {i : Nat} {x : D × T4} (hx : st.2[i]? = some x) : PV w.heap.size wr (wr.cell? ⟨gs, i, none⟩) x.2 := by
  obtain ⟨c2, b2, s2, s3, s4, p2⟩ := h.seen
  rw [b2.at]
  exact p2 i x hx
theorem WS.loose (h : WS w G base gs cap st wr) (i : Nat) : wr.frozen? ⟨G, i, none⟩ = false := by
  obtain ⟨c1, b1, s1, p1⟩ := h.sees
  exact b1.loose i
/-- A client's view turned. -/
theorem WS.put (h : WS w G base gs cap st wr) {sn : Nat} (hs : sn < 4) {mg mc : Nat} {mv : T4} (hm : TB wr mg mv) (hlo : w.heap.size ≤ mg) : WS w G base gs cap (st.1.set sn mv, st.2) (wr.setCell ⟨G, sn, none⟩ (.slice (some ⟨mg, 0, none⟩) 4 mc)) := by
  obtain ⟨c1, b1, s1, p1⟩ := h.sees
  obtain ⟨c2, b2, s2, s3, s4, p2⟩ := h.seen
  have h1 := h.lo
  have h2 := h.hi
  have h3 := h.gsLo
  have hk : Tk wr (wr.setCell ⟨G, sn, none⟩ (.slice (some ⟨mg, 0, none⟩) 4 mc)) := .set (p := ⟨G, sn, none⟩) b1 past_ne_tag _
  refine ⟨h.below.setCell h1 _, h.lo, h.hi, by simpa [World.setCell] using h.room, h.gsLo, ⟨_, b1.put sn _, by simpa using s1, fun i x hx => ?_⟩, ⟨c2, b2.aside (by show gs ≠ G; omega) _, s2, s3, s4, fun i x hx => (p2 i x hx).tk hk⟩⟩
  by_cases e : i = sn
  · subst e
    have hl := (List.getElem?_eq_some_iff.1 hx).1
    simp only [List.length_set] at hl
    simp only [List.getElem?_set_self hl] at hx
    injection hx with hx
    subst hx
    exact ⟨mg, mc, by rw [Array.getElem?_setIfInBounds_self]; simp; omega, hm.tk hk, hlo⟩
  · simp only [List.getElem?_set_ne (fun e' => e e'.symm)] at hx
    rw [Array.getElem?_setIfInBounds_ne (fun e' => e e'.symm)]
    exact (p1 i x hx).tk hk
theorem WS.owns (h : WS w G base gs cap st wr) : ∃ xs, wr.ownsRow base 35 1 (.slice (some ⟨gs, 0, none⟩) st.2.length cap) st.2.length xs ∧ ∀ (i : Nat) x, st.2[i]? = some x → PV w.heap.size wr xs[i]? x.2 := by
  obtain ⟨c2, b2, s2, s3, s4, p2⟩ := h.seen
  refine ⟨c2.toList.take (st.2.length * 1), ⟨?_, .inr ⟨gs, cap, c2, rfl, h.gsLo, b2, s2, s3, by omega, rfl⟩⟩, fun i x hx => ?_⟩
  · rw [List.length_take]; simp; omega
  · have hl := (List.getElem?_eq_some_iff.1 hx).1
    rw [List.getElem?_take_of_lt (by omega)]
    simpa using p2 i x hx
/-- One record more has been seen. -/
theorem WS.push (h : WS w G base gs cap st wr) {g2 cap2 mg mc : Nat} {mv : T4} {d : D} {xs : List Value} (hx : ∀ (i : Nat) x, st.2[i]? = some x → PV w.heap.size wr xs[i]? x.2) (hl : xs.length = st.2.length * 1)
    (ho : w2.ownsRow base 35 1 (.slice (some ⟨g2, 0, none⟩) (st.2.length + 1) cap2) (st.2.length + 1) (xs ++ [.slice (some ⟨mg, 0, none⟩) 4 mc])) (hg : wr.grownBy w2 (some gs)) (hm : TB wr mg mv) (hlo : w.heap.size ≤ mg) :
    WS w G base g2 cap2 (st.1, st.2 ++ [(d, mv)]) w2 := by
  obtain ⟨c1, b1, s1, p1⟩ := h.sees
  obtain ⟨c2, b2, s2, s3, s4, p2⟩ := h.seen
  have h1 := h.lo
  have h2 := h.hi
  have h3 := h.gsLo
  have h4 := h.below.size
  have hk : Tk wr w2 := .grown hg fun r e => by
    injection e with e
    subst e
    exact ⟨_, _, b2, past_ne_tag⟩
  rcases ho.2 with ⟨e, _⟩ | ⟨g', cap', cur, e, hb', hB, hn, hm', hs, ht⟩
  · cases e
  · injection e with e1 e2 e3
    injection e1 with e1
    injection e1 with e1
    subst e1 e3
    refine ⟨h.below.grown hg h4 (fun r e => by injection e with e; omega), h.lo, h.hi, Nat.le_trans h.room hg.size, hb', ⟨c1, b1.kept hg (fun e => by injection e with e; omega), s1, fun i x hx => (p1 i x hx).tk hk⟩, ⟨cur, hB, by simpa using hn, hm', by omega, fun i x hi => ?_⟩⟩
    have hi' := (List.getElem?_eq_some_iff.1 hi).1
    simp only [List.length_append, List.length_singleton] at hi'
    have e0 : cur[i]? = (xs ++ [.slice (some ⟨mg, 0, none⟩) 4 mc])[i]? := by
      rw [← ht, List.getElem?_take_of_lt (by omega)]
      simp
    rw [e0]
    by_cases hlt : i < st.2.length
    · rw [List.getElem?_append_left (by omega)]
      simp only [List.getElem?_append_left hlt] at hi
      exact (hx i x hi).tk hk
    · have he : i = st.2.length := by omega
      subst he
      rw [List.getElem?_append_right (by omega)]
      simp at hi
      subst hi
      exact ⟨mg, mc, by simp [hl], hm.tk hk, hlo⟩
end

section
variable {st : St} {x0 x1 x2 x3 x4 : Int}
theorem stp_twice (h1 : (x1 == 1) = true) {x} (hw : wrote st x3 x4 = some x) : stepH st (x0, x1, x2, x3, x4) = none := by simp [stepH, h1, hw]
theorem stp_early (h1 : (x1 == 1) = true) (hw : wrote st x3 x4 = none) (hl : lateB (viewOf st x0) x3 = false) : stepH st (x0, x1, x2, x3, x4) = none := by simp [stepH, h1, hw, hl]
theorem stp_write (h1 : (x1 == 1) = true) (hw : wrote st x3 x4 = none) (hl : lateB (viewOf st x0) x3 = true) : stepH st (x0, x1, x2, x3, x4) = some (st.1, st.2 ++ [((x0, x1, x2, x3, x4), viewOf st x0)]) := by simp [stepH, h1, hw, hl]
theorem stp_less (h1 : (x1 == 1) = false) (hl : lessB x3 x4 (tagAt (viewOf st x0) x2).1 (tagAt (viewOf st x0) x2).2 = true) : stepH st (x0, x1, x2, x3, x4) = none := by simp [stepH, h1, hl]
theorem stp_zero (h1 : (x1 == 1) = false) (hl : lessB x3 x4 (tagAt (viewOf st x0) x2).1 (tagAt (viewOf st x0) x2).2 = false) (hz : eqB x3 x4 0 0 = true) : stepH st (x0, x1, x2, x3, x4) = some (st.1, st.2 ++ [((x0, x1, x2, x3, x4), viewOf st x0)]) := by simp [stepH, h1, hl, hz]
theorem stp_gone (h1 : (x1 == 1) = false) (hl : lessB x3 x4 (tagAt (viewOf st x0) x2).1 (tagAt (viewOf st x0) x2).2 = false) (hz : eqB x3 x4 0 0 = false) (hw : wrote st x3 x4 = none) : stepH st (x0, x1, x2, x3, x4) = none := by simp [stepH, h1, hl, hz, hw]
theorem stp_key (h1 : (x1 == 1) = false) (hl : lessB x3 x4 (tagAt (viewOf st x0) x2).1 (tagAt (viewOf st x0) x2).2 = false) (hz : eqB x3 x4 0 0 = false) {x} (hw : wrote st x3 x4 = some x) (hk : (x.1.2.2.1 == x2) = false) : stepH st (x0, x1, x2, x3, x4) = none := by simp [stepH, h1, hl, hz, hw, hk]
theorem stp_own (h1 : (x1 == 1) = false) (hl : lessB x3 x4 (tagAt (viewOf st x0) x2).1 (tagAt (viewOf st x0) x2).2 = false) (hz : eqB x3 x4 0 0 = false) {x} (hw : wrote st x3 x4 = some x) (hk : (x.1.2.2.1 == x2) = true) (h3 : (x1 == 3) = true) (ho : (x.1.1 == x0) = false) : stepH st (x0, x1, x2, x3, x4) = none := by
  have : (x.1.1 != x0) = true := by simp [bne, ho]
  simp [stepH, h1, hl, hz, hw, hk, h3, this]
theorem stp_read (h1 : (x1 == 1) = false) (hl : lessB x3 x4 (tagAt (viewOf st x0) x2).1 (tagAt (viewOf st x0) x2).2 = false) (hz : eqB x3 x4 0 0 = false) {x} (hw : wrote st x3 x4 = some x) (hk : (x.1.2.2.1 == x2) = true) (h3 : ((x1 == 3) && (x.1.1 != x0)) = false) :
    stepH st (x0, x1, x2, x3, x4) = some (st.1.set x0.toNat (sawT (viewOf st x0) x.2 (x0, x1, x2, x3, x4)), st.2 ++ [((x0, x1, x2, x3, x4), sawT (viewOf st x0) x.2 (x0, x1, x2, x3, x4))]) := by
  simp only [stepH, h1, hl, hz, hw, hk, h3, if_true, if_false, Bool.false_eq_true]
theorem view_at {sn : Nat} (h : StOk st) (hs : sn < 4) : st.1[sn]? = some (viewOf st (sn : Int)) := by
  unfold viewOf
  rw [Int.toNat_natCast, List.getD_eq_getElem?_getD]
  obtain ⟨v, hv⟩ : ∃ v, st.1[sn]? = some v := ⟨_, List.getElem?_eq_getElem (by have := h.1; omega)⟩
  rw [hv]
  rfl
theorem view_same {sn : Nat} (h : StOk st) (hs : sn < 4) : st.1.set sn (viewOf st (sn : Int)) = st.1 := by
  apply List.ext_getElem?
  intro i
  by_cases e : i = sn
  · subst e
    rw [List.getElem?_set_self (by have := h.1; omega), view_at h hs]
  · rw [List.getElem?_set_ne (fun e' => e e'.symm)]
theorem tag_at {v : T4} {yn : Nat} (h : v.length = 4) (hy : yn < 4) : v[yn]? = some (tagAt v (yn : Int)) := by
  unfold tagAt
  rw [Int.toNat_natCast, List.getD_eq_getElem?_getD]
  obtain ⟨x, hx⟩ : ∃ x, v[yn]? = some x := ⟨_, List.getElem?_eq_getElem (by omega)⟩
  rw [hx]
  rfl
end
end Go.Proofs.Ytjljaobmeaocjaa
