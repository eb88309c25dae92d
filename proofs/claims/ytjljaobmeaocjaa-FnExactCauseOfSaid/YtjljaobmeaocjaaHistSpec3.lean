/- Contract of the model's walk through a history. Condition: the history is well formed. -/
import Derived.Test.YtjljaobmeaocjaaHistRow
import Derived.Test.YtjljaobmeaocjaaFormSpec
import Derived.Test.YtjljaobmeaocjaaReg
import Derived.Deep.DeepCutAuto
namespace Go.Proofs.Ytjljaobmeaocjaa
open Go.RowKit Go.Joins
attribute [local go_sem ↓] Go.wp_at_zero Go.wp_at_succ

theorem TB.cells {w : World} {g : Nat} {x : T4} (h : TB w g x) {i : Nat} {y : Int × Int} (hy : x[i]? = some y) : w.cell? ⟨g, i * 2, none⟩ = some (.int .i64 y.1) ∧ w.cell? ⟨g, i * 2 + 1, none⟩ = some (.int .i64 y.2) := by
  obtain ⟨cur, h1, _, _, h4⟩ := h
  obtain ⟨a0, a1⟩ := h4 i y hy
  exact ⟨(h1.at _).trans a0, (h1.at _).trans a1⟩
/-- In a round: the record in block D0, the client's view in the next. -/
structure RS (w : World) (G base gs cap : Nat) (st : St) (D0 : Nat) (d : D) (mg mc : Nat) (mv : T4) (wr : World) : Prop where
  ws : WS w G base gs cap st wr
  row : Blk wr D0 53 (doneC d.1 d.2.1 d.2.2.1 d.2.2.2.1 d.2.2.2.2)
  mine : Blk wr (D0 + 1) 35 #[.slice (some ⟨mg, 0, none⟩) 4 mc]
  tb : TB wr mg mv
  lo : base ≤ D0
  gsd : gs < D0
  mlo : w.heap.size ≤ mg
section
variable {w wr w2 : World} {G base gs cap D0 mg mc : Nat} {st : St} {d : D} {mv : T4}
theorem RS.on (h : RS w G base gs cap st D0 d mg mc mv wr) (hb : Below wr.heap.size wr w2) : RS w G base gs cap st D0 d mg mc mv w2 :=
  ⟨h.ws.on hb, h.row.on hb, h.mine.on hb, h.tb.on hb, h.lo, h.gsd, h.mlo⟩
theorem RS.drew (h : RS w G base gs cap st D0 d mg mc mv wr) : RS w G base gs cap st D0 d mg mc mv wr.drew := ⟨h.ws.drew, h.row, h.mine, h.tb.tk (.drew _), h.lo, h.gsd, h.mlo⟩
theorem RS.alloc (h : RS w G base gs cap st D0 d mg mc mv wr) (o : Obj) : RS w G base gs cap st D0 d mg mc mv (wr.alloc o) := h.on (below_alloc1 wr o)
theorem RS.aside (h : RS w G base gs cap st D0 d mg mc mv wr) {p : Addr} {T : TypeId} {cs : Array Value} (hb : Blk wr p.block T cs) (hT : T ≠ 43) (hp : D0 + 2 ≤ p.block) (u : Value) : RS w G base gs cap st D0 d mg mc mv (wr.setCell p u) := by
  have h1 := h.lo
  have h2 := h.gsd
  exact ⟨h.ws.aside hb hT (by omega) (by omega) u, h.row.aside (by omega) u, h.mine.aside (by omega) u, h.tb.tk (.set hb hT u), h.lo, h.gsd, h.mlo⟩
theorem RS.swap {a b : Value} (h : RS w G base gs cap st D0 d mg mc mv (wr.alloc (.cells #[a] 35))) (hp : D0 + 2 ≤ wr.heap.size) : RS w G base gs cap st D0 d mg mc mv (wr.alloc (.cells #[b] 35)) := by
  have := h.aside (p := ⟨wr.heap.size, 0, none⟩) (Blk.made _ _ _) past_ne_tag hp b
  rw [World.setCell_alloc_new] at this
  simpa using this
theorem RS.high (h : RS w G base gs cap st D0 d mg mc mv wr) : D0 + 2 ≤ wr.heap.size := h.mine.inside
/-- The client's view turned, in its box. -/
theorem RS.turn (h : RS w G base gs cap st D0 d mg mc mv wr) {ng nc : Nat} {nv : T4} (hn : TB wr ng nv) (hlo : w.heap.size ≤ ng) : RS w G base gs cap st D0 d ng nc nv (wr.setCell ⟨D0 + 1, 0, none⟩ (.slice (some ⟨ng, 0, none⟩) 4 nc)) := by
  have h1 := h.lo
  have h2 := h.gsd
  have hb := h.mine
  exact ⟨h.ws.aside (p := ⟨D0 + 1, 0, none⟩) hb past_ne_tag (by show base ≤ D0 + 1; omega) (by show gs ≠ D0 + 1; omega) _, h.row.aside (by show D0 ≠ D0 + 1; omega) _, by simpa using hb.put 0 (.slice (some ⟨ng, 0, none⟩) 4 nc), hn.tk (.set (p := ⟨D0 + 1, 0, none⟩) hb past_ne_tag _), h.lo, h.gsd, hlo⟩
end
theorem wrote_any {w : World} {r : Option (D × T4)} {e : Ending} {w' : World} (h : WroteS w r e w') : ∃ A m c, e = .returned (.tuple #[.agg #[.slice A m c], .bool r.isSome]) ∧ Below w.heap.size w w' ∧ ∀ x, r = some x → ∃ g, A = some ⟨g, 0, none⟩ ∧ m = 4 ∧ TB w' g x.2 := by
  obtain ⟨h1, h2, h3⟩ := h
  cases r with
  | none => exact ⟨none, 0, 0, h1 rfl, h3, fun x hx => by cases hx⟩
  | some x =>
    obtain ⟨g, c, he, ht⟩ := h2 x rfl
    exact ⟨some ⟨g, 0, none⟩, 4, c, he, h3, fun y hy => by injection hy with hy; subst hy; exact ⟨g, rfl, rfl, ht⟩⟩

/-- What the walk answers: how far the history fits, and what was seen behind each record. -/
def Walked (w : World) (ds : List D) (e : Ending) (w' : World) : Prop :=
  ∃ (k : Nat) (st : St) (gs cap : Nat), e = .returned (.tuple #[.slice (some ⟨gs, 0, none⟩) k cap, .int .i64 (k : Int)]) ∧ farH ds = k ∧ Runs (ds.take k) st ∧ st.2.length = k ∧ w.heap.size ≤ gs ∧ gs < w'.heap.size ∧ (∀ (i : Nat) x, st.2[i]? = some x → PV w.heap.size w' (w'.cell? ⟨gs, i, none⟩) x.2) ∧ Below w.heap.size w w'
theorem WS.walked {w w' : World} {G base gs cap k : Nat} {st : St} {ds : List D} (h : WS w G base gs cap st w') (hk : st.2.length = k) (hr : Runs (ds.take k) st) (hf : farH ds = k) : Walked w ds (.returned (.tuple #[.slice (some ⟨gs, 0, none⟩) k cap, .int .i64 (k : Int)])) w' :=
  ⟨k, st, gs, cap, rfl, hf, hr, hk, by have := h.lo; have := h.hi; have := h.gsLo; omega, h.gsHi, fun _ _ hx => h.saw hx, h.below⟩
theorem pastInfo : (Try.prog.info? 35).map (fun i => (i.zero, i.size, i.bytes)) = some (some (.agg #[.slice none 0 0]), 1, 24) := by kernel_rfl

/-- The first loop's row: k vectors of none. -/
def Rows0 (w : World) (v : Value) (k : Nat) (wr : World) : Prop := ∃ cs, wr.ownsRow w.heap.size 35 1 v k cs ∧ (∀ i, i < k → PV w.heap.size wr cs[i]? z4) ∧ Below w.heap.size w wr
theorem rows0_end {w wr : World} {v : Value} (h : Rows0 w v 4 wr) : ∃ G cap cur, v = .slice (some ⟨G, 0, none⟩) 4 cap ∧ w.heap.size ≤ G ∧ Blk wr G 35 cur ∧ 4 ≤ cur.size ∧ (∀ i, i < 4 → PV w.heap.size wr cur[i]? z4) ∧ Below w.heap.size w wr := by
  obtain ⟨cs, h1, h2, h3⟩ := h
  rcases h1.2 with ⟨_, e⟩ | ⟨g, cap, cur, e, hg, hb, hn, hm, hs, ht⟩
  · cases e
  · refine ⟨g, cap, cur, e, hg, hb, by omega, fun i hi => ?_, h3⟩
    have := h2 i hi
    rw [← ht, List.getElem?_take_of_lt (by omega)] at this
    simpa using this
theorem ws_start {w W : World} {G : Nat} {cur : Array Value} (hG : w.heap.size ≤ G) (hb : Blk W G 35 cur) (h4 : 4 ≤ cur.size) (hp : ∀ i, i < 4 → PV w.heap.size W cur[i]? z4) (hl : Below w.heap.size w W) : WS w G W.heap.size W.heap.size 0 st0 (W.alloc (.cells #[] 35)) := by
  refine ⟨hl.alloc hl.size _, hG, hb.inside, by simp, Nat.le_refl _, ⟨cur, hb.more _, h4, fun i x hx => ?_⟩, ⟨#[], Blk.made _ _ _, Nat.le_refl _, Nat.zero_le _, rfl, fun i x hx => by simp [st0] at hx⟩⟩
  have hi := (List.getElem?_eq_some_iff.1 hx).1
  have e : x = z4 := by
    have := List.mem_of_getElem? hx
    simpa [st0] using this
  subst e
  exact (hp i (by simpa [st0] using hi)).tk (.alloc _ _)
end Go.Proofs.Ytjljaobmeaocjaa
