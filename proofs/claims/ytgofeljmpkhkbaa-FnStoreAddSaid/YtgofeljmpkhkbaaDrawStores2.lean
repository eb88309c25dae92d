/- Contract of the draw of a store, valid or not. Condition: as in Draw. -/
import Derived.Test.YtgofeljmpkhkbaaDrawStores
namespace Go.Proofs.Ytgofeljmpkhkbaa
open Go.RowKit Go.Joins
attribute [local go_sem ↓] Go.wp_at_zero Go.wp_at_succ

/-- A slice that reads as these versions, all in blocks from lo on, and none in block g. -/
def VgIn (w : World) (lo g : Nat) (a : Option Addr) (vs : List V) : Prop :=
  ∃ b off : Nat, a = some ⟨b, off, none⟩ ∧ lo ≤ b ∧ b ≠ g ∧ b < w.heap.size ∧ ∀ i v, vs[i]? = some v → Six w b (off + i * 6) v ∧ (v.ts = [] ∨ PastIn w lo g v.a v.ts)
section
variable {w w' : World} {lo g : Nat} {a : Option Addr} {vs : List V}
theorem VgIn.vg (h : VgIn w lo g a vs) : Vg w w.heap.size a vs := by
  obtain ⟨b, off, ha, _, _, hb, hx⟩ := h
  refine .inr ⟨b, off, ha, hb, fun i v hi => ⟨(hx i v hi).1, ?_⟩⟩
  rcases (hx i v hi).2 with q | q
  · exact .inl q
  · exact q.tg
theorem VgIn.of (h : VgIn w lo g a vs) (hk : ∀ b o : Nat, lo ≤ b → b ≠ g → b < w.heap.size → w'.cell? ⟨b, o, none⟩ = w.cell? ⟨b, o, none⟩) (hs : w.heap.size ≤ w'.heap.size) : VgIn w' lo g a vs := by
  obtain ⟨b, off, ha, h1, h2, h3, hx⟩ := h
  refine ⟨b, off, ha, h1, h2, by omega, fun i v hi => ?_⟩
  obtain ⟨⟨a0, a1, a2, a3, a4, a5⟩, hp⟩ := hx i v hi
  refine ⟨⟨(hk _ _ h1 h2 h3).trans a0, (hk _ _ h1 h2 h3).trans a1, (hk _ _ h1 h2 h3).trans a2, (hk _ _ h1 h2 h3).trans a3, (hk _ _ h1 h2 h3).trans a4, (hk _ _ h1 h2 h3).trans a5⟩, ?_⟩
  rcases hp with hp | ⟨b', off', e1, e2, e3, e4, e5⟩
  · exact .inl hp
  · exact .inr ⟨b', off', e1, e2, e3, by omega, fun j x hj => ⟨(hk _ _ e2 e3 e4).trans (e5 j x hj).1, (hk _ _ e2 e3 e4).trans (e5 j x hj).2⟩⟩
theorem VgIn.kept (h : VgIn w lo g a vs) (hg : w.grownBy w' (some g)) : VgIn w' lo g a vs :=
  h.of (fun b o _ h2 h3 => World.cell?_of_block (w := w) (w' := w') (a := ⟨b, o, none⟩) (hg.block b h3 (fun e => h2 (by injection e)))) hg.size
theorem VgIn.on (h : VgIn w lo g a vs) (hb : Below w.heap.size w w') : VgIn w' lo g a vs := h.kept (grown_none hb)
theorem VgIn.aside (h : VgIn w lo g a vs) {p : Addr} (hp : p.block < lo) (u : Value) : VgIn (w.setCell p u) lo g a vs :=
  h.of (fun b o h1 _ _ => World.cell?_of_block (w := w) (w' := w.setCell p u) (a := ⟨b, o, none⟩) (Below.heap_setCell w p u b (by omega))) (by simp [World.setCell])
theorem VgIn.low {lo' : Nat} (h : VgIn w lo g a vs) (hl : lo' ≤ lo) : VgIn w lo' g a vs := by
  obtain ⟨b, off, ha, h1, h2, h3, hx⟩ := h
  refine ⟨b, off, ha, by omega, h2, h3, fun i v hi => ⟨(hx i v hi).1, ?_⟩⟩
  rcases (hx i v hi).2 with q | q
  · exact .inl q
  · exact .inr (q.low hl)
end
theorem Own1.pastIn {w : World} {B U lo g : Nat} {v : V} (h : Own1 w B U v) (hl : lo ≤ B) (hg : g < lo) : v.ts = [] ∨ PastIn w lo g v.a v.ts := by
  rcases h with h | ⟨b, cur, h1, h2, h3, h4, h5, h6⟩
  · exact .inl h
  · refine .inr ⟨b, 0, h1, by omega, by omega, h4.inside, fun i x hi => ?_⟩
    rw [Nat.zero_add]
    exact ⟨(h4.at _).trans (h6 i x hi).1, (h4.at _).trans (h6 i x hi).2⟩
theorem ORow.vgIn {w : World} {B U G lo g : Nat} {us : List V} {cur : Array Value} (h : ORow w B U G us cur) (hl : lo ≤ B) (hg : g < lo) : VgIn w lo g (some ⟨G, 0, none⟩) us := by
  have := h.lo
  refine ⟨G, 0, rfl, by omega, by omega, h.blk.inside, fun i v hi => ⟨?_, (h.own i v hi).pastIn hl hg⟩⟩
  obtain ⟨h0, h1, h2, h3, h4, h5⟩ := h.at' i v hi
  refine ⟨?_, ?_, ?_, ?_, ?_, ?_⟩
  all_goals
    rw [Nat.zero_add, h.blk.at]
    assumption
/-- The row without its first version. -/
theorem VgIn.tail {w : World} {G lo g : Nat} {us : List V} (h : VgIn w lo g (some ⟨G, 0, none⟩) us) : VgIn w lo g (some ⟨G, 6, none⟩) (us.drop 1) := by
  obtain ⟨b, off, ha, h1, h2, h3, hx⟩ := h
  injection ha with ha
  injection ha with ha1 ha2
  subst ha1 ha2
  refine ⟨G, 6, rfl, h1, h2, h3, fun i v hi => ?_⟩
  rw [List.getElem?_drop] at hi
  have := hx (1 + i) v hi
  rw [show 0 + (1 + i) * 6 = 6 + i * 6 by omega] at this
  exact this
abbrev set6 (w : World) (G k : Nat) (x0 x1 x2 x3 x4 x5 : Value) : World := (((((w.setCell ⟨G, k * 6, none⟩ x0).setCell ⟨G, k * 6 + 1, none⟩ x1).setCell ⟨G, k * 6 + 2, none⟩ x2).setCell ⟨G, k * 6 + 3, none⟩ x3).setCell ⟨G, k * 6 + 4, none⟩ x4).setCell ⟨G, k * 6 + 5, none⟩ x5
theorem turn_row (w : World) (G k : Nat) (x0 x1 x2 x3 x4 x5 : Value) : Turn (fun g => g = G) w (set6 w G k x0 x1 x2 x3 x4 x5) :=
  ((((((Turn.refl (fun g => g = G) w).set (p := ⟨G, k * 6, none⟩) rfl _).set (p := ⟨G, k * 6 + 1, none⟩) rfl _).set (p := ⟨G, k * 6 + 2, none⟩) rfl _).set (p := ⟨G, k * 6 + 3, none⟩) rfl _).set (p := ⟨G, k * 6 + 4, none⟩) rfl _).set (p := ⟨G, k * 6 + 5, none⟩) rfl _
theorem six_of {W : World} {G i : Nat} {T : TypeId} {cs : Array Value} {y : V} (hB : Blk W G T cs) (h : VerAt cs i y) : Six W G (0 + i * 6) y := by
  obtain ⟨h0, h1, h2, h3, h4, h5⟩ := h
  rw [Nat.zero_add]
  exact ⟨(hB.at _).trans h0, (hB.at _).trans h1, (hB.at _).trans h2, (hB.at _).trans h3, (hB.at _).trans h4, (hB.at _).trans h5⟩
/-- One version of the row is another one now. -/
theorem ORow.vgPut {w : World} {B U G lo g k : Nat} {us : List V} {cur : Array Value} (h : ORow w B U G us cur) (hl : lo ≤ B) (hg : g < lo) (hk : k < us.length) (v : V) (hv : v.ts = [] ∨ ∃ lo', G < lo' ∧ lo ≤ lo' ∧ PastIn w lo' g v.a v.ts) :
    VgIn (set6 w G k (.int .i64 v.k) (.int .i64 v.t) (.int .i64 v.u) (.slice v.a v.ts.length v.c) (.string v.s) (.bool v.g)) lo g (some ⟨G, 0, none⟩) (us.set k v) := by
  have hlo := h.lo
  have hT := turn_row w G k (.int .i64 v.k) (.int .i64 v.t) (.int .i64 v.u) (.slice v.a v.ts.length v.c) (.string v.s) (.bool v.g)
  have hB : Blk (set6 w G k (.int .i64 v.k) (.int .i64 v.t) (.int .i64 v.u) (.slice v.a v.ts.length v.c) (.string v.s) (.bool v.g)) G 32 (Go.Proofs.Ytgofeljmpkhkbaa.put6 cur k v) := (((((h.blk.put _ _).put _ _).put _ _).put _ _).put _ _).put _ _
  have hsz := h.size
  refine ⟨G, 0, rfl, by omega, by omega, hB.inside, fun i x hi => ?_⟩
  by_cases e : i = k
  · subst e
    rw [List.getElem?_set_self hk] at hi
    injection hi with hi
    subst hi
    refine ⟨six_of hB (verAt_put (by omega)), ?_⟩
    rcases hv with hv | ⟨lo', q1, q2, b', off', e1, e2, e3, e4, e5⟩
    · exact .inl hv
    · refine .inr ⟨b', off', e1, by omega, e3, Nat.lt_of_lt_of_le e4 hT.size, fun j x hj => ?_⟩
      have hc : ∀ o : Nat, (set6 w G i (.int .i64 v.k) (.int .i64 v.t) (.int .i64 v.u) (.slice v.a v.ts.length v.c) (.string v.s) (.bool v.g)).cell? ⟨b', o, none⟩ = w.cell? ⟨b', o, none⟩ := fun o => World.cell?_of_block (hT.block b' e4 (by omega))
      exact ⟨(hc _).trans (e5 j x hj).1, (hc _).trans (e5 j x hj).2⟩
  · rw [List.getElem?_set_ne (fun e' => e e'.symm)] at hi
    refine ⟨six_of hB (verAt_other e (h.at' i x hi)), ?_⟩
    refine Own1.pastIn (B := B) (U := U) ?_ hl hg
    rcases h.own i x hi with q | ⟨b', c', q1, q2, q3, q4, q5, q6⟩
    · exact .inl q
    · exact .inr ⟨b', c', q1, q2, q3, q4.turned hT (fun e => ver_ne_tag (blk_one h.blk (e ▸ q4))), q5, q6⟩

/-- What the draw of a store, valid or not, leaves. -/
def DrawnS (w : World) (g : Nat) (ra : Option Addr) (len cap m d : Nat) (e : Ending) (w' : World) : Prop :=
  ∃ (a : Option Addr) (c : Nat) (vs : List V), e = .returned (.agg #[.slice a vs.length c]) ∧ vs.length ≤ 4 ∧ FewV vs ∧ VgIn w' w.heap.size g a vs ∧ w.grownBy w' (some g) ∧ Rd w' g ra len cap (m + d)
/-- What the draw holds between its steps: its result's box, its own box, the reader. -/
structure DT (w : World) (g : Nat) (ra : Option Addr) (len cap mm pb : Nat) (x : Value) (wr : World) : Prop where
  res : Blk wr w.heap.size 25 #[.slice none 0 0]
  box : Blk wr pb 25 #[x]
  grown : w.grownBy wr (some g)
  rd : Rd wr g ra len cap mm
theorem fewV_drop {us : List V} (h : FewV us) (n : Nat) : FewV (us.drop n) := fun v hv => h v (List.mem_of_mem_drop hv)
theorem fewV_set {us : List V} (h : FewV us) (n : Nat) {v : V} (hv : v.ts.length ≤ 4 ∧ v.s.size ≤ 16) : FewV (us.set n v) := fun x hx => by
  rcases List.mem_or_eq_of_mem_set hx with h1 | h1
  · exact h x h1
  · rw [h1]; exact hv
theorem DT.fin {w wr : World} {g len cap mm pb m d c : Nat} {ra a : Option Addr} {vs : List V} (h : DT w g ra len cap mm pb (.slice a vs.length c) wr) (hgw : g < w.heap.size) (hby : Bytes w g ra len) (h4 : vs.length ≤ 4) (hf : FewV vs) (hv : VgIn wr (w.heap.size + 1) g a vs) (hmm : mm ≤ m + d) (hm : m + d ≤ 1000000) (x : Value) :
    DrawnS w g ra len cap m d (.returned (.agg #[.slice a vs.length c])) (wr.setCell ⟨w.heap.size, 0, none⟩ x) :=
  ⟨a, c, vs, rfl, h4, hf, (hv.aside (p := ⟨w.heap.size, 0, none⟩) (by simp only; omega) x).low (by omega), grown_set h.grown (p := ⟨w.heap.size, 0, none⟩) (Nat.le_refl _) _, (h.rd.set hby hgw h.grown (p := ⟨w.heap.size, 0, none⟩) (Nat.le_refl _) _).more _ hmm hm⟩
theorem DT.put {w wr : World} {g len cap mm pb : Nat} {ra : Option Addr} {x : Value} (h : DT w g ra len cap mm pb x wr) (hgw : g < w.heap.size) (hby : Bytes w g ra len) (hp : w.heap.size < pb) (y : Value) : DT w g ra len cap mm pb y (wr.setCell ⟨pb, 0, none⟩ y) :=
  ⟨h.res.aside (by simp only; omega) _, h.box.put 0 y, grown_set h.grown (p := ⟨pb, 0, none⟩) (by simp only; omega) _, h.rd.set hby hgw h.grown (p := ⟨pb, 0, none⟩) (by simp only; omega) _⟩
theorem DT.turned {w wr w2 : World} {g len cap mm pb G : Nat} {ra : Option Addr} {x : Value} (h : DT w g ra len cap mm pb x wr) (hgw : g < w.heap.size) (hby : Bytes w g ra len) (ht : Turn (fun q => q = G) wr w2) (hG : w.heap.size < G) (hp : pb ≠ G) : DT w g ra len cap mm pb x w2 := by
  have hgr := grown_turn h.grown ht (by omega)
  exact ⟨h.res.turned ht (by omega), h.box.turned ht hp, hgr, h.rd.turned hby hgr ht (by omega)⟩
theorem DS.dt {w wr : World} {g len cap mm pb G : Nat} {ra : Option Addr} {us : List V} (h : DS w g ra len cap mm pb G us wr) : DT w g ra len cap mm pb (.slice (some ⟨G, 0, none⟩) 4 4) wr := ⟨h.res, h.box, h.grown, h.rd⟩

theorem DS.inG {w wr : World} {g len cap mm pb G : Nat} {ra : Option Addr} {us : List V} (h : DS w g ra len cap mm pb G us wr) : G < wr.heap.size := by
  obtain ⟨cur, hr⟩ := h.row
  exact hr.hi
/-- The cells of a version of a row. -/
theorem ORow.cells6 {w : World} {B U G k : Nat} {us : List V} {cur : Array Value} (h : ORow w B U G us cur) (hk : k < us.length) :
    (∃ x0 x1 x2 x3 x4 x5, w.cell? ⟨G, k * 6, none⟩ = some x0 ∧ w.cell? ⟨G, k * 6 + 1, none⟩ = some x1 ∧ w.cell? ⟨G, k * 6 + 2, none⟩ = some x2 ∧ w.cell? ⟨G, k * 6 + 3, none⟩ = some x3 ∧ w.cell? ⟨G, k * 6 + 4, none⟩ = some x4 ∧ w.cell? ⟨G, k * 6 + 5, none⟩ = some x5) ∧ (w.frozen? ⟨G, k * 6, none⟩ = false ∧ w.frozen? ⟨G, k * 6 + 1, none⟩ = false ∧ w.frozen? ⟨G, k * 6 + 2, none⟩ = false ∧ w.frozen? ⟨G, k * 6 + 3, none⟩ = false ∧ w.frozen? ⟨G, k * 6 + 4, none⟩ = false ∧ w.frozen? ⟨G, k * 6 + 5, none⟩ = false) := by
  obtain ⟨h0, h1, h2, h3, h4, h5⟩ := h.at' k _ (List.getElem?_eq_getElem hk)
  exact ⟨⟨_, _, _, _, _, _, (h.blk.at _).trans h0, (h.blk.at _).trans h1, (h.blk.at _).trans h2, (h.blk.at _).trans h3, (h.blk.at _).trans h4, (h.blk.at _).trans h5⟩, h.blk.loose _, h.blk.loose _, h.blk.loose _, h.blk.loose _, h.blk.loose _, h.blk.loose _⟩
/-- The row stays when the box is written. -/
theorem DS.row2 {w wr : World} {g len cap mm pb G : Nat} {ra : Option Addr} {us : List V} (h : DS w g ra len cap mm pb G us wr) (y : Value) : ∃ cur, ORow (wr.setCell ⟨pb, 0, none⟩ y) (w.heap.size + 1) wr.heap.size G us cur := by
  obtain ⟨cur, hrow⟩ := h.row
  have hne := h.ne
  have ht : Turn (fun x => x = pb) wr (wr.setCell ⟨pb, 0, none⟩ y) := (Turn.refl (fun x => x = pb) wr).set (p := ⟨pb, 0, none⟩) rfl _
  refine ⟨cur, hrow.blk.aside (by simp only; exact fun e => hne e.symm) _, hrow.lo, hrow.hi, hrow.size, hrow.at', fun i v hi => ?_, hrow.apart⟩
  rcases hrow.own i v hi with q | ⟨x, cx, q1, q2, q3, q4, q5, q6⟩
  · exact .inl q
  · exact .inr ⟨x, cx, q1, q2, q3, q4.turned ht (fun e => store_ne_tag2 (blk_one h.box (e ▸ q4))), q5, q6⟩
set_option maxRecDepth 100000 in
set_option maxHeartbeats 4000000 in
theorem l20AnyStore_any (w : World) (g : Nat) (a : Option Addr) (len cap m : Nat) (h : Rd w g a len cap m) (hm : m + 300 ≤ 1000000) :
    Calls Try.prog 24 #[.pointer (some ⟨g, 0, none⟩)] w (DrawnS w g a len cap m 300) := by
  have hgw := h.inside
  have HBY := hide h.bytes
  have B0 := Blk.made w 25 #[.slice none 0 0]
  have L0 := below_alloc1 w (.cells #[.slice none 0 0] 25)
  have G0 := grown_none (row := some g) L0
  go_enter Try.func24, Try.ntmps24
  go_wp2_with fail
  refine (l20Store_any _ g a len cap m (h.on L0) (by omega)).mono ?_
  rintro e w1 ⟨G, us, cur, rfl, h4, hf, hrow, hg1, h1⟩
  simp only [World.size_alloc] at hrow
  have LA := below_alloc1 w1 (.cells #[.slice (some ⟨G, 0, none⟩) 4 4] 25)
  have z1 : w.heap.size + 1 ≤ w1.heap.size := by have := hg1.size; simpa using this
  have hpb : w.heap.size < w1.heap.size := by omega
  have HD : Hid (DS w g a len cap (m + 200) w1.heap.size G us (w1.alloc (.cells #[.slice (some ⟨G, 0, none⟩) 4 4] 25))) :=
    ⟨(B0.kept hg1 (by intro e; injection e; omega)).on LA, Blk.made _ _ _, ⟨cur, by
      have q := (hrow.on LA).wide LA.size
      exact ⟨q.blk, by have := q.lo; omega, q.hi, q.size, q.at', fun i v hi => by
        rcases q.own i v hi with r | ⟨x, y, r1, r2, r3⟩
        · exact .inl r
        · exact .inr ⟨x, y, r1, by omega, r3⟩, q.apart⟩⟩, h4, hf, (G0.trans hg1).trans (grown_none LA), h1.on LA⟩
  clear B0 L0 G0 h hg1 h1 hrow LA z1 hf h4
  go_wp2_with fail
  generalize w1.alloc (.cells #[.slice (some ⟨G, 0, none⟩) 4 4] 25) = W1 at HD ⊢
  obtain ⟨pb, epb⟩ : ∃ pb, pb = w1.heap.size := ⟨_, rfl⟩
  rw [← epb] at HD hpb ⊢
  clear epb
  refine (pick_any _ g a len cap _ _ HD.out.rd (by omega) (by omega)).mono ?_
  rintro e w2 ⟨x, hx, rfl, hg2, h2⟩
  have D2 := HD.out.kept hgw hpb hg2 h2
  clear HD hg2 h2 hx
  have hlo := D2.lo
  have hne := D2.ne
  have h4 := hide D2.four
  have hf := hide D2.few
  by_cases hx0 : x = 0
  · subst hx0
    obtain ⟨cur, hrow⟩ := D2.row2 (.slice (some ⟨G, 6, none⟩) 3 3)
    have HV := hide (hrow.vgIn (lo := w.heap.size + 1) (g := g) (Nat.le_refl _) (by omega)).tail
    have D3 := D2.dt.put hgw HBY.out hpb (.slice (some ⟨G, 6, none⟩) 3 3)
    have k2 := D2.box.one
    have r9 := D3.res.one
    have k9 := D3.box.one
    have H9 := hide D3
    clear D2 D3 hrow
    go_wp2
    refine bodyPost_ret (v := .agg #[.slice (some ⟨G, 6, none⟩) 3 3]) (by simp [results, Try.results24, go_sem, r9]) rfl ?_
    have hl : (us.drop 1).length = 3 := by rw [List.length_drop, h4.out]
    have F := DT.fin (vs := us.drop 1) (a := some ⟨G, 6, none⟩) (c := 3) (m := m) (d := 300) (by rw [hl]; exact H9.out) hgw HBY.out (by omega) (fewV_drop hf.out 1) HV.out (by omega) hm (.slice (some ⟨G, 6, none⟩) 3 3)
    rw [hl] at F
    exact F
  have hb0 : (x == 0) = false := by simpa using hx0
  have fin9 : ∀ (wr : World) (vs : List V), vs.length = 4 → FewV vs → VgIn wr (w.heap.size + 1) g (some ⟨G, 0, none⟩) vs → ∀ mm, mm ≤ m + 300 → DT w g a len cap mm pb (.slice (some ⟨G, 0, none⟩) 4 4) wr → DrawnS w g a len cap m 300 (.returned (.agg #[.slice (some ⟨G, 0, none⟩) 4 4])) (wr.setCell ⟨w.heap.size, 0, none⟩ (.slice (some ⟨G, 0, none⟩) 4 4)) := fun wr vs hl hfw hvg mm hmm hdt => by
    have F := DT.fin (vs := vs) (a := some ⟨G, 0, none⟩) (c := 4) (m := m) (d := 300) (by rw [hl]; exact hdt) hgw HBY.out (by omega) hfw hvg hmm hm (.slice (some ⟨G, 0, none⟩) 4 4)
    rw [hl] at F
    exact F
  have FIN := hide fin9
  clear fin9
  by_cases hx1 : x = 1
  · subst hx1
    have D3 := D2.drew hgw hpb
    clear D2
    go_wp2_with fail
    refine wp_region_noPanic ?_
    refine wp_region_held_drew (S := (fun w' => w'.cell? ⟨pb, 0, none⟩ = some (.slice (some ⟨G, 0, none⟩) 4 4) ∧ Blk w' pb 25 #[.slice (some ⟨G, 0, none⟩) 4 4])) (by kernel_rfl) (by exact ⟨D3.box.at 0, D3.box⟩) (fun hHeld => ?_)
    refine take_run 0 (some 16) (v := ?_) rfl rfl (by kernel_rfl) (by kernel_rfl) (by kernel_rfl) (fun _ _ _ h => h) (by rfl) ?_ hHeld ?_
    rotate_left
    · ((intro w hSw); (try dsimp only at hSw); go_simp <;> with_reducible rfl)
    simp only [Act.put, List.setIfInBounds_toArray, List.set_cons_zero, List.set_cons_succ]
    refine take_run 1 (some 17) (v := ?_) rfl rfl (by kernel_rfl) (by kernel_rfl) (by kernel_rfl) (fun _ _ _ h => h) (by rfl) ?_ hHeld ?_
    rotate_left
    · ((intro w hSw); (try dsimp only at hSw); go_simp <;> with_reducible rfl)
    simp only [Act.put, List.setIfInBounds_toArray, List.set_cons_zero, List.set_cons_succ]
    refine take_run 2 (some 18) (v := ?_) rfl rfl (by kernel_rfl) (by kernel_rfl) (by kernel_rfl) (fun _ _ _ h => h) (by rfl) ?_ hHeld ?_
    rotate_left
    · ((intro w hSw); (try dsimp only at hSw); go_simp <;> with_reducible rfl)
    simp only [Act.put, List.setIfInBounds_toArray, List.set_cons_zero, List.set_cons_succ]
    refine take_run 4 (some 20) (v := ?_) rfl rfl (by kernel_rfl) (by kernel_rfl) (by kernel_rfl) (fun _ _ _ h => h) (by rfl) ?_ hHeld ?_
    rotate_left
    · ((intro w hSw); (try dsimp only at hSw); go_simp <;> with_reducible rfl)
    simp only [Act.put, List.setIfInBounds_toArray, List.set_cons_zero, List.set_cons_succ]
    refine take_one 3 (by kernel_rfl) rfl (fun K hK => ?_)
    go_simp
    (refine (pick_any _ g a len cap _ _ D3.rd (by omega) (by omega)).mono ?_; rintro e w3 ⟨y, hy, rfl, hg3, h3⟩; have D4 := D3.kept hgw hpb hg3 h3; have hy0 := hy.1; have hy1 := hy.2 (by omega); obtain ⟨yn, rfl⟩ := Int.eq_ofNat_of_zero_le hy0; have hyn : yn < 4 := (by omega))
    try go_wp2_with fail
    refine hK.out _ _ (by exact ⟨D4.box.at 0, D4.box⟩) (fun hHeld => ?_)
    clear hK K
    refine take_one 5 (by kernel_rfl) rfl (fun K hK => ?_)
    go_simp
    (refine (l20AnyVer_any _ g a len cap _ D4.rd (by omega)).mono ?_; rintro e w4 ⟨v, rfl, hv4, hv16, hpast, hg4, h4'⟩; have D5 := D4.kept hgw hpb hg4 h4'; obtain ⟨cur, hrow⟩ := D5.row; have HR := hide hrow; obtain ⟨⟨y0, y1, y2, y3, y4, y5, c0, c1, c2, c3, c4, c5⟩, cf⟩ := hrow.cells6 (by have := h4.out; omega : yn < us.length); have HP := hide hpast; have zz := D4.inG; clear hpast hrow)
    try go_wp2_with fail
    refine hK.out _ _ (by exact ⟨D5.box.at 0, D5.box⟩) (fun hHeld => ?_)
    clear hK K
    refine take_run 6 (some 22) (v := ?_) rfl rfl (by kernel_rfl) (by kernel_rfl) (by kernel_rfl) (fun _ _ _ h => h) (by rfl) ?_ hHeld ?_
    rotate_left
    · ((intro w hSw); (try dsimp only at hSw); go_simp <;> with_reducible rfl)
    simp only [Act.put, List.setIfInBounds_toArray, List.set_cons_zero, List.set_cons_succ]
    refine take_one 7 (by kernel_rfl) rfl (fun K hK => ?_)
    go_simp
    refine hK.out _ _ (by exact ⟨(D5.box.turned (turn_row _ G yn _ _ _ _ _ _) hne).at 0, D5.box.turned (turn_row _ G yn _ _ _ _ _ _) hne⟩) (fun hHeld => ?_)
    clear hK K
    refine wpAnyH_done (by kernel_rfl) ?_ _
    refine NoPanic.normal ?_
    have D6 := D5.dt.turned hgw HBY.out (turn_row w4 G yn (.int .i64 v.k) (.int .i64 v.t) (.int .i64 v.u) (.slice v.a v.ts.length v.c) (.string v.s) (.bool v.g)) hlo hne
    have HV := hide (HR.out.vgPut (lo := w.heap.size + 1) (g := g) (Nat.le_refl _) (by omega) (by have := h4.out; omega : yn < us.length) v (.inr ⟨w3.heap.size, zz, by omega, HP.out⟩))
    have r9 := D6.res.one
    have k9 := D6.box.one
    have H9 := hide D6
    clear hHeld D3 D4 D5 D6 c0 c1 c2 c3 c4 c5 cf hg3 h3 hg4 h4'
    go_wp2
    refine bodyPost_ret (v := .agg #[.slice (some ⟨G, 0, none⟩) 4 4]) (by simp [results, Try.results24, go_sem, r9]) rfl ?_
    exact FIN.out _ (us.set yn v) (by rw [List.length_set]; exact h4.out) (fewV_set hf.out yn ⟨hv4, hv16⟩) HV.out _ (by omega) H9.out
  have hb1 : (x == 1) = false := by simpa using hx1
  by_cases hx2 : x = 2
  · subst hx2
    have D3 := D2.drew hgw hpb
    clear D2
    go_wp2_with fail
    refine wp_region_noPanic ?_
    refine wp_region_held_drew (S := (fun w' => w'.cell? ⟨pb, 0, none⟩ = some (.slice (some ⟨G, 0, none⟩) 4 4) ∧ Blk w' pb 25 #[.slice (some ⟨G, 0, none⟩) 4 4])) (by kernel_rfl) (by exact ⟨D3.box.at 0, D3.box⟩) (fun hHeld => ?_)
    refine take_run 0 (some 25) (v := ?_) rfl rfl (by kernel_rfl) (by kernel_rfl) (by kernel_rfl) (fun _ _ _ h => h) (by rfl) ?_ hHeld ?_
    rotate_left
    · ((intro w hSw); (try dsimp only at hSw); go_simp <;> with_reducible rfl)
    simp only [Act.put, List.setIfInBounds_toArray, List.set_cons_zero, List.set_cons_succ]
    refine take_run 1 (some 26) (v := ?_) rfl rfl (by kernel_rfl) (by kernel_rfl) (by kernel_rfl) (fun _ _ _ h => h) (by rfl) ?_ hHeld ?_
    rotate_left
    · ((intro w hSw); (try dsimp only at hSw); go_simp <;> with_reducible rfl)
    simp only [Act.put, List.setIfInBounds_toArray, List.set_cons_zero, List.set_cons_succ]
    refine take_run 2 (some 27) (v := ?_) rfl rfl (by kernel_rfl) (by kernel_rfl) (by kernel_rfl) (fun _ _ _ h => h) (by rfl) ?_ hHeld ?_
    rotate_left
    · ((intro w hSw); (try dsimp only at hSw); go_simp <;> with_reducible rfl)
    simp only [Act.put, List.setIfInBounds_toArray, List.set_cons_zero, List.set_cons_succ]
    refine take_run 4 (some 29) (v := ?_) rfl rfl (by kernel_rfl) (by kernel_rfl) (by kernel_rfl) (fun _ _ _ h => h) (by rfl) ?_ hHeld ?_
    rotate_left
    · ((intro w hSw); (try dsimp only at hSw); go_simp <;> with_reducible rfl)
    simp only [Act.put, List.setIfInBounds_toArray, List.set_cons_zero, List.set_cons_succ]
    refine take_one 3 (by kernel_rfl) rfl (fun K hK => ?_)
    go_simp
    (refine (pick_any _ g a len cap _ _ D3.rd (by omega) (by omega)).mono ?_; rintro e w3 ⟨y, hy, rfl, hg3, h3⟩; have D4 := D3.kept hgw hpb hg3 h3; have hy0 := hy.1; have hy1 := hy.2 (by omega); obtain ⟨yn, rfl⟩ := Int.eq_ofNat_of_zero_le hy0; have hyn : yn < 4 := (by omega); obtain ⟨cur, hrow⟩ := D4.row; have HR := hide hrow; obtain ⟨⟨y0, y1, y2, y3, y4, y5, c0, c1, c2, c3, c4, c5⟩, cf⟩ := hrow.cells6 (by have := h4.out; omega : yn < us.length); clear hrow)
    try go_wp2_with fail
    refine hK.out _ _ (by exact ⟨D4.box.at 0, D4.box⟩) (fun hHeld => ?_)
    clear hK K
    refine take_run 5 (some 30) (v := ?_) rfl rfl (by kernel_rfl) (by kernel_rfl) (by kernel_rfl) (fun _ _ _ h => h) (by rfl) ?_ hHeld ?_
    rotate_left
    · ((intro w hSw); (try dsimp only at hSw); go_simp <;> with_reducible rfl)
    simp only [Act.put, List.setIfInBounds_toArray, List.set_cons_zero, List.set_cons_succ]
    refine take_one 6 (by kernel_rfl) rfl (fun K hK => ?_)
    go_simp
    refine hK.out _ _ (by exact ⟨(D4.box.turned (turn_row _ G yn _ _ _ _ _ _) hne).at 0, D4.box.turned (turn_row _ G yn _ _ _ _ _ _) hne⟩) (fun hHeld => ?_)
    clear hK K
    refine wpAnyH_done (by kernel_rfl) ?_ _
    refine NoPanic.normal ?_
    have D6 := D4.dt.turned hgw HBY.out (turn_row w3 G yn (.int .i64 0) (.int .i64 0) (.int .i64 0) (.slice none 0 0) (.string ⟨#[120]⟩) (.bool false)) hlo hne
    have HV := hide (HR.out.vgPut (lo := w.heap.size + 1) (g := g) (Nat.le_refl _) (by omega) (by have := h4.out; omega : yn < us.length) ⟨0, 0, 0, none, 0, [], ⟨#[120]⟩, false⟩ (.inl rfl))
    have r9 := D6.res.one
    have k9 := D6.box.one
    have H9 := hide D6
    clear hHeld D3 D4 D6 c0 c1 c2 c3 c4 c5 cf hg3 h3
    go_wp2
    refine bodyPost_ret (v := .agg #[.slice (some ⟨G, 0, none⟩) 4 4]) (by simp [results, Try.results24, go_sem, r9]) rfl ?_
    exact FIN.out _ (us.set yn ⟨0, 0, 0, none, 0, [], ⟨#[120]⟩, false⟩) (by rw [List.length_set]; exact h4.out) (fewV_set hf.out yn ⟨Nat.zero_le _, (by decide : (ByteArray.mk #[120]).size ≤ 16)⟩) HV.out _ (by omega) H9.out
  have hb2 : (x == 2) = false := by simpa using hx2
  obtain ⟨cur, hrow⟩ := D2.row
  have HV := hide (hrow.vgIn (lo := w.heap.size + 1) (g := g) (Nat.le_refl _) (by omega))
  have r9 := D2.res.one
  have k9 := D2.box.one
  have H9 := hide D2.dt
  clear D2 hrow
  go_wp2
  refine bodyPost_ret (v := .agg #[.slice (some ⟨G, 0, none⟩) 4 4]) (by simp [results, Try.results24, go_sem, r9]) rfl ?_
  exact FIN.out _ us h4.out hf.out HV.out _ (by omega) H9.out
end Go.Proofs.Ytgofeljmpkhkbaa
