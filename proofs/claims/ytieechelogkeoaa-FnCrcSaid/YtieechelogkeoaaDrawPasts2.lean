/- Contracts of the draws of vectors: what is drawn are three or four tags in memory of their own. Condition: as in Draw. -/
import Derived.Test.YtieechelogkeoaaDrawPasts
import Derived.Test.YtieechelogkeoaaPastRes
namespace Go.Proofs.Ytieechelogkeoaa
open Go.RowKit Go.Joins
attribute [local go_sem ↓] Go.wp_at_zero Go.wp_at_succ

set_option maxHeartbeats 1000000 in
theorem l1None_four (w : World) : Calls Try.prog 58 #[] w fun e w' => e = .returned (.agg #[.slice (some ⟨w.heap.size + 1, 0, none⟩) 4 4]) ∧ Blk w' (w.heap.size + 1) 70 zero8 ∧ Below w.heap.size w w' := by
  have hmk : ∀ W : World, (Instr.makeSlice 31 (.int .i64 4) (.int .i64 4)).run Try.prog W = .ok (.slice (some ⟨W.heap.size, 0, none⟩) 4 4) (W.alloc (.cells zero8 70)) := fun _ => by kernel_rfl
  go_enter Try.func58, Try.ntmps58
  go_wp2
  refine bodyPost_ret (v := .agg #[.slice (some ⟨w.heap.size + 1, 0, none⟩) 4 4]) (by simp [results, Try.results58, go_sem]) rfl ?_
  have B0 := Blk.made (w.alloc (.cells #[.slice (some ⟨w.heap.size + 1, 0, none⟩) 4 4] 33)) 70 zero8
  simp only [World.size_alloc] at B0
  exact ⟨rfl, B0, below_alloc2 _ _ _⟩

/-- Four tags at the beginning of a block. -/
def Fours (w : World) (b : Nat) (ts : List (Int × Int)) : Prop := ∃ cur, Blk w b 70 cur ∧ 8 ≤ cur.size ∧ ts.length = 4 ∧ ∀ i x, ts[i]? = some x → TagAt cur i x
theorem Fours.kept {w w' : World} {b : Nat} {ts : List (Int × Int)} {row : Option Nat} (h : Fours w b ts) (hg : w.grownBy w' row) (hr : row ≠ some b) : Fours w' b ts := by
  obtain ⟨cur, h1, h2⟩ := h
  exact ⟨cur, h1.kept hg hr, h2⟩
theorem Fours.aside {w : World} {b : Nat} {ts : List (Int × Int)} (h : Fours w b ts) {p : Addr} (hp : b ≠ p.block) (u : Value) : Fours (w.setCell p u) b ts := by
  obtain ⟨cur, h1, h2⟩ := h
  exact ⟨cur, h1.aside hp u, h2⟩
theorem Fours.put {w : World} {b k : Nat} {ts : List (Int × Int)} (h : Fours w b ts) (hk : k < 4) (t p : Int) : Fours ((w.setCell ⟨b, k * 2, none⟩ (.int .i64 t)).setCell ⟨b, k * 2 + 1, none⟩ (.int .i64 p)) b (ts.set k (t, p)) := by
  obtain ⟨cur, h1, h2, h3, h4⟩ := h
  refine ⟨_, (h1.put _ _).put _ _, by simpa using h2, by simpa using h3, fun i x hx => ?_⟩
  by_cases e : i = k
  · subst e
    rw [List.getElem?_set_self (by omega)] at hx
    injection hx with hx
    subst hx
    exact tagAt_put (x := (t, p)) (by omega)
  · rw [List.getElem?_set_ne (fun e' => e e'.symm)] at hx
    exact tagAt_other e (h4 i x hx)
theorem Fours.cells {w : World} {b k : Nat} {ts : List (Int × Int)} (h : Fours w b ts) (hk : k < 4) : (∃ u v, w.cell? ⟨b, k * 2, none⟩ = some u ∧ w.cell? ⟨b, k * 2 + 1, none⟩ = some v) ∧ w.frozen? ⟨b, k * 2, none⟩ = false ∧ w.frozen? ⟨b, k * 2 + 1, none⟩ = false := by
  obtain ⟨cur, h1, h2, h3, h4⟩ := h
  obtain ⟨x, hx⟩ : ∃ x, ts[k]? = some x := ⟨_, List.getElem?_eq_getElem (by omega)⟩
  obtain ⟨a0, a1⟩ := h4 k x hx
  exact ⟨⟨_, _, (h1.at _).trans a0, (h1.at _).trans a1⟩, h1.loose _, h1.loose _⟩
theorem Fours.inside {w : World} {b : Nat} {ts : List (Int × Int)} (h : Fours w b ts) : b < w.heap.size := by
  obtain ⟨cur, h1, _⟩ := h
  exact h1.inside
theorem Fours.past {w : World} {b lo g : Nat} {ts : List (Int × Int)} (h : Fours w b ts) (h1 : lo ≤ b) (h2 : b ≠ g) : PastIn w lo g (some ⟨b, 0, none⟩) ts := by
  obtain ⟨cur, e1, e2, e3, e4⟩ := h
  refine ⟨b, 0, rfl, h1, h2, e1.inside, fun i x hx => ?_⟩
  obtain ⟨a0, a1⟩ := e4 i x hx
  rw [Nat.zero_add]
  exact ⟨(e1.at _).trans a0, (e1.at _).trans a1⟩
theorem Fours.tail {w : World} {b lo g : Nat} {ts : List (Int × Int)} (h : Fours w b ts) (h1 : lo ≤ b) (h2 : b ≠ g) : PastIn w lo g (some ⟨b, 2, none⟩) (ts.drop 1) := by
  obtain ⟨cur, e1, e2, e3, e4⟩ := h
  refine ⟨b, 2, rfl, h1, h2, e1.inside, fun i x hx => ?_⟩
  rw [List.getElem?_drop] at hx
  obtain ⟨a0, a1⟩ := e4 (1 + i) x hx
  have e : 2 + i * 2 = (1 + i) * 2 := by omega
  rw [e]
  exact ⟨(e1.at _).trans a0, (e1.at _).trans a1⟩

/-- What the draw of a vector holds between its steps: its result's box, its own box, its tags, the reader. -/
structure DP (w : World) (g : Nat) (ra : Option Addr) (len cap mm pb gb : Nat) (ts : List (Int × Int)) (wr : World) : Prop where
  res : Blk wr w.heap.size 33 #[.slice none 0 0]
  box : Blk wr pb 33 #[.slice (some ⟨gb, 0, none⟩) 4 4]
  tags : Fours wr gb ts
  grown : w.grownBy wr (some g)
  rd : Rd wr g ra len cap mm
section
variable {w wr w2 : World} {g len cap mm pb gb : Nat} {ra : Option Addr} {ts : List (Int × Int)}
theorem DP.kept (h : DP w g ra len cap mm pb gb ts wr) (hgw : g < w.heap.size) (hp : w.heap.size < pb) (hb : w.heap.size < gb) (hg : wr.grownBy w2 (some g)) {mm' : Nat} (hr : Rd w2 g ra len cap mm') : DP w g ra len cap mm' pb gb ts w2 :=
  ⟨h.res.kept hg (by intro e; injection e; omega), h.box.kept hg (by intro e; injection e; omega), h.tags.kept hg (by intro e; injection e; omega), h.grown.trans hg, hr⟩
theorem DP.drew (h : DP w g ra len cap mm pb gb ts wr) (hgw : g < w.heap.size) (hp : w.heap.size < pb) (hb : w.heap.size < gb) : DP w g ra len cap mm pb gb ts wr.drew :=
  h.kept hgw hp hb (grown_none (Below.refl _ _).drew) (h.rd.on (Below.refl _ _).drew)
theorem DP.put (h : DP w g ra len cap mm pb gb ts wr) (hgw : g < w.heap.size) (hby : Bytes w g ra len) (hb : w.heap.size < gb) (hne : pb ≠ gb) {k : Nat} (hk : k < 4) (t p : Int) : DP w g ra len cap mm pb gb (ts.set k (t, p)) ((wr.setCell ⟨gb, k * 2, none⟩ (.int .i64 t)).setCell ⟨gb, k * 2 + 1, none⟩ (.int .i64 p)) := by
  have G1 := grown_set h.grown (p := ⟨gb, k * 2, none⟩) (by simp only; omega) (.int .i64 t)
  exact ⟨(h.res.aside (by simp only; omega) _).aside (by simp only; omega) _, (h.box.aside (by simp only; exact hne) _).aside (by simp only; exact hne) _, h.tags.put hk t p, grown_set G1 (p := ⟨gb, k * 2 + 1, none⟩) (by simp only; omega) _, (h.rd.set hby hgw h.grown (p := ⟨gb, k * 2, none⟩) (by simp only; omega) _).set hby hgw G1 (p := ⟨gb, k * 2 + 1, none⟩) (by simp only; omega) _⟩
theorem DP.seal1 (h : DP w g ra len cap mm pb gb ts wr) (hgw : g < w.heap.size) (hby : Bytes w g ra len) (hb : w.heap.size < gb) (v : Value) : Fours (wr.setCell ⟨w.heap.size, 0, none⟩ v) gb ts ∧ w.grownBy (wr.setCell ⟨w.heap.size, 0, none⟩ v) (some g) ∧ Rd (wr.setCell ⟨w.heap.size, 0, none⟩ v) g ra len cap mm :=
  ⟨h.tags.aside (by simp only; omega) _, grown_set h.grown (p := ⟨w.heap.size, 0, none⟩) (Nat.le_refl _) _, h.rd.set hby hgw h.grown (p := ⟨w.heap.size, 0, none⟩) (Nat.le_refl _) _⟩
theorem DP.seal2 (h : DP w g ra len cap mm pb gb ts wr) (hgw : g < w.heap.size) (hby : Bytes w g ra len) (hp : w.heap.size < pb) (hb : w.heap.size < gb) (hne : pb ≠ gb) (u v : Value) : Fours ((wr.setCell ⟨pb, 0, none⟩ u).setCell ⟨w.heap.size, 0, none⟩ v) gb ts ∧ w.grownBy ((wr.setCell ⟨pb, 0, none⟩ u).setCell ⟨w.heap.size, 0, none⟩ v) (some g) ∧ Rd ((wr.setCell ⟨pb, 0, none⟩ u).setCell ⟨w.heap.size, 0, none⟩ v) g ra len cap mm := by
  have G1 := grown_set h.grown (p := ⟨pb, 0, none⟩) (by simp only; omega) u
  exact ⟨(h.tags.aside (by simp only; omega) _).aside (by simp only; omega) _, grown_set G1 (p := ⟨w.heap.size, 0, none⟩) (Nat.le_refl _) _, (h.rd.set hby hgw h.grown (p := ⟨pb, 0, none⟩) (by simp only; omega) _).set hby hgw G1 (p := ⟨w.heap.size, 0, none⟩) (Nat.le_refl _) _⟩
end

end Go.Proofs.Ytieechelogkeoaa
