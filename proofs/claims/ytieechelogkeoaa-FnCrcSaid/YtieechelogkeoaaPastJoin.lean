/- Contracts of the functions that join vectors of tags, in the program and in the model. Condition: at most 1048576 tags. -/
import Derived.Test.YtieechelogkeoaaPastMark
import Derived.Deep.AppendLies
namespace Go.Proofs.Ytieechelogkeoaa
open Go.RowKit Go.Joins
attribute [local go_sem ↓] Go.wp_at_zero Go.wp_at_succ

/-- The later one of two tags. -/
def mxp (x y : Int × Int) : Int × Int := (mxT x.1 x.2 y.1 y.2, mxP x.1 x.2 y.1 y.2)
/-- The later one at each place. -/
def mxL (ts us : List (Int × Int)) : List (Int × Int) := List.zipWith mxp ts us
theorem mxL_at {ts us : List (Int × Int)} {k : Nat} {x y : Int × Int} (hx : ts[k]? = some x) (hy : us[k]? = some y) : (mxL ts us)[k]? = some (mxp x y) := by
  unfold mxL; rw [List.getElem?_zipWith, hx, hy]
/-- Tags as cells, one behind the other. -/
def flatT (ts : List (Int × Int)) : List Value := ts.flatMap fun x => [Value.int .i64 x.1, Value.int .i64 x.2]
theorem flatT_snoc (ts : List (Int × Int)) (x : Int × Int) : flatT (ts ++ [x]) = flatT ts ++ [.int .i64 x.1, .int .i64 x.2] := by simp [flatT]
theorem flatT_take {ts : List (Int × Int)} {k : Nat} {x : Int × Int} (h : ts[k]? = some x) : flatT (ts.take (k + 1)) = flatT (ts.take k) ++ [.int .i64 x.1, .int .i64 x.2] := by
  rw [List.take_add_one, h]
  exact flatT_snoc _ _
theorem flatT_one (ts : List (Int × Int)) : ∀ u ∈ flatT ts, u.oneCell' = true := by
  intro u hu
  simp only [flatT, List.mem_flatMap] at hu
  obtain ⟨x, _, hx⟩ := hu
  simp at hx
  rcases hx with rfl | rfl <;> rfl
theorem flatT_at : ∀ (ts : List (Int × Int)) (i : Nat) (x : Int × Int), ts[i]? = some x → (flatT ts)[i * 2]? = some (.int .i64 x.1) ∧ (flatT ts)[i * 2 + 1]? = some (.int .i64 x.2)
  | [], i, x, h => by simp at h
  | y :: ts, 0, x, h => by
    simp at h
    subst h
    simp [flatT]
  | y :: ts, i + 1, x, h => by
    have := flatT_at ts i x (by simpa using h)
    have e : flatT (y :: ts) = .int .i64 y.1 :: .int .i64 y.2 :: flatT ts := by simp [flatT]
    rw [e, show (i + 1) * 2 = i * 2 + 1 + 1 by omega]
    simpa using this

theorem own_on {w w' : World} {base : Nat} {e : TypeId} {size : Nat} {v : Value} {n : Nat} {xs : List Value} (h : w.ownsRow base e size v n xs) (hb : Below w.heap.size w w') : w'.ownsRow base e size v n xs :=
  h.kept (row := none) (grown_none hb) (Classical.em _)

/-- What the round of a join holds: the two tags that it reads, where they lie, and the rest. -/
theorem jheld {w w' : World} {n b off b' off' k c c' : Nat} {x1 x2 y1 y2 : Int} {T : TypeId} {bs : List (Nat × TypeId × Array Value)} {q : Nat × TypeId × Array Value}
    (C0 : Hid (w.cell? ⟨b, off + k * 2, none⟩ = some (.int .i64 x1))) (C1 : Hid (w.cell? ⟨b, off + k * 2 + 1, none⟩ = some (.int .i64 x2)))
    (D0 : Hid (w.cell? ⟨b', off' + k * 2, none⟩ = some (.int .i64 y1))) (D1 : Hid (w.cell? ⟨b', off' + k * 2 + 1, none⟩ = some (.int .i64 y2))) (hb : b < w.heap.size) (hb' : b' < w.heap.size)
    (h : Inv w n (q :: (w.heap.size + 1, T, #[.slice (some ⟨b', off', none⟩) 4 c']) :: (w.heap.size, T, #[.slice (some ⟨b, off, none⟩) 4 c]) :: bs) w') :
    w'.cell? ⟨b, off + k * 2, none⟩ = some (.int .i64 x1) ∧ w'.cell? ⟨b, off + k * 2 + 1, none⟩ = some (.int .i64 x2) ∧ w'.cell? ⟨b', off' + k * 2, none⟩ = some (.int .i64 y1) ∧ w'.cell? ⟨b', off' + k * 2 + 1, none⟩ = some (.int .i64 y2) ∧
    w'.cell? ⟨w.heap.size, 0, none⟩ = some (.slice (some ⟨b, off, none⟩) 4 c) ∧ w'.cell? ⟨w.heap.size + 1, 0, none⟩ = some (.slice (some ⟨b', off', none⟩) 4 c') ∧
    Inv w n (q :: (w.heap.size + 1, T, #[.slice (some ⟨b', off', none⟩) 4 c']) :: (w.heap.size, T, #[.slice (some ⟨b, off, none⟩) 4 c]) :: bs) w' :=
  ⟨(h.below.cell (p := ⟨b, off + k * 2, none⟩) hb).trans C0.out, (h.below.cell (p := ⟨b, off + k * 2 + 1, none⟩) hb).trans C1.out, (h.below.cell (p := ⟨b', off' + k * 2, none⟩) hb').trans D0.out, (h.below.cell (p := ⟨b', off' + k * 2 + 1, none⟩) hb').trans D1.out, (h.nth 2 rfl).at 0, (h.nth 1 rfl).at 0, h⟩
/-- An append onto a row of the call's own, from block n on, turns none of the known blocks. -/
theorem Inv.grow {w w1 w2 : World} {n : Nat} {bs : List (Nat × TypeId × Array Value)} {row : Option Nat} (h : Inv w n bs w1) (hg : w1.grownBy w2 row) (hr : ∀ g, row = some g → n ≤ g ∧ w.heap.size ≤ g) : Inv w n bs w2 :=
  ⟨h.below.grown hg h.below.size (fun k hk => (hr k hk).2), Nat.le_trans h.room hg.size, fun x hx => ⟨(h.blk x hx).1, (h.blk x hx).2.1, (h.blk x hx).2.2.kept hg (by intro e; have := (hr _ e).1; have := (h.blk x hx).2.1; omega)⟩⟩

/-- Four tags at a row's beginning. -/
theorem tags_of_take {cr : Array Value} {ts : List (Int × Int)} (h : cr.toList.take (4 * 2) = flatT (ts.take 4)) : ∀ i x, i < 4 → ts[i]? = some x → TagAt cr i x := by
  intro i x hi hx
  have h1 := flatT_at (ts.take 4) i x (by rw [List.getElem?_take_of_lt hi]; exact hx)
  rw [← h, List.getElem?_take_of_lt (by omega), List.getElem?_take_of_lt (by omega)] at h1
  exact ⟨by simpa using h1.1, by simpa using h1.2⟩

/-- What a join leaves: the joined tags in a row of its own. -/
def JoinedP (w : World) (ts : List (Int × Int)) (e : Ending) (w' : World) : Prop :=
  ∃ (g cap : Nat) (T : TypeId) (cur : Array Value), e = .returned (.agg #[.slice (some ⟨g, 0, none⟩) 4 cap]) ∧ w.heap.size ≤ g ∧ Blk w' g T cur ∧ 8 ≤ cur.size ∧ (∀ i x, ts[i]? = some x → TagAt cur i x) ∧ Below w.heap.size w w'

/-- A store into the vector at hand turns neither the tag's box nor the answer. -/
theorem jset {w w1 : World} {m : Nat} {T T' : TypeId} {c0 c1 : Value} {cs : Array Value} {i j : Nat} {u v : Value} (h : Inv w (m + 1) [(m, T, #[c0, c1]), (w.heap.size + 1 + 1, T', cs)] w1) (hm : w.heap.size < m) (_hm2 : w.heap.size < m + 1) :
    ((w1.setCell ⟨w.heap.size, i, none⟩ u).setCell ⟨w.heap.size, j, none⟩ v).cell? ⟨m, 0, none⟩ = some c0 ∧ ((w1.setCell ⟨w.heap.size, i, none⟩ u).setCell ⟨w.heap.size, j, none⟩ v).cell? ⟨m, 1, none⟩ = some c1 ∧
    Inv w (m + 1) [(m, T, #[c0, c1]), (w.heap.size + 1 + 1, T', cs)] ((w1.setCell ⟨w.heap.size, i, none⟩ u).setCell ⟨w.heap.size, j, none⟩ v) := by
  have h2 : Inv w (m + 1) [(m, T, #[c0, c1]), (w.heap.size + 1 + 1, T', cs)] ((w1.setCell ⟨w.heap.size, i, none⟩ u).setCell ⟨w.heap.size, j, none⟩ v) := by
    refine h.turn (g := w.heap.size) (grown_own (grown_own (World.grownBy.refl _ _) u) v) (Nat.le_refl _) (fun x hx => .inl ⟨hx, ?_⟩)
    simp only [List.mem_cons, List.not_mem_nil, or_false] at hx
    rcases hx with rfl | rfl
    · show m ≠ w.heap.size; omega
    · show w.heap.size + 1 + 1 ≠ w.heap.size; omega
  exact ⟨(h2.nth 0 rfl).at 0, (h2.nth 0 rfl).at 1, h2⟩

/-- The eight cells of a vector in the midst of a join. -/
def jcells (x0 x1 x2 x3 y0 y1 y2 y3 : Int × Int) (k : Nat) : Array Value :=
  match k with
  | 0 => #[.int .i64 x0.1, .int .i64 x0.2, .int .i64 x1.1, .int .i64 x1.2, .int .i64 x2.1, .int .i64 x2.2, .int .i64 x3.1, .int .i64 x3.2]
  | 1 => #[.int .i64 (mxp x0 y0).1, .int .i64 (mxp x0 y0).2, .int .i64 x1.1, .int .i64 x1.2, .int .i64 x2.1, .int .i64 x2.2, .int .i64 x3.1, .int .i64 x3.2]
  | 2 => #[.int .i64 (mxp x0 y0).1, .int .i64 (mxp x0 y0).2, .int .i64 (mxp x1 y1).1, .int .i64 (mxp x1 y1).2, .int .i64 x2.1, .int .i64 x2.2, .int .i64 x3.1, .int .i64 x3.2]
  | 3 => #[.int .i64 (mxp x0 y0).1, .int .i64 (mxp x0 y0).2, .int .i64 (mxp x1 y1).1, .int .i64 (mxp x1 y1).2, .int .i64 (mxp x2 y2).1, .int .i64 (mxp x2 y2).2, .int .i64 x3.1, .int .i64 x3.2]
  | _ => #[.int .i64 (mxp x0 y0).1, .int .i64 (mxp x0 y0).2, .int .i64 (mxp x1 y1).1, .int .i64 (mxp x1 y1).2, .int .i64 (mxp x2 y2).1, .int .i64 (mxp x2 y2).2, .int .i64 (mxp x3 y3).1, .int .i64 (mxp x3 y3).2]

end Go.Proofs.Ytieechelogkeoaa
