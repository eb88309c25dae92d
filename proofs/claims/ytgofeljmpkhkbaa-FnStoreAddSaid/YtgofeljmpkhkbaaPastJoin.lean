/- Contracts of the functions that join vectors of tags, in the program and in the model. Condition: at most 1048576 tags. -/
import Derived.Test.YtgofeljmpkhkbaaPastMark
import Derived.Deep.AppendLies
namespace Go.Proofs.Ytgofeljmpkhkbaa
open Go.RowKit Go.Joins
attribute [local go_sem ↓] Go.wp_at_zero Go.wp_at_succ

/-- The later one of two tags. -/
def mxp (x y : Int × Int) : Int × Int := (mxT x.1 x.2 y.1 y.2, mxP x.1 x.2 y.1 y.2)
/-- The later one at each place. -/
def mxL (ts us : List (Int × Int)) : List (Int × Int) := List.zipWith mxp ts us
theorem mxL_at {ts us : List (Int × Int)} {k : Nat} {x y : Int × Int} (hx : ts[k]? = some x) (hy : us[k]? = some y) : (mxL ts us)[k]? = some (mxp x y) := by
  unfold mxL; rw [List.getElem?_zipWith, hx, hy]
/-- Tags as cells, one behind the other. -/
def flatT (ts : List (Int × Int)) : List Value := ts.flatMap fun x => [Value.int .i64 x.1, Value.int .i64 x.2]
theorem flatT_snoc (ts : List (Int × Int)) (x : Int × Int) : flatT (ts ++ [x]) = flatT ts ++ [.int .i64 x.1, .int .i64 x.2] := by simp [flatT]
theorem flatT_take {ts : List (Int × Int)} {k : Nat} {x : Int × Int} (h : ts[k]? = some x) : flatT (ts.take (k + 1)) = flatT (ts.take k) ++ [.int .i64 x.1, .int .i64 x.2] := by
  rw [List.take_add_one, h]
  exact flatT_snoc _ _
theorem flatT_one (ts : List (Int × Int)) : ∀ u ∈ flatT ts, u.oneCell' = true := by
  intro u hu
  simp only [flatT, List.mem_flatMap] at hu
  obtain ⟨x, _, hx⟩ := hu
  simp at hx
  rcases hx with rfl | rfl <;> rfl
theorem flatT_at : ∀ (ts : List (Int × Int)) (i : Nat) (x : Int × Int), ts[i]? = some x → (flatT ts)[i * 2]? = some (.int .i64 x.1) ∧ (flatT ts)[i * 2 + 1]? = some (.int .i64 x.2)
  | [], i, x, h => by simp at h
  | y :: ts, 0, x, h => by
    simp at h
    subst h
    simp [flatT]
  | y :: ts, i + 1, x, h => by
    have := flatT_at ts i x (by simpa using h)
    have e : flatT (y :: ts) = .int .i64 y.1 :: .int .i64 y.2 :: flatT ts := by simp [flatT]
    rw [e, show (i + 1) * 2 = i * 2 + 1 + 1 by omega]
    simpa using this

theorem own_on {w w' : World} {base : Nat} {e : TypeId} {size : Nat} {v : Value} {n : Nat} {xs : List Value} (h : w.ownsRow base e size v n xs) (hb : Below w.heap.size w w') : w'.ownsRow base e size v n xs :=
  h.kept (row := none) (grown_none hb) (Classical.em _)

/-- What the round of a join holds: the two tags that it reads, where they lie, and the rest. -/
theorem jheld {w w' : World} {n b off b' off' k c c' : Nat} {x1 x2 y1 y2 : Int} {T : TypeId} {bs : List (Nat × TypeId × Array Value)} {q : Nat × TypeId × Array Value}
    (C0 : Hid (w.cell? ⟨b, off + k * 2, none⟩ = some (.int .i64 x1))) (C1 : Hid (w.cell? ⟨b, off + k * 2 + 1, none⟩ = some (.int .i64 x2)))
    (D0 : Hid (w.cell? ⟨b', off' + k * 2, none⟩ = some (.int .i64 y1))) (D1 : Hid (w.cell? ⟨b', off' + k * 2 + 1, none⟩ = some (.int .i64 y2))) (hb : b < w.heap.size) (hb' : b' < w.heap.size)
    (h : Inv w n (q :: (w.heap.size + 1, T, #[.slice (some ⟨b', off', none⟩) 4 c']) :: (w.heap.size, T, #[.slice (some ⟨b, off, none⟩) 4 c]) :: bs) w') :
    w'.cell? ⟨b, off + k * 2, none⟩ = some (.int .i64 x1) ∧ w'.cell? ⟨b, off + k * 2 + 1, none⟩ = some (.int .i64 x2) ∧ w'.cell? ⟨b', off' + k * 2, none⟩ = some (.int .i64 y1) ∧ w'.cell? ⟨b', off' + k * 2 + 1, none⟩ = some (.int .i64 y2) ∧
    w'.cell? ⟨w.heap.size, 0, none⟩ = some (.slice (some ⟨b, off, none⟩) 4 c) ∧ w'.cell? ⟨w.heap.size + 1, 0, none⟩ = some (.slice (some ⟨b', off', none⟩) 4 c') ∧
    Inv w n (q :: (w.heap.size + 1, T, #[.slice (some ⟨b', off', none⟩) 4 c']) :: (w.heap.size, T, #[.slice (some ⟨b, off, none⟩) 4 c]) :: bs) w' :=
  ⟨(h.below.cell (p := ⟨b, off + k * 2, none⟩) hb).trans C0.out, (h.below.cell (p := ⟨b, off + k * 2 + 1, none⟩) hb).trans C1.out, (h.below.cell (p := ⟨b', off' + k * 2, none⟩) hb').trans D0.out, (h.below.cell (p := ⟨b', off' + k * 2 + 1, none⟩) hb').trans D1.out, (h.nth 2 rfl).at 0, (h.nth 1 rfl).at 0, h⟩
/-- An append onto a row of the call's own, from block n on, turns none of the known blocks. -/
theorem Inv.grow {w w1 w2 : World} {n : Nat} {bs : List (Nat × TypeId × Array Value)} {row : Option Nat} (h : Inv w n bs w1) (hg : w1.grownBy w2 row) (hr : ∀ g, row = some g → n ≤ g ∧ w.heap.size ≤ g) : Inv w n bs w2 :=
  ⟨h.below.grown hg h.below.size (fun k hk => (hr k hk).2), Nat.le_trans h.room hg.size, fun x hx => ⟨(h.blk x hx).1, (h.blk x hx).2.1, (h.blk x hx).2.2.kept hg (by intro e; have := (hr _ e).1; have := (h.blk x hx).2.1; omega)⟩⟩

/-- Four tags at a row's beginning. -/
theorem tags_of_take {cr : Array Value} {ts : List (Int × Int)} (h : cr.toList.take (4 * 2) = flatT (ts.take 4)) : ∀ i x, i < 4 → ts[i]? = some x → TagAt cr i x := by
  intro i x hi hx
  have h1 := flatT_at (ts.take 4) i x (by rw [List.getElem?_take_of_lt hi]; exact hx)
  rw [← h, List.getElem?_take_of_lt (by omega), List.getElem?_take_of_lt (by omega)] at h1
  exact ⟨by simpa using h1.1, by simpa using h1.2⟩

/-- What a join leaves: the joined tags in a row of its own. -/
def JoinedP (w : World) (ts : List (Int × Int)) (e : Ending) (w' : World) : Prop :=
  ∃ (g cap : Nat) (T : TypeId) (cur : Array Value), e = .returned (.agg #[.slice (some ⟨g, 0, none⟩) 4 cap]) ∧ w.heap.size ≤ g ∧ Blk w' g T cur ∧ 8 ≤ cur.size ∧ (∀ i x, ts[i]? = some x → TagAt cur i x) ∧ Below w.heap.size w w'

/-- A store into the vector at hand turns neither the tag's box nor the answer. -/
theorem jset {w w1 : World} {m : Nat} {T T' : TypeId} {c0 c1 : Value} {cs : Array Value} {i j : Nat} {u v : Value} (h : Inv w (m + 1) [(m, T, #[c0, c1]), (w.heap.size + 1 + 1, T', cs)] w1) (hm : w.heap.size < m) (_hm2 : w.heap.size < m + 1) :
    ((w1.setCell ⟨w.heap.size, i, none⟩ u).setCell ⟨w.heap.size, j, none⟩ v).cell? ⟨m, 0, none⟩ = some c0 ∧ ((w1.setCell ⟨w.heap.size, i, none⟩ u).setCell ⟨w.heap.size, j, none⟩ v).cell? ⟨m, 1, none⟩ = some c1 ∧
    Inv w (m + 1) [(m, T, #[c0, c1]), (w.heap.size + 1 + 1, T', cs)] ((w1.setCell ⟨w.heap.size, i, none⟩ u).setCell ⟨w.heap.size, j, none⟩ v) := by
  have h2 : Inv w (m + 1) [(m, T, #[c0, c1]), (w.heap.size + 1 + 1, T', cs)] ((w1.setCell ⟨w.heap.size, i, none⟩ u).setCell ⟨w.heap.size, j, none⟩ v) := by
    refine h.turn (g := w.heap.size) (grown_own (grown_own (World.grownBy.refl _ _) u) v) (Nat.le_refl _) (fun x hx => .inl ⟨hx, ?_⟩)
    simp only [List.mem_cons, List.not_mem_nil, or_false] at hx
    rcases hx with rfl | rfl
    · show m ≠ w.heap.size; omega
    · show w.heap.size + 1 + 1 ≠ w.heap.size; omega
  exact ⟨(h2.nth 0 rfl).at 0, (h2.nth 0 rfl).at 1, h2⟩

/-- The eight cells of a vector in the midst of a join. -/
def jcells (x0 x1 x2 x3 y0 y1 y2 y3 : Int × Int) (k : Nat) : Array Value :=
  match k with
  | 0 => #[.int .i64 x0.1, .int .i64 x0.2, .int .i64 x1.1, .int .i64 x1.2, .int .i64 x2.1, .int .i64 x2.2, .int .i64 x3.1, .int .i64 x3.2]
  | 1 => #[.int .i64 (mxp x0 y0).1, .int .i64 (mxp x0 y0).2, .int .i64 x1.1, .int .i64 x1.2, .int .i64 x2.1, .int .i64 x2.2, .int .i64 x3.1, .int .i64 x3.2]
  | 2 => #[.int .i64 (mxp x0 y0).1, .int .i64 (mxp x0 y0).2, .int .i64 (mxp x1 y1).1, .int .i64 (mxp x1 y1).2, .int .i64 x2.1, .int .i64 x2.2, .int .i64 x3.1, .int .i64 x3.2]
  | 3 => #[.int .i64 (mxp x0 y0).1, .int .i64 (mxp x0 y0).2, .int .i64 (mxp x1 y1).1, .int .i64 (mxp x1 y1).2, .int .i64 (mxp x2 y2).1, .int .i64 (mxp x2 y2).2, .int .i64 x3.1, .int .i64 x3.2]
  | _ => #[.int .i64 (mxp x0 y0).1, .int .i64 (mxp x0 y0).2, .int .i64 (mxp x1 y1).1, .int .i64 (mxp x1 y1).2, .int .i64 (mxp x2 y2).1, .int .i64 (mxp x2 y2).2, .int .i64 (mxp x3 y3).1, .int .i64 (mxp x3 y3).2]

set_option maxRecDepth 100000 in
set_option maxHeartbeats 2000000 in
theorem join_any (x0 x1 x2 x3 y0 y1 y2 y3 : Int × Int) (w : World) :
    Calls Try.prog 43 #[.agg #[.int .i64 x0.1, .int .i64 x0.2, .int .i64 x1.1, .int .i64 x1.2, .int .i64 x2.1, .int .i64 x2.2, .int .i64 x3.1, .int .i64 x3.2], .agg #[.int .i64 y0.1, .int .i64 y0.2, .int .i64 y1.1, .int .i64 y1.2, .int .i64 y2.1, .int .i64 y2.2, .int .i64 y3.1, .int .i64 y3.2]] w fun e w' => e = .returned (.agg #[.int .i64 (mxp x0 y0).1, .int .i64 (mxp x0 y0).2, .int .i64 (mxp x1 y1).1, .int .i64 (mxp x1 y1).2, .int .i64 (mxp x2 y2).1, .int .i64 (mxp x2 y2).2, .int .i64 (mxp x3 y3).1, .int .i64 (mxp x3 y3).2]) ∧ Below w.heap.size w w' := by
  have S0 := (((Inv.start w).box 69 #[.int .i64 x0.1, .int .i64 x0.2, .int .i64 x1.1, .int .i64 x1.2, .int .i64 x2.1, .int .i64 x2.2, .int .i64 x3.1, .int .i64 x3.2]).box 69 #[.int .i64 y0.1, .int .i64 y0.2, .int .i64 y1.1, .int .i64 y1.2, .int .i64 y2.1, .int .i64 y2.2, .int .i64 y3.1, .int .i64 y3.2]).box 69 zero8
  simp only [World.size_alloc] at S0
  have V0 : Hid (Blk (((w.alloc (.cells #[.int .i64 x0.1, .int .i64 x0.2, .int .i64 x1.1, .int .i64 x1.2, .int .i64 x2.1, .int .i64 x2.2, .int .i64 x3.1, .int .i64 x3.2] 69)).alloc (.cells #[.int .i64 y0.1, .int .i64 y0.2, .int .i64 y1.1, .int .i64 y1.2, .int .i64 y2.1, .int .i64 y2.2, .int .i64 y3.1, .int .i64 y3.2] 69)).alloc (.cells zero8 69)) w.heap.size 69 (jcells x0 x1 x2 x3 y0 y1 y2 y3 0)) := S0.nth 2 rfl
  have S1 : Inv w (((w.alloc (.cells #[.int .i64 x0.1, .int .i64 x0.2, .int .i64 x1.1, .int .i64 x1.2, .int .i64 x2.1, .int .i64 x2.2, .int .i64 x3.1, .int .i64 x3.2] 69)).alloc (.cells #[.int .i64 y0.1, .int .i64 y0.2, .int .i64 y1.1, .int .i64 y1.2, .int .i64 y2.1, .int .i64 y2.2, .int .i64 y3.1, .int .i64 y3.2] 69)).alloc (.cells zero8 69)).heap.size [(w.heap.size + 1 + 1, 69, zero8)] (((w.alloc (.cells #[.int .i64 x0.1, .int .i64 x0.2, .int .i64 x1.1, .int .i64 x1.2, .int .i64 x2.1, .int .i64 x2.2, .int .i64 x3.1, .int .i64 x3.2] 69)).alloc (.cells #[.int .i64 y0.1, .int .i64 y0.2, .int .i64 y1.1, .int .i64 y1.2, .int .i64 y2.1, .int .i64 y2.2, .int .i64 y3.1, .int .i64 y3.2] 69)).alloc (.cells zero8 69)) := (S0.top).sub (by simp)
  clear S0
  have i0 : ∀ W : World, (Instr.index 67 (.agg #[.int .i64 y0.1, .int .i64 y0.2, .int .i64 y1.1, .int .i64 y1.2, .int .i64 y2.1, .int .i64 y2.2, .int .i64 y3.1, .int .i64 y3.2]) (.int .i64 0)).run Try.prog W = .ok (.agg #[.int .i64 y0.1, .int .i64 y0.2]) W := fun _ => by kernel_rfl
  have i1 : ∀ W : World, (Instr.index 67 (.agg #[.int .i64 y0.1, .int .i64 y0.2, .int .i64 y1.1, .int .i64 y1.2, .int .i64 y2.1, .int .i64 y2.2, .int .i64 y3.1, .int .i64 y3.2]) (.int .i64 1)).run Try.prog W = .ok (.agg #[.int .i64 y1.1, .int .i64 y1.2]) W := fun _ => by kernel_rfl
  have i2 : ∀ W : World, (Instr.index 67 (.agg #[.int .i64 y0.1, .int .i64 y0.2, .int .i64 y1.1, .int .i64 y1.2, .int .i64 y2.1, .int .i64 y2.2, .int .i64 y3.1, .int .i64 y3.2]) (.int .i64 2)).run Try.prog W = .ok (.agg #[.int .i64 y2.1, .int .i64 y2.2]) W := fun _ => by kernel_rfl
  have i3 : ∀ W : World, (Instr.index 67 (.agg #[.int .i64 y0.1, .int .i64 y0.2, .int .i64 y1.1, .int .i64 y1.2, .int .i64 y2.1, .int .i64 y2.2, .int .i64 y3.1, .int .i64 y3.2]) (.int .i64 3)).run Try.prog W = .ok (.agg #[.int .i64 y3.1, .int .i64 y3.2]) W := fun _ => by kernel_rfl
  go_enter Try.func43, Try.ntmps43
  go_wp2
  go_loopw [9] (fun i wr => ∃ k : Int, 0 ≤ k ∧ k ≤ 4 ∧ i = .int .i64 k ∧ Hid (Blk wr w.heap.size 69 (jcells x0 x1 x2 x3 y0 y1 y2 y3 k.toNat)) ∧ Inv w wr.heap.size [(w.heap.size + 1 + 1, 69, zero8)] wr) (fun i _ => 4 - (intOf i).toNat)
  case atStart => exact ⟨0, by omega, by omega, rfl, V0, S1⟩
  case round =>
    obtain ⟨k, hk0, hk, rfl, hV0, hI⟩ := hrel
    clear S1 V0
    have hcase : k = 0 ∨ k = 1 ∨ k = 2 ∨ k = 3 ∨ k = 4 := by omega
    rcases hcase with rfl | rfl | rfl | rfl | rfl
    · have hV : Blk wr w.heap.size 69 #[.int .i64 x0.1, .int .i64 x0.2, .int .i64 x1.1, .int .i64 x1.2, .int .i64 x2.1, .int .i64 x2.2, .int .i64 x3.1, .int .i64 x3.2] := hV0.out
      have T0 := (hI.top).box 27 #[.int .i64 y0.1, .int .i64 y0.2]
      have V0 := hV.more (.cells #[.int .i64 y0.1, .int .i64 y0.2] 27)
      have q0 := V0.eight.1
      have hz := hV.inside
      simp only [World.size_alloc] at T0
      clear hI hV hV0
      go_wp2_with fail
      generalize wr.alloc (.cells #[.int .i64 y0.1, .int .i64 y0.2] 27) = W at T0 V0 q0 ⊢
      refine wp_region_noPanic ?_
      refine wp_region_held_drew (S := (fun w' => w'.cell? ⟨wr.heap.size, 0, none⟩ = some (.int .i64 y0.1) ∧ w'.cell? ⟨wr.heap.size, 1, none⟩ = some (.int .i64 y0.2) ∧ Inv w (wr.heap.size + 1) [(wr.heap.size, 27, #[.int .i64 y0.1, .int .i64 y0.2]), (w.heap.size + 1 + 1, 69, zero8)] w')) (by kernel_rfl) (by exact ⟨(T0.nth 0 rfl).at 0, (T0.nth 0 rfl).at 1, T0.drew⟩) (fun hHeld => ?_)
      refine take_run 0 (some 13) (v := ?_) rfl rfl (by kernel_rfl) (by kernel_rfl) (by kernel_rfl) (fun _ _ _ h => h) (by rfl) ?_ hHeld ?_
      rotate_left
      · ((intro w hSw); (try dsimp only at hSw); go_simp <;> with_reducible rfl)
      simp only [Act.put, List.setIfInBounds_toArray, List.set_cons_zero, List.set_cons_succ]
      refine take_run 1 (some 14) (v := ?_) rfl rfl (by kernel_rfl) (by kernel_rfl) (by kernel_rfl) (fun _ _ _ h => h) (by rfl) ?_ hHeld ?_
      rotate_left
      · ((intro w hSw); (try dsimp only at hSw); go_simp <;> with_reducible rfl)
      simp only [Act.put, List.setIfInBounds_toArray, List.set_cons_zero, List.set_cons_succ]
      refine take_run 2 (some 15) (v := ?_) rfl rfl (by kernel_rfl) (by kernel_rfl) (by kernel_rfl) (fun _ _ _ h => h) (by rfl) ?_ hHeld ?_
      rotate_left
      · ((intro w hSw); (try dsimp only at hSw); go_simp <;> with_reducible rfl)
      simp only [Act.put, List.setIfInBounds_toArray, List.set_cons_zero, List.set_cons_succ]
      refine take_run 3 (some 16) (v := ?_) rfl rfl (by kernel_rfl) (by kernel_rfl) (by kernel_rfl) (fun _ _ _ h => h) (by rfl) ?_ hHeld ?_
      rotate_left
      · ((intro w hSw); (try dsimp only at hSw); go_simp <;> with_reducible rfl)
      simp only [Act.put, List.setIfInBounds_toArray, List.set_cons_zero, List.set_cons_succ]
      refine take_run 5 (some 18) (v := ?_) rfl rfl (by kernel_rfl) (by kernel_rfl) (by kernel_rfl) (fun _ _ _ h => h) (by rfl) ?_ hHeld ?_
      rotate_left
      · ((intro w hSw); (try dsimp only at hSw); go_simp <;> with_reducible rfl)
      simp only [Act.put, List.setIfInBounds_toArray, List.set_cons_zero, List.set_cons_succ]
      refine take_run 7 (some 20) (v := ?_) rfl rfl (by kernel_rfl) (by kernel_rfl) (by kernel_rfl) (fun _ _ _ h => h) (by rfl) ?_ hHeld ?_
      rotate_left
      · ((intro w hSw); (try dsimp only at hSw); go_simp <;> with_reducible rfl)
      simp only [Act.put, List.setIfInBounds_toArray, List.set_cons_zero, List.set_cons_succ]
      refine take_one 4 (by kernel_rfl) rfl (fun K hK => ?_)
      go_simp
      refine hK.out _ _ (by exact hHeld) (fun hHeld => ?_)
      clear hK K
      refine take_one 6 (by kernel_rfl) rfl (fun K hK => ?_)
      go_simp
      (refine (implTagMax_any _ _ _ _ _).mono ?_; rintro e w1 ⟨rfl, hb1⟩; have V1 := V0.drew.on hb1; have q1 := V1.eight)
      try go_wp2_with fail
      refine hK.out _ _ (by exact ⟨((hHeld.2.2.on hb1).nth 0 rfl).at 0, ((hHeld.2.2.on hb1).nth 0 rfl).at 1, hHeld.2.2.on hb1⟩) (fun hHeld => ?_)
      clear hK K
      refine take_run 8 (some 21) (v := ?_) rfl rfl (by kernel_rfl) (by kernel_rfl) (by kernel_rfl) (fun _ _ _ h => h) (by rfl) ?_ hHeld ?_
      rotate_left
      · ((intro w hSw); (try dsimp only at hSw); go_simp <;> with_reducible rfl)
      simp only [Act.put, List.setIfInBounds_toArray, List.set_cons_zero, List.set_cons_succ]
      refine take_one 9 (by kernel_rfl) rfl (fun K hK => ?_)
      go_simp
      refine hK.out _ _ (by exact jset hHeld.2.2 (by omega) (by omega)) (fun hHeld => ?_)
      clear hK K
      refine wpAnyH_done (by kernel_rfl) ?_ _
      refine NoPanic.normal ?_
      have I2 : Inv w (wr.heap.size + 1) [(w.heap.size + 1 + 1, 69, zero8)] _ := hHeld.2.2.sub (by simp)
      have V2 := (V1.put 0 (.int .i64 (mxT x0.1 x0.2 y0.1 y0.2))).put 1 (.int .i64 (mxP x0.1 x0.2 y0.1 y0.2))
      clear hHeld V1 q1 q0 V0 T0
      go_wp2
      exact ⟨⟨1, by omega, by omega, by go_num, V2, I2.top⟩, by simp [intOf]⟩
    · have hV : Blk wr w.heap.size 69 #[.int .i64 (mxp x0 y0).1, .int .i64 (mxp x0 y0).2, .int .i64 x1.1, .int .i64 x1.2, .int .i64 x2.1, .int .i64 x2.2, .int .i64 x3.1, .int .i64 x3.2] := hV0.out
      have T0 := (hI.top).box 27 #[.int .i64 y1.1, .int .i64 y1.2]
      have V0 := hV.more (.cells #[.int .i64 y1.1, .int .i64 y1.2] 27)
      have q0 := V0.eight.1
      have hz := hV.inside
      simp only [World.size_alloc] at T0
      clear hI hV hV0
      go_wp2_with fail
      generalize wr.alloc (.cells #[.int .i64 y1.1, .int .i64 y1.2] 27) = W at T0 V0 q0 ⊢
      refine wp_region_noPanic ?_
      refine wp_region_held_drew (S := (fun w' => w'.cell? ⟨wr.heap.size, 0, none⟩ = some (.int .i64 y1.1) ∧ w'.cell? ⟨wr.heap.size, 1, none⟩ = some (.int .i64 y1.2) ∧ Inv w (wr.heap.size + 1) [(wr.heap.size, 27, #[.int .i64 y1.1, .int .i64 y1.2]), (w.heap.size + 1 + 1, 69, zero8)] w')) (by kernel_rfl) (by exact ⟨(T0.nth 0 rfl).at 0, (T0.nth 0 rfl).at 1, T0.drew⟩) (fun hHeld => ?_)
      refine take_run 0 (some 13) (v := ?_) rfl rfl (by kernel_rfl) (by kernel_rfl) (by kernel_rfl) (fun _ _ _ h => h) (by rfl) ?_ hHeld ?_
      rotate_left
      · ((intro w hSw); (try dsimp only at hSw); go_simp <;> with_reducible rfl)
      simp only [Act.put, List.setIfInBounds_toArray, List.set_cons_zero, List.set_cons_succ]
      refine take_run 1 (some 14) (v := ?_) rfl rfl (by kernel_rfl) (by kernel_rfl) (by kernel_rfl) (fun _ _ _ h => h) (by rfl) ?_ hHeld ?_
      rotate_left
      · ((intro w hSw); (try dsimp only at hSw); go_simp <;> with_reducible rfl)
      simp only [Act.put, List.setIfInBounds_toArray, List.set_cons_zero, List.set_cons_succ]
      refine take_run 2 (some 15) (v := ?_) rfl rfl (by kernel_rfl) (by kernel_rfl) (by kernel_rfl) (fun _ _ _ h => h) (by rfl) ?_ hHeld ?_
      rotate_left
      · ((intro w hSw); (try dsimp only at hSw); go_simp <;> with_reducible rfl)
      simp only [Act.put, List.setIfInBounds_toArray, List.set_cons_zero, List.set_cons_succ]
      refine take_run 3 (some 16) (v := ?_) rfl rfl (by kernel_rfl) (by kernel_rfl) (by kernel_rfl) (fun _ _ _ h => h) (by rfl) ?_ hHeld ?_
      rotate_left
      · ((intro w hSw); (try dsimp only at hSw); go_simp <;> with_reducible rfl)
      simp only [Act.put, List.setIfInBounds_toArray, List.set_cons_zero, List.set_cons_succ]
      refine take_run 5 (some 18) (v := ?_) rfl rfl (by kernel_rfl) (by kernel_rfl) (by kernel_rfl) (fun _ _ _ h => h) (by rfl) ?_ hHeld ?_
      rotate_left
      · ((intro w hSw); (try dsimp only at hSw); go_simp <;> with_reducible rfl)
      simp only [Act.put, List.setIfInBounds_toArray, List.set_cons_zero, List.set_cons_succ]
      refine take_run 7 (some 20) (v := ?_) rfl rfl (by kernel_rfl) (by kernel_rfl) (by kernel_rfl) (fun _ _ _ h => h) (by rfl) ?_ hHeld ?_
      rotate_left
      · ((intro w hSw); (try dsimp only at hSw); go_simp <;> with_reducible rfl)
      simp only [Act.put, List.setIfInBounds_toArray, List.set_cons_zero, List.set_cons_succ]
      refine take_one 4 (by kernel_rfl) rfl (fun K hK => ?_)
      go_simp
      refine hK.out _ _ (by exact hHeld) (fun hHeld => ?_)
      clear hK K
      refine take_one 6 (by kernel_rfl) rfl (fun K hK => ?_)
      go_simp
      (refine (implTagMax_any _ _ _ _ _).mono ?_; rintro e w1 ⟨rfl, hb1⟩; have V1 := V0.drew.on hb1; have q1 := V1.eight)
      try go_wp2_with fail
      refine hK.out _ _ (by exact ⟨((hHeld.2.2.on hb1).nth 0 rfl).at 0, ((hHeld.2.2.on hb1).nth 0 rfl).at 1, hHeld.2.2.on hb1⟩) (fun hHeld => ?_)
      clear hK K
      refine take_run 8 (some 21) (v := ?_) rfl rfl (by kernel_rfl) (by kernel_rfl) (by kernel_rfl) (fun _ _ _ h => h) (by rfl) ?_ hHeld ?_
      rotate_left
      · ((intro w hSw); (try dsimp only at hSw); go_simp <;> with_reducible rfl)
      simp only [Act.put, List.setIfInBounds_toArray, List.set_cons_zero, List.set_cons_succ]
      refine take_one 9 (by kernel_rfl) rfl (fun K hK => ?_)
      go_simp
      refine hK.out _ _ (by exact jset hHeld.2.2 (by omega) (by omega)) (fun hHeld => ?_)
      clear hK K
      refine wpAnyH_done (by kernel_rfl) ?_ _
      refine NoPanic.normal ?_
      have I2 : Inv w (wr.heap.size + 1) [(w.heap.size + 1 + 1, 69, zero8)] _ := hHeld.2.2.sub (by simp)
      have V2 := (V1.put 2 (.int .i64 (mxT x1.1 x1.2 y1.1 y1.2))).put 3 (.int .i64 (mxP x1.1 x1.2 y1.1 y1.2))
      clear hHeld V1 q1 q0 V0 T0
      go_wp2
      exact ⟨⟨2, by omega, by omega, by go_num, V2, I2.top⟩, by simp [intOf]⟩
    · have hV : Blk wr w.heap.size 69 #[.int .i64 (mxp x0 y0).1, .int .i64 (mxp x0 y0).2, .int .i64 (mxp x1 y1).1, .int .i64 (mxp x1 y1).2, .int .i64 x2.1, .int .i64 x2.2, .int .i64 x3.1, .int .i64 x3.2] := hV0.out
      have T0 := (hI.top).box 27 #[.int .i64 y2.1, .int .i64 y2.2]
      have V0 := hV.more (.cells #[.int .i64 y2.1, .int .i64 y2.2] 27)
      have q0 := V0.eight.1
      have hz := hV.inside
      simp only [World.size_alloc] at T0
      clear hI hV hV0
      go_wp2_with fail
      generalize wr.alloc (.cells #[.int .i64 y2.1, .int .i64 y2.2] 27) = W at T0 V0 q0 ⊢
      refine wp_region_noPanic ?_
      refine wp_region_held_drew (S := (fun w' => w'.cell? ⟨wr.heap.size, 0, none⟩ = some (.int .i64 y2.1) ∧ w'.cell? ⟨wr.heap.size, 1, none⟩ = some (.int .i64 y2.2) ∧ Inv w (wr.heap.size + 1) [(wr.heap.size, 27, #[.int .i64 y2.1, .int .i64 y2.2]), (w.heap.size + 1 + 1, 69, zero8)] w')) (by kernel_rfl) (by exact ⟨(T0.nth 0 rfl).at 0, (T0.nth 0 rfl).at 1, T0.drew⟩) (fun hHeld => ?_)
      refine take_run 0 (some 13) (v := ?_) rfl rfl (by kernel_rfl) (by kernel_rfl) (by kernel_rfl) (fun _ _ _ h => h) (by rfl) ?_ hHeld ?_
      rotate_left
      · ((intro w hSw); (try dsimp only at hSw); go_simp <;> with_reducible rfl)
      simp only [Act.put, List.setIfInBounds_toArray, List.set_cons_zero, List.set_cons_succ]
      refine take_run 1 (some 14) (v := ?_) rfl rfl (by kernel_rfl) (by kernel_rfl) (by kernel_rfl) (fun _ _ _ h => h) (by rfl) ?_ hHeld ?_
      rotate_left
      · ((intro w hSw); (try dsimp only at hSw); go_simp <;> with_reducible rfl)
      simp only [Act.put, List.setIfInBounds_toArray, List.set_cons_zero, List.set_cons_succ]
      refine take_run 2 (some 15) (v := ?_) rfl rfl (by kernel_rfl) (by kernel_rfl) (by kernel_rfl) (fun _ _ _ h => h) (by rfl) ?_ hHeld ?_
      rotate_left
      · ((intro w hSw); (try dsimp only at hSw); go_simp <;> with_reducible rfl)
      simp only [Act.put, List.setIfInBounds_toArray, List.set_cons_zero, List.set_cons_succ]
      refine take_run 3 (some 16) (v := ?_) rfl rfl (by kernel_rfl) (by kernel_rfl) (by kernel_rfl) (fun _ _ _ h => h) (by rfl) ?_ hHeld ?_
      rotate_left
      · ((intro w hSw); (try dsimp only at hSw); go_simp <;> with_reducible rfl)
      simp only [Act.put, List.setIfInBounds_toArray, List.set_cons_zero, List.set_cons_succ]
      refine take_run 5 (some 18) (v := ?_) rfl rfl (by kernel_rfl) (by kernel_rfl) (by kernel_rfl) (fun _ _ _ h => h) (by rfl) ?_ hHeld ?_
      rotate_left
      · ((intro w hSw); (try dsimp only at hSw); go_simp <;> with_reducible rfl)
      simp only [Act.put, List.setIfInBounds_toArray, List.set_cons_zero, List.set_cons_succ]
      refine take_run 7 (some 20) (v := ?_) rfl rfl (by kernel_rfl) (by kernel_rfl) (by kernel_rfl) (fun _ _ _ h => h) (by rfl) ?_ hHeld ?_
      rotate_left
      · ((intro w hSw); (try dsimp only at hSw); go_simp <;> with_reducible rfl)
      simp only [Act.put, List.setIfInBounds_toArray, List.set_cons_zero, List.set_cons_succ]
      refine take_one 4 (by kernel_rfl) rfl (fun K hK => ?_)
      go_simp
      refine hK.out _ _ (by exact hHeld) (fun hHeld => ?_)
      clear hK K
      refine take_one 6 (by kernel_rfl) rfl (fun K hK => ?_)
      go_simp
      (refine (implTagMax_any _ _ _ _ _).mono ?_; rintro e w1 ⟨rfl, hb1⟩; have V1 := V0.drew.on hb1; have q1 := V1.eight)
      try go_wp2_with fail
      refine hK.out _ _ (by exact ⟨((hHeld.2.2.on hb1).nth 0 rfl).at 0, ((hHeld.2.2.on hb1).nth 0 rfl).at 1, hHeld.2.2.on hb1⟩) (fun hHeld => ?_)
      clear hK K
      refine take_run 8 (some 21) (v := ?_) rfl rfl (by kernel_rfl) (by kernel_rfl) (by kernel_rfl) (fun _ _ _ h => h) (by rfl) ?_ hHeld ?_
      rotate_left
      · ((intro w hSw); (try dsimp only at hSw); go_simp <;> with_reducible rfl)
      simp only [Act.put, List.setIfInBounds_toArray, List.set_cons_zero, List.set_cons_succ]
      refine take_one 9 (by kernel_rfl) rfl (fun K hK => ?_)
      go_simp
      refine hK.out _ _ (by exact jset hHeld.2.2 (by omega) (by omega)) (fun hHeld => ?_)
      clear hK K
      refine wpAnyH_done (by kernel_rfl) ?_ _
      refine NoPanic.normal ?_
      have I2 : Inv w (wr.heap.size + 1) [(w.heap.size + 1 + 1, 69, zero8)] _ := hHeld.2.2.sub (by simp)
      have V2 := (V1.put 4 (.int .i64 (mxT x2.1 x2.2 y2.1 y2.2))).put 5 (.int .i64 (mxP x2.1 x2.2 y2.1 y2.2))
      clear hHeld V1 q1 q0 V0 T0
      go_wp2
      exact ⟨⟨3, by omega, by omega, by go_num, V2, I2.top⟩, by simp [intOf]⟩
    · have hV : Blk wr w.heap.size 69 #[.int .i64 (mxp x0 y0).1, .int .i64 (mxp x0 y0).2, .int .i64 (mxp x1 y1).1, .int .i64 (mxp x1 y1).2, .int .i64 (mxp x2 y2).1, .int .i64 (mxp x2 y2).2, .int .i64 x3.1, .int .i64 x3.2] := hV0.out
      have T0 := (hI.top).box 27 #[.int .i64 y3.1, .int .i64 y3.2]
      have V0 := hV.more (.cells #[.int .i64 y3.1, .int .i64 y3.2] 27)
      have q0 := V0.eight.1
      have hz := hV.inside
      simp only [World.size_alloc] at T0
      clear hI hV hV0
      go_wp2_with fail
      generalize wr.alloc (.cells #[.int .i64 y3.1, .int .i64 y3.2] 27) = W at T0 V0 q0 ⊢
      refine wp_region_noPanic ?_
      refine wp_region_held_drew (S := (fun w' => w'.cell? ⟨wr.heap.size, 0, none⟩ = some (.int .i64 y3.1) ∧ w'.cell? ⟨wr.heap.size, 1, none⟩ = some (.int .i64 y3.2) ∧ Inv w (wr.heap.size + 1) [(wr.heap.size, 27, #[.int .i64 y3.1, .int .i64 y3.2]), (w.heap.size + 1 + 1, 69, zero8)] w')) (by kernel_rfl) (by exact ⟨(T0.nth 0 rfl).at 0, (T0.nth 0 rfl).at 1, T0.drew⟩) (fun hHeld => ?_)
      refine take_run 0 (some 13) (v := ?_) rfl rfl (by kernel_rfl) (by kernel_rfl) (by kernel_rfl) (fun _ _ _ h => h) (by rfl) ?_ hHeld ?_
      rotate_left
      · ((intro w hSw); (try dsimp only at hSw); go_simp <;> with_reducible rfl)
      simp only [Act.put, List.setIfInBounds_toArray, List.set_cons_zero, List.set_cons_succ]
      refine take_run 1 (some 14) (v := ?_) rfl rfl (by kernel_rfl) (by kernel_rfl) (by kernel_rfl) (fun _ _ _ h => h) (by rfl) ?_ hHeld ?_
      rotate_left
      · ((intro w hSw); (try dsimp only at hSw); go_simp <;> with_reducible rfl)
      simp only [Act.put, List.setIfInBounds_toArray, List.set_cons_zero, List.set_cons_succ]
      refine take_run 2 (some 15) (v := ?_) rfl rfl (by kernel_rfl) (by kernel_rfl) (by kernel_rfl) (fun _ _ _ h => h) (by rfl) ?_ hHeld ?_
      rotate_left
      · ((intro w hSw); (try dsimp only at hSw); go_simp <;> with_reducible rfl)
      simp only [Act.put, List.setIfInBounds_toArray, List.set_cons_zero, List.set_cons_succ]
      refine take_run 3 (some 16) (v := ?_) rfl rfl (by kernel_rfl) (by kernel_rfl) (by kernel_rfl) (fun _ _ _ h => h) (by rfl) ?_ hHeld ?_
      rotate_left
      · ((intro w hSw); (try dsimp only at hSw); go_simp <;> with_reducible rfl)
      simp only [Act.put, List.setIfInBounds_toArray, List.set_cons_zero, List.set_cons_succ]
      refine take_run 5 (some 18) (v := ?_) rfl rfl (by kernel_rfl) (by kernel_rfl) (by kernel_rfl) (fun _ _ _ h => h) (by rfl) ?_ hHeld ?_
      rotate_left
      · ((intro w hSw); (try dsimp only at hSw); go_simp <;> with_reducible rfl)
      simp only [Act.put, List.setIfInBounds_toArray, List.set_cons_zero, List.set_cons_succ]
      refine take_run 7 (some 20) (v := ?_) rfl rfl (by kernel_rfl) (by kernel_rfl) (by kernel_rfl) (fun _ _ _ h => h) (by rfl) ?_ hHeld ?_
      rotate_left
      · ((intro w hSw); (try dsimp only at hSw); go_simp <;> with_reducible rfl)
      simp only [Act.put, List.setIfInBounds_toArray, List.set_cons_zero, List.set_cons_succ]
      refine take_one 4 (by kernel_rfl) rfl (fun K hK => ?_)
      go_simp
      refine hK.out _ _ (by exact hHeld) (fun hHeld => ?_)
      clear hK K
      refine take_one 6 (by kernel_rfl) rfl (fun K hK => ?_)
      go_simp
      (refine (implTagMax_any _ _ _ _ _).mono ?_; rintro e w1 ⟨rfl, hb1⟩; have V1 := V0.drew.on hb1; have q1 := V1.eight)
      try go_wp2_with fail
      refine hK.out _ _ (by exact ⟨((hHeld.2.2.on hb1).nth 0 rfl).at 0, ((hHeld.2.2.on hb1).nth 0 rfl).at 1, hHeld.2.2.on hb1⟩) (fun hHeld => ?_)
      clear hK K
      refine take_run 8 (some 21) (v := ?_) rfl rfl (by kernel_rfl) (by kernel_rfl) (by kernel_rfl) (fun _ _ _ h => h) (by rfl) ?_ hHeld ?_
      rotate_left
      · ((intro w hSw); (try dsimp only at hSw); go_simp <;> with_reducible rfl)
      simp only [Act.put, List.setIfInBounds_toArray, List.set_cons_zero, List.set_cons_succ]
      refine take_one 9 (by kernel_rfl) rfl (fun K hK => ?_)
      go_simp
      refine hK.out _ _ (by exact jset hHeld.2.2 (by omega) (by omega)) (fun hHeld => ?_)
      clear hK K
      refine wpAnyH_done (by kernel_rfl) ?_ _
      refine NoPanic.normal ?_
      have I2 : Inv w (wr.heap.size + 1) [(w.heap.size + 1 + 1, 69, zero8)] _ := hHeld.2.2.sub (by simp)
      have V2 := (V1.put 6 (.int .i64 (mxT x3.1 x3.2 y3.1 y3.2))).put 7 (.int .i64 (mxP x3.1 x3.2 y3.1 y3.2))
      clear hHeld V1 q1 q0 V0 T0
      go_wp2
      exact ⟨⟨4, by omega, by omega, by go_num, V2, I2.top⟩, by simp [intOf]⟩
    · have hV : Blk wr w.heap.size 69 #[.int .i64 (mxp x0 y0).1, .int .i64 (mxp x0 y0).2, .int .i64 (mxp x1 y1).1, .int .i64 (mxp x1 y1).2, .int .i64 (mxp x2 y2).1, .int .i64 (mxp x2 y2).2, .int .i64 (mxp x3 y3).1, .int .i64 (mxp x3 y3).2] := hV0.out
      have E1 := (hI.nth 0 rfl).eight
      have E2 := hV.eight.1
      have hL := hI.below
      clear hV0 i0 i1 i2 i3
      go_wp2
      refine bodyPost_ret (v := .agg #[.int .i64 (mxp x0 y0).1, .int .i64 (mxp x0 y0).2, .int .i64 (mxp x1 y1).1, .int .i64 (mxp x1 y1).2, .int .i64 (mxp x2 y2).1, .int .i64 (mxp x2 y2).2, .int .i64 (mxp x3 y3).1, .int .i64 (mxp x3 y3).2]) (by simp [results, Try.results43, go_sem, E1]) rfl ?_
      exact ⟨rfl, below_set8 hL (by omega) _ _ _ _ _ _ _ _⟩
end Go.Proofs.Ytgofeljmpkhkbaa
