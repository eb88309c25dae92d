/- Contracts of the laws' small functions on slices of records: their size, their copy, whether two are the same. Condition: at most 1048576 records where memory is made. -/
import Derived.Test.YtjljaobmeaocjaaPasts
namespace Go.Proofs.Ytjljaobmeaocjaa
open Go.RowKit Go.Joins

/-- A record: the client, the kind, the key, the time and the place of the tag. -/
abbrev D := Int × Int × Int × Int × Int
/-- Its five cells. -/
abbrev doneC (s k y t u : Int) : Array Value := #[.int .i64 s, .int .i64 k, .int .i64 y, .int .i64 t, .int .i64 u]
theorem Blk.five {w : World} {g : Nat} {T : TypeId} {a b c d e : Value} (h : Blk w g T #[a, b, c, d, e]) :
    (w.cell? ⟨g, 0, none⟩ = some a ∧ w.cell? ⟨g, 1, none⟩ = some b ∧ w.cell? ⟨g, 2, none⟩ = some c ∧ w.cell? ⟨g, 3, none⟩ = some d ∧ w.cell? ⟨g, 4, none⟩ = some e) ∧
    (w.frozen? ⟨g, 0, none⟩ = false ∧ w.frozen? ⟨g, 1, none⟩ = false ∧ w.frozen? ⟨g, 2, none⟩ = false ∧ w.frozen? ⟨g, 3, none⟩ = false ∧ w.frozen? ⟨g, 4, none⟩ = false) :=
  ⟨⟨h.at 0, h.at 1, h.at 2, h.at 3, h.at 4⟩, h.loose 0, h.loose 1, h.loose 2, h.loose 3, h.loose 4⟩

/-- The five cells of the record at place i of a row of cells. -/
def DoneAt (cur : Array Value) (i : Nat) (x : D) : Prop :=
  cur[i * 5]? = some (.int .i64 x.1) ∧ cur[i * 5 + 1]? = some (.int .i64 x.2.1) ∧ cur[i * 5 + 2]? = some (.int .i64 x.2.2.1) ∧ cur[i * 5 + 3]? = some (.int .i64 x.2.2.2.1) ∧ cur[i * 5 + 4]? = some (.int .i64 x.2.2.2.2)
/-- Cells with the record at place k turned. -/
abbrev put5 (cur : Array Value) (k : Nat) (x : D) : Array Value :=
  ((((cur.setIfInBounds (k * 5) (.int .i64 x.1)).setIfInBounds (k * 5 + 1) (.int .i64 x.2.1)).setIfInBounds (k * 5 + 2) (.int .i64 x.2.2.1)).setIfInBounds (k * 5 + 3) (.int .i64 x.2.2.2.1)).setIfInBounds (k * 5 + 4) (.int .i64 x.2.2.2.2)
theorem doneAt_put {cur : Array Value} {k : Nat} {x : D} (h : k * 5 + 4 < cur.size) : DoneAt (put5 cur k x) k x := by
  refine ⟨?_, ?_, ?_, ?_, ?_⟩ <;> simp [put5, Array.getElem?_setIfInBounds] <;> omega
theorem doneAt_other {cur : Array Value} {j k : Nat} {x y : D} (hj : j ≠ k) (h : DoneAt cur j x) : DoneAt (put5 cur k y) j x := by
  obtain ⟨h0, h1, h2, h3, h4⟩ := h
  refine ⟨?_, ?_, ?_, ?_, ?_⟩
  all_goals
    unfold put5
    rw [Array.getElem?_setIfInBounds_ne (by omega), Array.getElem?_setIfInBounds_ne (by omega), Array.getElem?_setIfInBounds_ne (by omega), Array.getElem?_setIfInBounds_ne (by omega), Array.getElem?_setIfInBounds_ne (by omega)]
    assumption
theorem doneAt_step {cur : Array Value} {k : Nat} {ds : List D} {y : D} (h : k * 5 + 4 < cur.size) (hy : ds[k]? = some y) (hc : ∀ j x, j < k → ds[j]? = some x → DoneAt cur j x) :
    ∀ j x, j < k + 1 → ds[j]? = some x → DoneAt (put5 cur k y) j x := by
  intro j x hj hx
  by_cases e : j = k
  · subst e
    rw [hy] at hx
    injection hx with hx
    subst hx
    exact doneAt_put h
  · exact doneAt_other e (hc j x (by omega) hx)

/-- The five cells of a record from here on. -/
abbrev Five (w : World) (b o : Nat) (x : D) : Prop :=
  w.cell? ⟨b, o, none⟩ = some (.int .i64 x.1) ∧ w.cell? ⟨b, o + 1, none⟩ = some (.int .i64 x.2.1) ∧ w.cell? ⟨b, o + 2, none⟩ = some (.int .i64 x.2.2.1) ∧ w.cell? ⟨b, o + 3, none⟩ = some (.int .i64 x.2.2.2.1) ∧ w.cell? ⟨b, o + 4, none⟩ = some (.int .i64 x.2.2.2.2)
theorem Five.keep {w w' : World} {b o B : Nat} {x : D} (h : Five w b o x) (hb : b < B) (hk : ∀ p : Addr, p.block < B → w'.cell? p = w.cell? p) : Five w' b o x :=
  ⟨(hk ⟨b, o, none⟩ hb).trans h.1, (hk ⟨b, o + 1, none⟩ hb).trans h.2.1, (hk ⟨b, o + 2, none⟩ hb).trans h.2.2.1, (hk ⟨b, o + 3, none⟩ hb).trans h.2.2.2.1, (hk ⟨b, o + 4, none⟩ hb).trans h.2.2.2.2⟩
theorem Five.on {w w' : World} {b o B : Nat} {x : D} (h : Five w b o x) (hb : b < B) (hB : Below B w w') : Five w' b o x := h.keep hb fun _ hp => hB.cell hp
/-- A slice that reads as these records, in old memory (below block B). -/
def Dg (w : World) (B : Nat) (a : Option Addr) (ds : List D) : Prop :=
  ds = [] ∨ ∃ b off : Nat, a = some ⟨b, off, none⟩ ∧ b < B ∧ ∀ i x, ds[i]? = some x → Five w b (off + i * 5) x
theorem Dg.on {w w' : World} {B : Nat} {a : Option Addr} {ds : List D} (h : Dg w B a ds) (hb : Below B w w') : Dg w' B a ds := by
  rcases h with h | ⟨b, off, ha, hlt, hx⟩
  · exact .inl h
  · exact .inr ⟨b, off, ha, hlt, fun i x hi => (hx i x hi).on hlt hb⟩
theorem Dg.up {w : World} {B B' : Nat} {a : Option Addr} {ds : List D} (h : Dg w B a ds) (hB : B ≤ B') : Dg w B' a ds := by
  rcases h with h | ⟨b, off, ha, hb, hx⟩
  · exact .inl h
  · exact .inr ⟨b, off, ha, by omega, hx⟩
theorem Dg.of {w : World} {B g : Nat} {T : TypeId} {cur : Array Value} {ds : List D} (hb : Blk w g T cur) (hg : g < B) (h : ∀ i x, ds[i]? = some x → DoneAt cur i x) : Dg w B (some ⟨g, 0, none⟩) ds :=
  .inr ⟨g, 0, rfl, hg, fun i x hi => by
    obtain ⟨h0, h1, h2, h3, h4⟩ := h i x hi
    refine ⟨?_, ?_, ?_, ?_, ?_⟩
    all_goals
      rw [Nat.zero_add, hb.at]
      assumption⟩
/-- The first records of a row. -/
theorem Dg.take {w : World} {B : Nat} {a : Option Addr} {ds : List D} (h : Dg w B a ds) (k : Nat) : Dg w B a (ds.take k) := by
  rcases h with h | ⟨b, off, ha, hb, hx⟩
  · exact .inl (by rw [h]; simp)
  · exact .inr ⟨b, off, ha, hb, fun i x hi => hx i x (by
      rw [List.getElem?_take] at hi
      split at hi
      · exact hi
      · cases hi)⟩

set_option maxHeartbeats 400000 in
theorem szDoneS_fits (a : Option Addr) (n c : Nat) (left : Int) (w : World) (h0 : left ≤ 1048576) (hn : (n : Int) ≤ left) :
    Calls Try.prog 15 #[.slice a n c, .int .i64 left] w fun e w' => e = .returned (.int .i64 (left - n)) ∧ w = w' := by
  have h1 : ¬ (left - (n : Int) < 0) := by omega
  go_enter Try.func15, Try.ntmps15
  go_wp2
  go_ret
  exact ⟨rfl, rfl⟩
set_option maxHeartbeats 400000 in
theorem szDoneS_not (a : Option Addr) (n c : Nat) (left : Int) (w : World) (h0 : left ≤ 1048576) (h00 : 0 ≤ left) (hm : n ≤ 9223372036854775807) (hn : left < (n : Int)) :
    Calls Try.prog 15 #[.slice a n c, .int .i64 left] w fun e w' => e = .returned (.int .i64 (-1)) ∧ w = w' := by
  have h1 : left - (n : Int) < 0 := by omega
  go_enter Try.func15, Try.ntmps15
  go_wp2
  go_ret
  exact ⟨rfl, rfl⟩

set_option maxRecDepth 100000 in
set_option maxHeartbeats 1000000 in
theorem toDone_any (s k y t u : Int) (w : World) :
    Calls Try.prog 53 #[.agg (doneC s k y t u)] w fun e w' => e = .returned (.agg (doneC s k y t u)) ∧ Below w.heap.size w w' := by
  have S0 := (((Inv.start w).box 57 (doneC s k y t u)).box 53 (doneC 0 0 0 0 0)).box 53 (doneC s k y 0 0)
  simp only [World.size_alloc] at S0
  go_enter Try.func53, Try.ntmps53
  go_wp2_with fail
  generalize (((w.alloc (.cells (doneC s k y t u) 57)).alloc (.cells (doneC 0 0 0 0 0) 53)).alloc (.cells (doneC s k y 0 0) 53)) = W at S0 ⊢
  refine (toTag_any _ _ _).mono ?_
  rintro e w1 ⟨rfl, hb1⟩
  have S1 := S0.on hb1
  have k1 := (S1.nth 0 rfl).five
  have k2 := (S1.nth 1 rfl).five
  have hl := S1.below
  clear S0 S1 hb1
  go_wp2
  refine bodyPost_ret (v := .agg (doneC s k y t u)) (by simp [results, Try.results53, go_sem, k2]) rfl ⟨rfl, ?_⟩
  exact ((((((hl.setCell (by simp; omega) _).setCell (by simp; omega) _).setCell (by simp) _).setCell (by simp) _).setCell (by simp) _).setCell (by simp) _).setCell (by simp) _

theorem done_info : (Try.prog.info? 53).map (fun i => (i.zero, i.size, i.bytes)) = some (some (.agg (doneC 0 0 0 0 0)), 5, 40) := by kernel_rfl

/-- What toDoneS leaves: the records in a new block of its own. -/
def CopiedD (w : World) (ds : List D) (e : Ending) (w' : World) : Prop :=
  ∃ (g : Nat) (cur : Array Value), e = .returned (.slice (some ⟨g, 0, none⟩) ds.length ds.length) ∧ w.heap.size ≤ g ∧ Blk w' g 53 cur ∧ cur.size = ds.length * 5 ∧ (∀ i x, ds[i]? = some x → DoneAt cur i x) ∧ Below w.heap.size w w'

set_option maxRecDepth 100000 in
set_option maxHeartbeats 2000000 in
theorem toDoneS_any (a : Option Addr) (c : Nat) (ds : List D) (w : World) (hn : ds.length ≤ 1048576) (hd : Dg w w.heap.size a ds) :
    Calls Try.prog 17 #[.slice a ds.length c] w (CopiedD w ds) := by
  obtain ⟨i0, hi0, hz0, hz1, hz2⟩ := info_parts done_info
  have hmk : ∀ W : World, (Instr.makeSlice 25 (.int .i64 (ds.length : Int)) (.int .i64 (ds.length : Int))).run Try.prog W = .ok (.slice (some ⟨W.heap.size, 0, none⟩) ds.length ds.length) (W.alloc (.cells (madeCells (Value.agg (doneC 0 0 0 0 0)).cells (ds.length * 5)) 53)) := by
    intro W
    have hr := run_make (P := Try.prog) W 25 53 i0 _ Try.underlying25 hi0 hz0 .i64 .i64 (ds.length : Int) (ds.length : Int) (by omega) (by omega) (by rw [hz2]; omega) (by omega)
    rw [hz1] at hr
    simpa using hr
  generalize hn' : ds.length = n at *
  have HN := hide hn'
  clear hn'
  go_enter Try.func17, Try.ntmps17
  go_wp2
  clear hmk hi0 hz0 hz1 hz2
  have B0 := Blk.made w 53 (madeCells (doneC 0 0 0 0 0) (n * 5))
  have L0 := below_alloc1 w (.cells (madeCells (doneC 0 0 0 0 0) (n * 5)) 53)
  go_loopw [4] (fun i wr => ∃ (k : Nat) (cur : Array Value), k ≤ n ∧ i = .int .i64 (k : Int) ∧ Blk wr w.heap.size 53 cur ∧ cur.size = n * 5 ∧ (∀ j x, j < k → ds[j]? = some x → DoneAt cur j x) ∧ Below w.heap.size w wr) (fun i _ => n - (intOf i).toNat)
  case atStart => exact ⟨0, _, Nat.zero_le _, rfl, B0, size_madeCells _ _, fun j x hj => absurd hj (by omega), L0⟩
  case round =>
    obtain ⟨k, cur, hk, rfl, hB, hsz, hcur, hL⟩ := hrel
    by_cases hlt : k < n
    · rcases hd with h0 | ⟨b, off, rfl, hb, hx⟩
      · have := HN.out; subst h0; simp at this; omega
      · have hkl : k < ds.length := by have := HN.out; omega
        have hF := (hx k _ (List.getElem?_eq_getElem hkl)).on hb hL
        have HY := hide (List.getElem?_eq_getElem hkl)
        generalize ds[k] = y at hF HY
        obtain ⟨y0, y1, y2, y3, y4⟩ := y
        clear hx
        go_wp2_with fail
        refine (toDone_any _ _ _ _ _ _).mono ?_
        rintro e w1 ⟨rfl, hb1⟩
        have B1 := hB.on hb1
        have hs0 : k * 5 < cur.size := by omega
        have hs1 : k * 5 + 1 < cur.size := by omega
        have hs2 : k * 5 + 2 < cur.size := by omega
        have hs3 : k * 5 + 3 < cur.size := by omega
        have hs4 : k * 5 + 4 < cur.size := by omega
        have d0 : w1.cell? ⟨w.heap.size, k * 5, none⟩ = some cur[k * 5] := by rw [B1.at]; exact Array.getElem?_eq_getElem hs0
        have d1 : w1.cell? ⟨w.heap.size, k * 5 + 1, none⟩ = some cur[k * 5 + 1] := by rw [B1.at]; exact Array.getElem?_eq_getElem hs1
        have d2 : w1.cell? ⟨w.heap.size, k * 5 + 2, none⟩ = some cur[k * 5 + 2] := by rw [B1.at]; exact Array.getElem?_eq_getElem hs2
        have d3 : w1.cell? ⟨w.heap.size, k * 5 + 3, none⟩ = some cur[k * 5 + 3] := by rw [B1.at]; exact Array.getElem?_eq_getElem hs3
        have d4 : w1.cell? ⟨w.heap.size, k * 5 + 4, none⟩ = some cur[k * 5 + 4] := by rw [B1.at]; exact Array.getElem?_eq_getElem hs4
        have f0 := B1.loose (k * 5)
        have f1 := B1.loose (k * 5 + 1)
        have f2 := B1.loose (k * 5 + 2)
        have f3 := B1.loose (k * 5 + 3)
        have f4 := B1.loose (k * 5 + 4)
        have HC := hide (doneAt_step hs4 HY.out hcur)
        have hL1 := hL.trans (hb1.mono hL.size)
        clear hcur hF hL hB
        go_wp2
        exact ⟨⟨k + 1, _, by omega, by go_num, ((((B1.put _ _).put _ _).put _ _).put _ _).put _ _, by simp [hsz], HC.out, ((((hL1.setCell (Nat.le_refl _) _).setCell (Nat.le_refl _) _).setCell (Nat.le_refl _) _).setCell (Nat.le_refl _) _).setCell (Nat.le_refl _) _⟩, by simp [intOf]; omega⟩
    · have hkn : k = n := by omega
      subst hkn
      clear hlt
      go_wp2
      go_ret
      have e := HN.out
      exact ⟨_, cur, by rw [e]; rfl, Nat.le_refl _, hB, by rw [e]; exact hsz, fun i x hx => hcur i x (by have := (List.getElem?_eq_some_iff.1 hx).1; omega) hx, hL⟩

set_option maxRecDepth 100000 in
set_option maxHeartbeats 1000000 in
theorem eqDone_same (s k y t u : Int) (w : World) :
    Calls Try.prog 59 #[.agg (doneC s k y t u), .agg (doneC s k y t u)] w fun e w' => e = .returned (.bool true) ∧ Below w.heap.size w w' := by
  have S0 := ((Inv.start w).box 53 (doneC s k y t u)).box 53 (doneC s k y t u)
  have he : eqB t u t u = true := eqB_same t u
  go_enter Try.func59, Try.ntmps59
  go_wp2_with fail
  refine (eqTag_any _ _ _ _ _).mono ?_
  rintro e w1 ⟨rfl, hb1⟩
  rw [he]
  have hl := (S0.on hb1).below
  clear S0 hb1 he
  go_wp2
  go_ret
  exact ⟨rfl, hl⟩

set_option maxRecDepth 100000 in
set_option maxHeartbeats 2000000 in
theorem eqDoneS_same (a a' : Option Addr) (c c' : Nat) (ds : List D) (w : World) (hn : ds.length ≤ 1048576) (hd : Dg w w.heap.size a ds) (hu : Dg w w.heap.size a' ds) :
    Calls Try.prog 19 #[.slice a ds.length c, .slice a' ds.length c'] w fun e w' => e = .returned (.bool true) ∧ Below w.heap.size w w' := by
  generalize hnn : ds.length = n at *
  have HN := hide hnn
  clear hnn
  go_enter Try.func19, Try.ntmps19
  go_wp2
  go_loopw [5] (fun i wr => ∃ k : Nat, k ≤ n ∧ i = .int .i64 (k : Int) ∧ Below w.heap.size w wr) (fun i _ => n - (intOf i).toNat)
  case atStart => exact ⟨0, Nat.zero_le _, rfl, Below.refl _ _⟩
  case round =>
    obtain ⟨k, hk, rfl, hL⟩ := hrel
    by_cases hlt : k < n
    · rcases hd with h0 | ⟨b, off, rfl, hb, hx⟩
      · have := HN.out; subst h0; simp at this; omega
      · rcases hu with h0 | ⟨b', off', rfl, hb', hx'⟩
        · have := HN.out; subst h0; simp at this; omega
        · have hkl : k < ds.length := by have := HN.out; omega
          have hF0 := hide (hx k _ (List.getElem?_eq_getElem hkl))
          have hG0 := hide (hx' k _ (List.getElem?_eq_getElem hkl))
          generalize ds[k] = y at hF0 hG0
          obtain ⟨y0, y1, y2, y3, y4⟩ := y
          clear hx hx'
          have i1 : (0 : Int) ≤ (k : Int) := by omega
          have i2 : (k : Int) < (n : Int) := by omega
          go_wp2_with fail
          refine wp_region_noPanic ?_
          refine wp_region_held_drew (S := (fun w' => Five w' b (off + k * 5) (y0, y1, y2, y3, y4) ∧ Five w' b' (off' + k * 5) (y0, y1, y2, y3, y4) ∧ Below w.heap.size w w')) (by kernel_rfl) (by exact ⟨hF0.out.on hb hL.drew, hG0.out.on hb' hL.drew, hL.drew⟩) (fun hHeld => ?_)
          refine take_run 0 (some 17) (v := ?_) rfl rfl (by kernel_rfl) (by kernel_rfl) (by kernel_rfl) (fun _ _ _ h => h) (by rfl) ?_ hHeld ?_
          rotate_left
          · ((intro w hSw); (try dsimp only at hSw); go_simp <;> with_reducible rfl)
          simp only [Act.put, List.setIfInBounds_toArray, List.set_cons_zero, List.set_cons_succ]
          refine take_run 1 (some 18) (v := ?_) rfl rfl (by kernel_rfl) (by kernel_rfl) (by kernel_rfl) (fun _ _ _ h => h) (by rfl) ?_ hHeld ?_
          rotate_left
          · ((intro w hSw); (try dsimp only at hSw); go_simp <;> with_reducible rfl)
          simp only [Act.put, List.setIfInBounds_toArray, List.set_cons_zero, List.set_cons_succ]
          refine take_run 2 (some 19) (v := ?_) rfl rfl (by kernel_rfl) (by kernel_rfl) (by kernel_rfl) (fun _ _ _ h => h) (by rfl) ?_ hHeld ?_
          rotate_left
          · ((intro w hSw); (try dsimp only at hSw); go_simp <;> with_reducible rfl)
          simp only [Act.put, List.setIfInBounds_toArray, List.set_cons_zero, List.set_cons_succ]
          refine take_run 3 (some 20) (v := ?_) rfl rfl (by kernel_rfl) (by kernel_rfl) (by kernel_rfl) (fun _ _ _ h => h) (by rfl) ?_ hHeld ?_
          rotate_left
          · ((intro w hSw); (try dsimp only at hSw); go_simp <;> with_reducible rfl)
          simp only [Act.put, List.setIfInBounds_toArray, List.set_cons_zero, List.set_cons_succ]
          refine take_run 4 (some 21) (v := ?_) rfl rfl (by kernel_rfl) (by kernel_rfl) (by kernel_rfl) (fun _ _ _ h => h) (by rfl) ?_ hHeld ?_
          rotate_left
          · ((intro w hSw); (try dsimp only at hSw); go_simp <;> with_reducible rfl)
          simp only [Act.put, List.setIfInBounds_toArray, List.set_cons_zero, List.set_cons_succ]
          refine take_run 5 (some 22) (v := ?_) rfl rfl (by kernel_rfl) (by kernel_rfl) (by kernel_rfl) (fun _ _ _ h => h) (by rfl) ?_ hHeld ?_
          rotate_left
          · ((intro w hSw); (try dsimp only at hSw); go_simp <;> with_reducible rfl)
          simp only [Act.put, List.setIfInBounds_toArray, List.set_cons_zero, List.set_cons_succ]
          refine take_run 6 (some 23) (v := ?_) rfl rfl (by kernel_rfl) (by kernel_rfl) (by kernel_rfl) (fun _ _ _ h => h) (by rfl) ?_ hHeld ?_
          rotate_left
          · ((intro w hSw); (try dsimp only at hSw); go_simp <;> with_reducible rfl)
          simp only [Act.put, List.setIfInBounds_toArray, List.set_cons_zero, List.set_cons_succ]
          refine take_run 7 (some 24) (v := ?_) rfl rfl (by kernel_rfl) (by kernel_rfl) (by kernel_rfl) (fun _ _ _ h => h) (by rfl) ?_ hHeld ?_
          rotate_left
          · ((intro w hSw); (try dsimp only at hSw); go_simp <;> with_reducible rfl)
          simp only [Act.put, List.setIfInBounds_toArray, List.set_cons_zero, List.set_cons_succ]
          refine take_one 8 (by kernel_rfl) rfl (fun K hK => ?_)
          go_simp
          (refine (eqDone_same _ _ _ _ _ _).mono ?_; rintro e w1 ⟨rfl, hb1⟩)
          try go_wp2_with fail
          refine hK.out _ _ (by exact ⟨hF0.out.on hb (hHeld.2.2.trans (hb1.mono hHeld.2.2.size)), hG0.out.on hb' (hHeld.2.2.trans (hb1.mono hHeld.2.2.size)), hHeld.2.2.trans (hb1.mono hHeld.2.2.size)⟩) (fun hHeld => ?_)
          clear hK K
          refine take_run 9 (some 26) (v := ?_) rfl rfl (by kernel_rfl) (by kernel_rfl) (by kernel_rfl) (fun _ _ _ h => h) (by rfl) ?_ hHeld ?_
          rotate_left
          · ((intro w hSw); (try dsimp only at hSw); go_simp <;> with_reducible rfl)
          simp only [Act.put, List.setIfInBounds_toArray, List.set_cons_zero, List.set_cons_succ]
          refine wpAnyH_done (by kernel_rfl) ?_ _
          refine NoPanic.normal ?_
          have hL2 := hHeld.2.2
          clear hHeld hL hF0 hG0
          go_wp2
          exact ⟨⟨k + 1, by omega, by go_num, hL2⟩, by simp [intOf]; omega⟩
    · have hkn : k = n := by omega
      subst hkn
      clear hlt
      go_wp2
      go_ret
      exact ⟨rfl, hL⟩
end Go.Proofs.Ytjljaobmeaocjaa
