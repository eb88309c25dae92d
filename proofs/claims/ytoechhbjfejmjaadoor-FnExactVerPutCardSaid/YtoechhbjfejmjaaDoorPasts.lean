/- Contracts of the laws' small functions on slices of tags: their size, their copy, whether two are the same. Condition: at most 1048576 tags where memory is made. -/
import Derived.Test.YtoechhbjfejmjaaDoorProg
import Derived.Test.YtoechhbjfejmjaaDoorWorld
import Derived.Test.YtoechhbjfejmjaaDoorTags
import Derived.Test.YtoechhbjfejmjaaDoorReg
import Derived.WalkLawsBesides
import Derived.Laws.MakeOwn
namespace Go.Proofs.YtoechhbjfejmjaaDoor
open Go.RowKit Go.Joins

/-- The two cells of a tag at place i of a row of cells. -/
def TagAt (cur : Array Value) (i : Nat) (x : Int × Int) : Prop := cur[i * 2]? = some (.int .i64 x.1) ∧ cur[i * 2 + 1]? = some (.int .i64 x.2)

theorem tagAt_put {cur : Array Value} {k : Nat} {x : Int × Int} (h : k * 2 + 1 < cur.size) : TagAt ((cur.setIfInBounds (k * 2) (.int .i64 x.1)).setIfInBounds (k * 2 + 1) (.int .i64 x.2)) k x := by
  refine ⟨?_, ?_⟩
  · rw [Array.getElem?_setIfInBounds_ne (by omega), Array.getElem?_setIfInBounds_self_of_lt (by omega)]
  · rw [Array.getElem?_setIfInBounds_self_of_lt (by simp; omega)]
theorem tagAt_other {cur : Array Value} {j k : Nat} {x : Int × Int} {a b : Value} (hj : j ≠ k) (h : TagAt cur j x) : TagAt ((cur.setIfInBounds (k * 2) a).setIfInBounds (k * 2 + 1) b) j x := by
  refine ⟨?_, ?_⟩
  · rw [Array.getElem?_setIfInBounds_ne (by omega), Array.getElem?_setIfInBounds_ne (by omega)]
    exact h.1
  · rw [Array.getElem?_setIfInBounds_ne (by omega), Array.getElem?_setIfInBounds_ne (by omega)]
    exact h.2
/-- One tag more is in its place. -/
theorem tagAt_step {cur : Array Value} {k : Nat} {ts : List (Int × Int)} {y : Int × Int} (h : k * 2 + 1 < cur.size) (hy : ts[k]? = some y) (hc : ∀ j x, j < k → ts[j]? = some x → TagAt cur j x) :
    ∀ j x, j < k + 1 → ts[j]? = some x → TagAt ((cur.setIfInBounds (k * 2) (.int .i64 y.1)).setIfInBounds (k * 2 + 1) (.int .i64 y.2)) j x := by
  intro j x hj hx
  by_cases e : j = k
  · subst e
    rw [hy] at hx
    injection hx with hx
    subst hx
    exact tagAt_put h
  · exact tagAt_other e (hc j x (by omega) hx)

/-- A slice that reads as these tags, in old memory (below block B). -/
def Tg (w : World) (B : Nat) (a : Option Addr) (ts : List (Int × Int)) : Prop :=
  ts = [] ∨ ∃ b off : Nat, a = some ⟨b, off, none⟩ ∧ b < B ∧ ∀ i x, ts[i]? = some x → w.cell? ⟨b, off + i * 2, none⟩ = some (.int .i64 x.1) ∧ w.cell? ⟨b, off + i * 2 + 1, none⟩ = some (.int .i64 x.2)
theorem Tg.keep {w w' : World} {B : Nat} {a : Option Addr} {ts : List (Int × Int)} (h : Tg w B a ts) (hk : ∀ p : Addr, p.block < B → w'.cell? p = w.cell? p) : Tg w' B a ts := by
  rcases h with h | ⟨b, off, ha, hb, hx⟩
  · exact .inl h
  · exact .inr ⟨b, off, ha, hb, fun i x hi => ⟨(hk ⟨b, off + i * 2, none⟩ hb).trans (hx i x hi).1, (hk ⟨b, off + i * 2 + 1, none⟩ hb).trans (hx i x hi).2⟩⟩
theorem Tg.on {w w' : World} {B : Nat} {a : Option Addr} {ts : List (Int × Int)} (h : Tg w B a ts) (hb : Below B w w') : Tg w' B a ts := h.keep fun _ hp => hb.cell hp
theorem Tg.up {w : World} {B B' : Nat} {a : Option Addr} {ts : List (Int × Int)} (h : Tg w B a ts) (hB : B ≤ B') : Tg w B' a ts := by
  rcases h with h | ⟨b, off, ha, hb, hx⟩
  · exact .inl h
  · exact .inr ⟨b, off, ha, by omega, hx⟩
theorem Tg.of {w : World} {B g : Nat} {T : TypeId} {cur : Array Value} {ts : List (Int × Int)} (hb : Blk w g T cur) (hg : g < B) (h : ∀ i x, ts[i]? = some x → TagAt cur i x) : Tg w B (some ⟨g, 0, none⟩) ts :=
  .inr ⟨g, 0, rfl, hg, fun i x hi => by
    have := h i x hi
    exact ⟨by rw [Nat.zero_add, hb.at]; exact this.1, by rw [Nat.zero_add, hb.at]; exact this.2⟩⟩

set_option maxHeartbeats 400000 in
theorem szTagS_fits (a : Option Addr) (n c : Nat) (left : Int) (w : World) (h0 : left ≤ 1048576) (hn : (n : Int) ≤ left) :
    Calls Tryd.prog 34 #[.slice a n c, .int .i64 left] w fun e w' => e = .returned (.int .i64 (left - n)) ∧ w = w' := by
  have h1 : ¬ (left - (n : Int) < 0) := by omega
  go_enter Tryd.func34, Tryd.ntmps34
  go_wp2
  go_ret
  exact ⟨rfl, rfl⟩
set_option maxHeartbeats 400000 in
theorem szTagS_not (a : Option Addr) (n c : Nat) (left : Int) (w : World) (h0 : left ≤ 1048576) (h00 : 0 ≤ left) (hm : n ≤ 9223372036854775807) (hn : left < (n : Int)) :
    Calls Tryd.prog 34 #[.slice a n c, .int .i64 left] w fun e w' => e = .returned (.int .i64 (-1)) ∧ w = w' := by
  have h1 : left - (n : Int) < 0 := by omega
  go_enter Tryd.func34, Tryd.ntmps34
  go_wp2
  go_ret
  exact ⟨rfl, rfl⟩
set_option maxHeartbeats 400000 in
theorem szPast_fits (a : Option Addr) (n c : Nat) (left : Int) (w : World) (h0 : left ≤ 1048576) (hn : (n : Int) ≤ left) :
    Calls Tryd.prog 14 #[.agg #[.slice a n c], .int .i64 left] w fun e w' => e = .returned (.int .i64 (left - n)) ∧ Below w.heap.size w w' := by
  have h1 : ¬ (left - (n : Int) < 0) := by omega
  go_enter Tryd.func14, Tryd.ntmps14
  go_wp2_with fail
  refine (szTagS_fits a n c left _ h0 hn).mono ?_
  rintro e w1 ⟨rfl, rfl⟩
  go_wp2
  go_ret
  exact ⟨rfl, (Below.refl _ _).alloc (Nat.le_refl _) _⟩
set_option maxHeartbeats 400000 in
theorem szPast_not (a : Option Addr) (n c : Nat) (left : Int) (w : World) (h0 : left ≤ 1048576) (h00 : 0 ≤ left) (hm : n ≤ 9223372036854775807) (hn : left < (n : Int)) :
    Calls Tryd.prog 14 #[.agg #[.slice a n c], .int .i64 left] w fun e w' => e = .returned (.int .i64 (-1)) ∧ Below w.heap.size w w' := by
  go_enter Tryd.func14, Tryd.ntmps14
  go_wp2_with fail
  refine (szTagS_not a n c left _ h0 h00 hm hn).mono ?_
  rintro e w1 ⟨rfl, rfl⟩
  go_wp2
  go_ret
  exact ⟨rfl, (Below.refl _ _).alloc (Nat.le_refl _) _⟩

theorem tag_info : (Tryd.prog.info? 31).map (fun i => (i.zero, i.size, i.bytes)) = some (some (.agg #[.int .i64 0, .int .i64 0]), 2, 16) := by kernel_rfl

/-- What toTagS leaves: the tags in a new block of its own. -/
def CopiedS (w : World) (ts : List (Int × Int)) (e : Ending) (w' : World) : Prop :=
  ∃ (g : Nat) (cur : Array Value), e = .returned (.slice (some ⟨g, 0, none⟩) ts.length ts.length) ∧ w.heap.size ≤ g ∧ Blk w' g 31 cur ∧ cur.size = ts.length * 2 ∧ (∀ i x, ts[i]? = some x → TagAt cur i x) ∧ Below w.heap.size w w'

set_option maxRecDepth 100000 in
set_option maxHeartbeats 1000000 in
theorem toTagS_any (a : Option Addr) (c : Nat) (ts : List (Int × Int)) (w : World) (hn : ts.length ≤ 1048576) (ht : Tg w w.heap.size a ts) :
    Calls Tryd.prog 42 #[.slice a ts.length c] w (CopiedS w ts) := by
  obtain ⟨i0, hi0, hz0, hz1, hz2⟩ := info_parts tag_info
  have hmk : ∀ W : World, (Instr.makeSlice 32 (.int .i64 (ts.length : Int)) (.int .i64 (ts.length : Int))).run Tryd.prog W = .ok (.slice (some ⟨W.heap.size, 0, none⟩) ts.length ts.length) (W.alloc (.cells (madeCells (Value.agg #[.int .i64 0, .int .i64 0]).cells (ts.length * 2)) 31)) := by
    intro W
    have hr := run_make (P := Tryd.prog) W 32 31 i0 _ Tryd.underlying32 hi0 hz0 .i64 .i64 (ts.length : Int) (ts.length : Int) (by omega) (by omega) (by rw [hz2]; omega) (by omega)
    rw [hz1] at hr
    simpa using hr
  generalize hn' : ts.length = n at *
  have HN := hide hn'
  clear hn'
  go_enter Tryd.func42, Tryd.ntmps42
  go_wp2
  clear hmk hi0 hz0 hz1 hz2
  have B0 := Blk.made w 31 (madeCells #[.int .i64 0, .int .i64 0] (n * 2))
  have L0 := below_alloc1 w (.cells (madeCells #[.int .i64 0, .int .i64 0] (n * 2)) 31)
  go_loopw [4] (fun i wr => ∃ (k : Nat) (cur : Array Value), k ≤ n ∧ i = .int .i64 (k : Int) ∧ Blk wr w.heap.size 31 cur ∧ cur.size = n * 2 ∧ (∀ j x, j < k → ts[j]? = some x → TagAt cur j x) ∧ Below w.heap.size w wr) (fun i _ => n - (intOf i).toNat)
  case atStart => exact ⟨0, _, Nat.zero_le _, rfl, B0, size_madeCells _ _, fun j x hj => absurd hj (by omega), L0⟩
  case round =>
    obtain ⟨k, cur, hk, rfl, hB, hsz, hcur, hL⟩ := hrel
    by_cases hlt : k < n
    · rcases ht with h0 | ⟨b, off, rfl, hb, hx⟩
      · have := HN.out; subst h0; simp at this; omega
      · have hkl : k < ts.length := by have := HN.out; omega
        obtain ⟨hc0, hc1⟩ := hx k _ (List.getElem?_eq_getElem hkl)
        have c0 := (hL.cell (p := ⟨b, off + k * 2, none⟩) hb).trans hc0
        have c1 := (hL.cell (p := ⟨b, off + k * 2 + 1, none⟩) hb).trans hc1
        generalize hy : ts[k] = y at c0 c1
        have HY := hide hy
        clear hc0 hc1 hy
        go_wp2_with fail
        refine (toTag_any _ _ _).mono ?_
        rintro e w1 ⟨rfl, hb1⟩
        have B1 := hB.on hb1
        have hs0 : k * 2 < cur.size := by omega
        have hs1 : k * 2 + 1 < cur.size := by omega
        have d0 : w1.cell? ⟨w.heap.size, k * 2, none⟩ = some cur[k * 2] := by rw [B1.at]; exact Array.getElem?_eq_getElem hs0
        have d1 : w1.cell? ⟨w.heap.size, k * 2 + 1, none⟩ = some cur[k * 2 + 1] := by rw [B1.at]; exact Array.getElem?_eq_getElem hs1
        have f0 := B1.loose (k * 2)
        have f1 := B1.loose (k * 2 + 1)
        have HC := hide (tagAt_step hs1 ((List.getElem?_eq_getElem hkl).trans (congrArg some HY.out)) hcur)
        clear hcur
        go_wp2
        exact ⟨⟨k + 1, _, by omega, by go_num, (B1.put _ _).put _ _, by simp [hsz], HC.out, ((hL.trans (hb1.mono hL.size)).setCell (Nat.le_refl _) _).setCell (Nat.le_refl _) _⟩, by simp [intOf]; omega⟩
    · have hkn : k = n := by omega
      subst hkn
      clear hlt
      go_wp2
      go_ret
      have e := HN.out
      exact ⟨_, cur, by rw [e]; rfl, Nat.le_refl _, hB, by rw [e]; exact hsz, fun i x hx => hcur i x (by have := (List.getElem?_eq_some_iff.1 hx).1; omega) hx, hL⟩

/-- What toPast leaves. -/
def CopiedP (w : World) (ts : List (Int × Int)) (e : Ending) (w' : World) : Prop :=
  ∃ (g : Nat) (cur : Array Value), e = .returned (.agg #[.slice (some ⟨g, 0, none⟩) ts.length ts.length]) ∧ w.heap.size ≤ g ∧ Blk w' g 31 cur ∧ cur.size = ts.length * 2 ∧ (∀ i x, ts[i]? = some x → TagAt cur i x) ∧ Below w.heap.size w w'

set_option maxHeartbeats 1000000 in
theorem toPast_any (a : Option Addr) (c : Nat) (ts : List (Int × Int)) (w : World) (hn : ts.length ≤ 1048576) (ht : Tg w w.heap.size a ts) :
    Calls Tryd.prog 18 #[.agg #[.slice a ts.length c]] w (CopiedP w ts) := by
  have S0 := (((Inv.start w).box 26 #[.slice a ts.length c]).box 34 #[.slice none 0 0]).box 34 #[.slice none 0 0]
  simp only [World.size_alloc] at S0
  have T0 : Tg (((w.alloc (.cells #[.slice a ts.length c] 26)).alloc (.cells #[.slice none 0 0] 34)).alloc (.cells #[.slice none 0 0] 34)) w.heap.size a ts := ht.on S0.below
  go_enter Tryd.func18, Tryd.ntmps18
  go_wp2_with fail
  generalize (((w.alloc (.cells #[.slice a ts.length c] 26)).alloc (.cells #[.slice none 0 0] 34)).alloc (.cells #[.slice none 0 0] 34)) = W at S0 T0 ⊢
  refine (toTagS_any a c ts W hn (T0.up S0.base)).mono ?_
  rintro e w1 ⟨g, cur, rfl, hg, hB, hsz, hcur, hb1⟩
  have S1 := S0.on hb1
  have hr := S0.room
  have hl := S1.below
  obtain ⟨k0, f0⟩ := (S1.nth 0 rfl).one
  obtain ⟨k1, f1⟩ := (S1.nth 1 rfl).one
  have hW := S0.base
  have HC := hide hcur
  clear hcur S0 S1 T0 ht
  go_wp2
  refine bodyPost_ret (v := .agg #[.slice (some ⟨g, 0, none⟩) ts.length ts.length]) (by simp [results, Tryd.results18, go_sem, k1]) rfl ?_
  exact ⟨g, cur, rfl, by omega, (hB.aside (by simp; omega) _).aside (by simp; omega) _, hsz, HC.out, (hl.setCell (by simp; omega) _).setCell (by simp) _⟩

theorem take_eq_step {ts us : List (Int × Int)} {k : Nat} {x y : Int × Int} (hx : ts[k]? = some x) (hy : us[k]? = some y) (h : ts.take k = us.take k) (hxy : x = y) : ts.take (k + 1) = us.take (k + 1) := by
  rw [List.take_add_one, List.take_add_one, h, hx, hy, hxy]

set_option maxRecDepth 100000 in
set_option maxHeartbeats 1000000 in
theorem eqTagS_any (a a' : Option Addr) (c c' : Nat) (ts us : List (Int × Int)) (w : World) (hn : ts.length ≤ 1048576) (_hn' : us.length ≤ 1048576) (ht : Tg w w.heap.size a ts) (hu : Tg w w.heap.size a' us) :
    Calls Tryd.prog 49 #[.slice a ts.length c, .slice a' us.length c'] w fun e w' => e = .returned (.bool (decide (ts = us))) ∧ Below w.heap.size w w' := by
  by_cases hlen : ts.length = us.length
  · have hd : Hid (ts.take ts.length = us.take us.length ↔ ts = us) := by unfold Hid; rw [List.take_length, List.take_length]
    generalize hnn : ts.length = n at *
    rw [← hlen] at hd ⊢
    have HN := hide hnn
    have HL := hide hlen
    clear hnn hlen
    go_enter Tryd.func49, Tryd.ntmps49
    go_wp2
    go_loopw [5] (fun i wr => ∃ k : Nat, k ≤ n ∧ i = .int .i64 (k : Int) ∧ Hid (ts.take k = us.take k) ∧ Below w.heap.size w wr) (fun i _ => n - (intOf i).toNat)
    case atStart => exact ⟨0, Nat.zero_le _, rfl, by simp [Hid], Below.refl _ _⟩
    case round =>
      obtain ⟨k, hk, rfl, heq, hL⟩ := hrel
      by_cases hlt : k < n
      · rcases ht with h0 | ⟨b, off, rfl, hb, hx⟩
        · have := HN.out; subst h0; simp at this; omega
        · rcases hu with h0 | ⟨b', off', rfl, hb', hx'⟩
          · have := HL.out; subst h0; simp at this; omega
          · have hkl : k < ts.length := by have := HN.out; omega
            have hkl' : k < us.length := by have := HL.out; omega
            obtain ⟨hc0, hc1⟩ := hx k _ (List.getElem?_eq_getElem hkl)
            obtain ⟨hd0, hd1⟩ := hx' k _ (List.getElem?_eq_getElem hkl')
            have c0 := (hL.cell (p := ⟨b, off + k * 2, none⟩) hb).trans hc0
            have c1 := (hL.cell (p := ⟨b, off + k * 2 + 1, none⟩) hb).trans hc1
            have d0 := (hL.cell (p := ⟨b', off' + k * 2, none⟩) hb').trans hd0
            have d1 := (hL.cell (p := ⟨b', off' + k * 2 + 1, none⟩) hb').trans hd1
            have HX := hide (List.getElem?_eq_getElem hkl)
            have HY := hide (List.getElem?_eq_getElem hkl')
            generalize ts[k] = x at c0 c1 HX
            generalize us[k] = y at d0 d1 HY
            obtain ⟨x1, x2⟩ := x
            obtain ⟨y1, y2⟩ := y
            simp only at c0 c1 d0 d1
            clear hc0 hc1 hd0 hd1 hx hx'
            have i1 : (0 : Int) ≤ (k : Int) := by omega
            have i2 : (k : Int) < (n : Int) := by omega
            go_wp2_with fail
            refine wp_region_noPanic ?_
            refine wp_region_held_drew (S := (fun w' => w'.cell? ⟨b, off + k * 2, none⟩ = some (.int .i64 x1) ∧ w'.cell? ⟨b, off + k * 2 + 1, none⟩ = some (.int .i64 x2) ∧ w'.cell? ⟨b', off' + k * 2, none⟩ = some (.int .i64 y1) ∧ w'.cell? ⟨b', off' + k * 2 + 1, none⟩ = some (.int .i64 y2) ∧ Below w.heap.size w w')) (by kernel_rfl) (by exact ⟨c0, c1, d0, d1, hL.drew⟩) (fun hHeld => ?_)
            refine take_run 0 (some 17) (v := ?_) rfl rfl (by kernel_rfl) (by kernel_rfl) (by kernel_rfl) (fun _ _ _ h => h) (by rfl) ?_ hHeld ?_
            rotate_left
            · ((intro w hSw); (try dsimp only at hSw); go_simp <;> with_reducible rfl)
            simp only [Act.put, List.setIfInBounds_toArray, List.set_cons_zero, List.set_cons_succ]
            refine take_run 1 (some 18) (v := ?_) rfl rfl (by kernel_rfl) (by kernel_rfl) (by kernel_rfl) (fun _ _ _ h => h) (by rfl) ?_ hHeld ?_
            rotate_left
            · ((intro w hSw); (try dsimp only at hSw); go_simp <;> with_reducible rfl)
            simp only [Act.put, List.setIfInBounds_toArray, List.set_cons_zero, List.set_cons_succ]
            refine take_run 2 (some 19) (v := ?_) rfl rfl (by kernel_rfl) (by kernel_rfl) (by kernel_rfl) (fun _ _ _ h => h) (by rfl) ?_ hHeld ?_
            rotate_left
            · ((intro w hSw); (try dsimp only at hSw); go_simp <;> with_reducible rfl)
            simp only [Act.put, List.setIfInBounds_toArray, List.set_cons_zero, List.set_cons_succ]
            refine take_run 3 (some 20) (v := ?_) rfl rfl (by kernel_rfl) (by kernel_rfl) (by kernel_rfl) (fun _ _ _ h => h) (by rfl) ?_ hHeld ?_
            rotate_left
            · ((intro w hSw); (try dsimp only at hSw); go_simp <;> with_reducible rfl)
            simp only [Act.put, List.setIfInBounds_toArray, List.set_cons_zero, List.set_cons_succ]
            refine take_run 4 (some 21) (v := ?_) rfl rfl (by kernel_rfl) (by kernel_rfl) (by kernel_rfl) (fun _ _ _ h => h) (by rfl) ?_ hHeld ?_
            rotate_left
            · ((intro w hSw); (try dsimp only at hSw); go_simp <;> with_reducible rfl)
            simp only [Act.put, List.setIfInBounds_toArray, List.set_cons_zero, List.set_cons_succ]
            refine take_run 5 (some 22) (v := ?_) rfl rfl (by kernel_rfl) (by kernel_rfl) (by kernel_rfl) (fun _ _ _ h => h) (by rfl) ?_ hHeld ?_
            rotate_left
            · ((intro w hSw); (try dsimp only at hSw); go_simp <;> with_reducible rfl)
            simp only [Act.put, List.setIfInBounds_toArray, List.set_cons_zero, List.set_cons_succ]
            refine take_run 6 (some 23) (v := ?_) rfl rfl (by kernel_rfl) (by kernel_rfl) (by kernel_rfl) (fun _ _ _ h => h) (by rfl) ?_ hHeld ?_
            rotate_left
            · ((intro w hSw); (try dsimp only at hSw); go_simp <;> with_reducible rfl)
            simp only [Act.put, List.setIfInBounds_toArray, List.set_cons_zero, List.set_cons_succ]
            refine take_run 7 (some 24) (v := ?_) rfl rfl (by kernel_rfl) (by kernel_rfl) (by kernel_rfl) (fun _ _ _ h => h) (by rfl) ?_ hHeld ?_
            rotate_left
            · ((intro w hSw); (try dsimp only at hSw); go_simp <;> with_reducible rfl)
            simp only [Act.put, List.setIfInBounds_toArray, List.set_cons_zero, List.set_cons_succ]
            refine take_one 8 (by kernel_rfl) rfl (fun K hK => ?_)
            go_simp
            (refine (eqTag_any _ _ _ _ _).mono ?_; rintro e w1 ⟨rfl, hb1⟩)
            try go_wp2_with fail
            refine hK.out _ _ (by exact ⟨(hb1.cell (p := ⟨b, off + k * 2, none⟩) (Nat.lt_of_lt_of_le hb hHeld.2.2.2.2.size)).trans hHeld.1, (hb1.cell (p := ⟨b, off + k * 2 + 1, none⟩) (Nat.lt_of_lt_of_le hb hHeld.2.2.2.2.size)).trans hHeld.2.1, (hb1.cell (p := ⟨b', off' + k * 2, none⟩) (Nat.lt_of_lt_of_le hb' hHeld.2.2.2.2.size)).trans hHeld.2.2.1, (hb1.cell (p := ⟨b', off' + k * 2 + 1, none⟩) (Nat.lt_of_lt_of_le hb' hHeld.2.2.2.2.size)).trans hHeld.2.2.2.1, hHeld.2.2.2.2.trans (hb1.mono hHeld.2.2.2.2.size)⟩) (fun hHeld => ?_)
            clear hK K
            refine take_run 9 (some 26) (v := ?_) rfl rfl (by kernel_rfl) (by kernel_rfl) (by kernel_rfl) (fun _ _ _ h => h) (by rfl) ?_ hHeld ?_
            rotate_left
            · ((intro w hSw); (try dsimp only at hSw); go_simp <;> with_reducible rfl)
            simp only [Act.put, List.setIfInBounds_toArray, List.set_cons_zero, List.set_cons_succ]
            refine wpAnyH_done (by kernel_rfl) ?_ _
            refine NoPanic.normal ?_
            have hL2 := hHeld.2.2.2.2
            clear hHeld c0 c1 d0 d1 hL
            by_cases hxy : x1 = y1 ∧ x2 = y2
            · obtain ⟨rfl, rfl⟩ := hxy
              rw [eqB_same]
              have HS := hide (take_eq_step HX.out HY.out heq.out rfl)
              clear heq
              go_wp2
              exact ⟨⟨k + 1, by omega, by go_num, HS, hL2⟩, by simp [intOf]; omega⟩
            · have he : eqB x1 x2 y1 y2 = false := decide_eq_false hxy
              rw [he]
              have hf : Hid (decide (ts = us) = false) := decide_eq_false (fun e => hxy (by
                have h1 := HX.out
                have h2 := HY.out
                rw [e, h2] at h1
                injection h1 with h1
                injection h1 with h3 h4
                exact ⟨h3.symm, h4.symm⟩))
              clear hxy he
              go_wp2
              go_ret
              exact ⟨ret_bool hf.out.symm, hL2⟩
      · have hkn : k = n := by omega
        subst hkn
        clear hlt
        have hf : Hid (decide (ts = us) = true) := decide_eq_true (hd.out.1 heq.out)
        clear heq
        go_wp2
        go_ret
        exact ⟨ret_bool hf.out.symm, hL⟩
  · have hd : Hid (decide (ts = us) = false) := decide_eq_false (fun e => hlen (by rw [e]))
    have hne : ((ts.length : Int) != (us.length : Int)) = true := by simp; omega
    clear hlen
    go_enter Tryd.func49, Tryd.ntmps49
    go_wp2
    go_ret
    exact ⟨ret_bool hd.out.symm, Below.refl _ _⟩

set_option maxHeartbeats 1000000 in
theorem eqPast_any (a a' : Option Addr) (c c' : Nat) (ts us : List (Int × Int)) (w : World) (hn : ts.length ≤ 1048576) (hn' : us.length ≤ 1048576) (ht : Tg w w.heap.size a ts) (hu : Tg w w.heap.size a' us) :
    Calls Tryd.prog 25 #[.agg #[.slice a ts.length c], .agg #[.slice a' us.length c']] w fun e w' => e = .returned (.bool (decide (ts = us))) ∧ Below w.heap.size w w' := by
  have S0 := ((Inv.start w).box 34 #[.slice a ts.length c]).box 34 #[.slice a' us.length c']
  simp only [World.size_alloc] at S0
  have T0 := ht.on S0.below
  have U0 := hu.on S0.below
  go_enter Tryd.func25, Tryd.ntmps25
  go_wp2_with fail
  generalize (w.alloc (.cells #[.slice a ts.length c] 34)).alloc (.cells #[.slice a' us.length c'] 34) = W at S0 T0 U0 ⊢
  refine (eqTagS_any a a' c c' ts us W hn hn' (T0.up S0.base) (U0.up S0.base)).mono ?_
  rintro e w1 ⟨rfl, hb1⟩
  have hl := (S0.on hb1).below
  by_cases hd : ts = us
  · rw [decide_eq_true hd]
    have HD := hide (decide_eq_true hd)
    clear hd S0 T0 U0 ht hu
    go_wp2
    go_ret
    exact ⟨ret_bool HD.out.symm, hl⟩
  · rw [decide_eq_false hd]
    have HD := hide (decide_eq_false hd)
    clear hd S0 T0 U0 ht hu
    go_wp2
    go_ret
    exact ⟨ret_bool HD.out.symm, hl⟩

end Go.Proofs.YtoechhbjfejmjaaDoor
