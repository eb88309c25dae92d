/- Contracts of the laws' small functions on slices of tags: their size, their copy, whether two are the same. Condition: at most 1048576 tags where memory is made. -/
import Derived.Test.YtjnloillcgeodaaGreatProg
import Derived.Test.YtjnloillcgeodaaGreatJTags
import Derived.WalkLawsBesides
import Derived.Laws.MakeOwn
import Derived.Test.YtjnloillcgeodaaGreatRows
import Derived.WalkKit
import Derived.ProofKit
import Derived.OpenShut
import Derived.ChangeOld
import Derived.Below
import Derived.Carry
import Derived.Lib.SmallJoins
import Derived.Deep.Slices
namespace Go.Proofs.YtjnloillcgeodaaGreat
open Go.RowKit Go.Joins

/-- The two cells of a tag at place i of a row of cells. -/
def TagAt (cur : Array Value) (i : Nat) (x : Int × Int) : Prop := cur[i * 2]? = some (.int .i64 x.1) ∧ cur[i * 2 + 1]? = some (.int .i64 x.2)

theorem tagAt_put {cur : Array Value} {k : Nat} {x : Int × Int} (h : k * 2 + 1 < cur.size) : TagAt ((cur.setIfInBounds (k * 2) (.int .i64 x.1)).setIfInBounds (k * 2 + 1) (.int .i64 x.2)) k x := by
  refine ⟨?_, ?_⟩
  · rw [Array.getElem?_setIfInBounds_ne (by omega), Array.getElem?_setIfInBounds_self_of_lt (by omega)]
  · rw [Array.getElem?_setIfInBounds_self_of_lt (by simp; omega)]
theorem tagAt_other {cur : Array Value} {j k : Nat} {x : Int × Int} {a b : Value} (hj : j ≠ k) (h : TagAt cur j x) : TagAt ((cur.setIfInBounds (k * 2) a).setIfInBounds (k * 2 + 1) b) j x := by
  refine ⟨?_, ?_⟩
  · rw [Array.getElem?_setIfInBounds_ne (by omega), Array.getElem?_setIfInBounds_ne (by omega)]
    exact h.1
  · rw [Array.getElem?_setIfInBounds_ne (by omega), Array.getElem?_setIfInBounds_ne (by omega)]
    exact h.2
/-- One tag more is in its place. -/
theorem tagAt_step {cur : Array Value} {k : Nat} {ts : List (Int × Int)} {y : Int × Int} (h : k * 2 + 1 < cur.size) (hy : ts[k]? = some y) (hc : ∀ j x, j < k → ts[j]? = some x → TagAt cur j x) :
    ∀ j x, j < k + 1 → ts[j]? = some x → TagAt ((cur.setIfInBounds (k * 2) (.int .i64 y.1)).setIfInBounds (k * 2 + 1) (.int .i64 y.2)) j x := by
  intro j x hj hx
  by_cases e : j = k
  · subst e
    rw [hy] at hx
    injection hx with hx
    subst hx
    exact tagAt_put h
  · exact tagAt_other e (hc j x (by omega) hx)

/-- A slice that reads as these tags, in old memory (below block B). -/
def Tg (w : World) (B : Nat) (a : Option Addr) (ts : List (Int × Int)) : Prop :=
  ts = [] ∨ ∃ b off : Nat, a = some ⟨b, off, none⟩ ∧ b < B ∧ ∀ i x, ts[i]? = some x → w.cell? ⟨b, off + i * 2, none⟩ = some (.int .i64 x.1) ∧ w.cell? ⟨b, off + i * 2 + 1, none⟩ = some (.int .i64 x.2)
theorem Tg.keep {w w' : World} {B : Nat} {a : Option Addr} {ts : List (Int × Int)} (h : Tg w B a ts) (hk : ∀ p : Addr, p.block < B → w'.cell? p = w.cell? p) : Tg w' B a ts := by
  rcases h with h | ⟨b, off, ha, hb, hx⟩
  · exact .inl h
  · exact .inr ⟨b, off, ha, hb, fun i x hi => ⟨(hk ⟨b, off + i * 2, none⟩ hb).trans (hx i x hi).1, (hk ⟨b, off + i * 2 + 1, none⟩ hb).trans (hx i x hi).2⟩⟩
theorem Tg.on {w w' : World} {B : Nat} {a : Option Addr} {ts : List (Int × Int)} (h : Tg w B a ts) (hb : Below B w w') : Tg w' B a ts := h.keep fun _ hp => hb.cell hp
theorem Tg.up {w : World} {B B' : Nat} {a : Option Addr} {ts : List (Int × Int)} (h : Tg w B a ts) (hB : B ≤ B') : Tg w B' a ts := by
  rcases h with h | ⟨b, off, ha, hb, hx⟩
  · exact .inl h
  · exact .inr ⟨b, off, ha, by omega, hx⟩
theorem Tg.of {w : World} {B g : Nat} {T : TypeId} {cur : Array Value} {ts : List (Int × Int)} (hb : Blk w g T cur) (hg : g < B) (h : ∀ i x, ts[i]? = some x → TagAt cur i x) : Tg w B (some ⟨g, 0, none⟩) ts :=
  .inr ⟨g, 0, rfl, hg, fun i x hi => by
    have := h i x hi
    exact ⟨by rw [Nat.zero_add, hb.at]; exact this.1, by rw [Nat.zero_add, hb.at]; exact this.2⟩⟩

set_option maxHeartbeats 400000 in
theorem szTagS_fits (a : Option Addr) (n c : Nat) (left : Int) (w : World) (h0 : left ≤ 1048576) (hn : (n : Int) ≤ left) :
    Calls Tryz.prog 154 #[.slice a n c, .int .i64 left] w fun e w' => e = .returned (.int .i64 (left - n)) ∧ w = w' := by
  have h1 : ¬ (left - (n : Int) < 0) := by omega
  go_enter Tryz.func154, Tryz.ntmps154
  go_wp2
  go_ret
  exact ⟨rfl, rfl⟩
set_option maxHeartbeats 400000 in
theorem szTagS_not (a : Option Addr) (n c : Nat) (left : Int) (w : World) (h0 : left ≤ 1048576) (h00 : 0 ≤ left) (hm : n ≤ 9223372036854775807) (hn : left < (n : Int)) :
    Calls Tryz.prog 154 #[.slice a n c, .int .i64 left] w fun e w' => e = .returned (.int .i64 (-1)) ∧ w = w' := by
  have h1 : left - (n : Int) < 0 := by omega
  go_enter Tryz.func154, Tryz.ntmps154
  go_wp2
  go_ret
  exact ⟨rfl, rfl⟩
set_option maxHeartbeats 400000 in
theorem szPast_fits (a : Option Addr) (n c : Nat) (left : Int) (w : World) (h0 : left ≤ 1048576) (hn : (n : Int) ≤ left) :
    Calls Tryz.prog 145 #[.agg #[.slice a n c], .int .i64 left] w fun e w' => e = .returned (.int .i64 (left - n)) ∧ Below w.heap.size w w' := by
  have h1 : ¬ (left - (n : Int) < 0) := by omega
  go_enter Tryz.func145, Tryz.ntmps145
  go_wp2_with fail
  refine (szTagS_fits a n c left _ h0 hn).mono ?_
  rintro e w1 ⟨rfl, rfl⟩
  go_wp2
  go_ret
  exact ⟨rfl, (Below.refl _ _).alloc (Nat.le_refl _) _⟩
set_option maxHeartbeats 400000 in
theorem szPast_not (a : Option Addr) (n c : Nat) (left : Int) (w : World) (h0 : left ≤ 1048576) (h00 : 0 ≤ left) (hm : n ≤ 9223372036854775807) (hn : left < (n : Int)) :
    Calls Tryz.prog 145 #[.agg #[.slice a n c], .int .i64 left] w fun e w' => e = .returned (.int .i64 (-1)) ∧ Below w.heap.size w w' := by
  go_enter Tryz.func145, Tryz.ntmps145
  go_wp2_with fail
  refine (szTagS_not a n c left _ h0 h00 hm hn).mono ?_
  rintro e w1 ⟨rfl, rfl⟩
  go_wp2
  go_ret
  exact ⟨rfl, (Below.refl _ _).alloc (Nat.le_refl _) _⟩

theorem tag_info : (Tryz.prog.info? 49).map (fun i => (i.zero, i.size, i.bytes)) = some (some (.agg #[.int .i64 0, .int .i64 0]), 2, 16) := by kernel_rfl

/-- What toTagS leaves: the tags in a new block of its own. -/
def CopiedS (w : World) (ts : List (Int × Int)) (e : Ending) (w' : World) : Prop :=
  ∃ (g : Nat) (cur : Array Value), e = .returned (.slice (some ⟨g, 0, none⟩) ts.length ts.length) ∧ w.heap.size ≤ g ∧ Blk w' g 49 cur ∧ cur.size = ts.length * 2 ∧ (∀ i x, ts[i]? = some x → TagAt cur i x) ∧ Below w.heap.size w w'

set_option maxRecDepth 100000 in
set_option maxHeartbeats 1000000 in
theorem toTagS_any (a : Option Addr) (c : Nat) (ts : List (Int × Int)) (w : World) (hn : ts.length ≤ 1048576) (ht : Tg w w.heap.size a ts) :
    Calls Tryz.prog 155 #[.slice a ts.length c] w (CopiedS w ts) := by
  obtain ⟨i0, hi0, hz0, hz1, hz2⟩ := info_parts tag_info
  have hmk : ∀ W : World, (Instr.makeSlice 39 (.int .i64 (ts.length : Int)) (.int .i64 (ts.length : Int))).run Tryz.prog W = .ok (.slice (some ⟨W.heap.size, 0, none⟩) ts.length ts.length) (W.alloc (.cells (madeCells (Value.agg #[.int .i64 0, .int .i64 0]).cells (ts.length * 2)) 49)) := by
    intro W
    have hr := run_make (P := Tryz.prog) W 39 49 i0 _ Tryz.underlying39 hi0 hz0 .i64 .i64 (ts.length : Int) (ts.length : Int) (by omega) (by omega) (by rw [hz2]; omega) (by omega)
    rw [hz1] at hr
    simpa using hr
  generalize hn' : ts.length = n at *
  have HN := hide hn'
  clear hn'
  go_enter Tryz.func155, Tryz.ntmps155
  go_wp2
  clear hmk hi0 hz0 hz1 hz2
  have B0 := Blk.made w 49 (madeCells #[.int .i64 0, .int .i64 0] (n * 2))
  have L0 := below_alloc1 w (.cells (madeCells #[.int .i64 0, .int .i64 0] (n * 2)) 49)
  go_loopw [4] (fun i wr => ∃ (k : Nat) (cur : Array Value), k ≤ n ∧ i = .int .i64 (k : Int) ∧ Blk wr w.heap.size 49 cur ∧ cur.size = n * 2 ∧ (∀ j x, j < k → ts[j]? = some x → TagAt cur j x) ∧ Below w.heap.size w wr) (fun i _ => n - (intOf i).toNat)
  case atStart => exact ⟨0, _, Nat.zero_le _, rfl, B0, size_madeCells _ _, fun j x hj => absurd hj (by omega), L0⟩
  case round =>
    obtain ⟨k, cur, hk, rfl, hB, hsz, hcur, hL⟩ := hrel
    by_cases hlt : k < n
    · rcases ht with h0 | ⟨b, off, rfl, hb, hx⟩
      · have := HN.out; subst h0; simp at this; omega
      · have hkl : k < ts.length := by have := HN.out; omega
        obtain ⟨hc0, hc1⟩ := hx k _ (List.getElem?_eq_getElem hkl)
        have c0 := (hL.cell (p := ⟨b, off + k * 2, none⟩) hb).trans hc0
        have c1 := (hL.cell (p := ⟨b, off + k * 2 + 1, none⟩) hb).trans hc1
        generalize hy : ts[k] = y at c0 c1
        have HY := hide hy
        clear hc0 hc1 hy
        go_wp2_with fail
        refine (toTag_any _ _ _).mono ?_
        rintro e w1 ⟨rfl, hb1⟩
        have B1 := hB.on hb1
        have hs0 : k * 2 < cur.size := by omega
        have hs1 : k * 2 + 1 < cur.size := by omega
        have d0 : w1.cell? ⟨w.heap.size, k * 2, none⟩ = some cur[k * 2] := by rw [B1.at]; exact Array.getElem?_eq_getElem hs0
        have d1 : w1.cell? ⟨w.heap.size, k * 2 + 1, none⟩ = some cur[k * 2 + 1] := by rw [B1.at]; exact Array.getElem?_eq_getElem hs1
        have f0 := B1.loose (k * 2)
        have f1 := B1.loose (k * 2 + 1)
        have HC := hide (tagAt_step hs1 ((List.getElem?_eq_getElem hkl).trans (congrArg some HY.out)) hcur)
        clear hcur
        go_wp2
        exact ⟨⟨k + 1, _, by omega, by go_num, (B1.put _ _).put _ _, by simp [hsz], HC.out, ((hL.trans (hb1.mono hL.size)).setCell (Nat.le_refl _) _).setCell (Nat.le_refl _) _⟩, by simp [intOf]; omega⟩
    · have hkn : k = n := by omega
      subst hkn
      clear hlt
      go_wp2
      go_ret
      have e := HN.out
      exact ⟨_, cur, by rw [e]; rfl, Nat.le_refl _, hB, by rw [e]; exact hsz, fun i x hx => hcur i x (by have := (List.getElem?_eq_some_iff.1 hx).1; omega) hx, hL⟩

/-- What toPast leaves. -/
def CopiedP (w : World) (ts : List (Int × Int)) (e : Ending) (w' : World) : Prop :=
  ∃ (g : Nat) (cur : Array Value), e = .returned (.agg #[.slice (some ⟨g, 0, none⟩) ts.length ts.length]) ∧ w.heap.size ≤ g ∧ Blk w' g 49 cur ∧ cur.size = ts.length * 2 ∧ (∀ i x, ts[i]? = some x → TagAt cur i x) ∧ Below w.heap.size w w'

set_option maxHeartbeats 1000000 in
theorem toPast_any (a : Option Addr) (c : Nat) (ts : List (Int × Int)) (w : World) (hn : ts.length ≤ 1048576) (ht : Tg w w.heap.size a ts) :
    Calls Tryz.prog 147 #[.agg #[.slice a ts.length c]] w (CopiedP w ts) := by
  have S0 := (((Inv.start w).box 172 #[.slice a ts.length c]).box 41 #[.slice none 0 0]).box 41 #[.slice none 0 0]
  simp only [World.size_alloc] at S0
  have T0 : Tg (((w.alloc (.cells #[.slice a ts.length c] 172)).alloc (.cells #[.slice none 0 0] 41)).alloc (.cells #[.slice none 0 0] 41)) w.heap.size a ts := ht.on S0.below
  go_enter Tryz.func147, Tryz.ntmps147
  go_wp2_with fail
  generalize (((w.alloc (.cells #[.slice a ts.length c] 172)).alloc (.cells #[.slice none 0 0] 41)).alloc (.cells #[.slice none 0 0] 41)) = W at S0 T0 ⊢
  refine (toTagS_any a c ts W hn (T0.up S0.base)).mono ?_
  rintro e w1 ⟨g, cur, rfl, hg, hB, hsz, hcur, hb1⟩
  have S1 := S0.on hb1
  have hr := S0.room
  have hl := S1.below
  obtain ⟨k0, f0⟩ := (S1.nth 0 rfl).one
  obtain ⟨k1, f1⟩ := (S1.nth 1 rfl).one
  have hW := S0.base
  have HC := hide hcur
  clear hcur S0 S1 T0 ht
  go_wp2
  refine bodyPost_ret (v := .agg #[.slice (some ⟨g, 0, none⟩) ts.length ts.length]) (by simp [results, Tryz.results147, go_sem, k1]) rfl ?_
  exact ⟨g, cur, rfl, by omega, (hB.aside (by simp; omega) _).aside (by simp; omega) _, hsz, HC.out, (hl.setCell (by simp; omega) _).setCell (by simp) _⟩

theorem take_eq_step {ts us : List (Int × Int)} {k : Nat} {x y : Int × Int} (hx : ts[k]? = some x) (hy : us[k]? = some y) (h : ts.take k = us.take k) (hxy : x = y) : ts.take (k + 1) = us.take (k + 1) := by
  rw [List.take_add_one, List.take_add_one, h, hx, hy, hxy]

set_option maxRecDepth 100000 in
set_option maxHeartbeats 1000000 in
theorem eqTagS_any (a a' : Option Addr) (c c' : Nat) (ts us : List (Int × Int)) (w : World) (hn : ts.length ≤ 1048576) (_hn' : us.length ≤ 1048576) (ht : Tg w w.heap.size a ts) (hu : Tg w w.heap.size a' us) :
    Calls Tryz.prog 156 #[.slice a ts.length c, .slice a' us.length c'] w fun e w' => e = .returned (.bool (decide (ts = us))) ∧ Below w.heap.size w w' := by
  by_cases hlen : ts.length = us.length
  · have hd : Hid (ts.take ts.length = us.take us.length ↔ ts = us) := by unfold Hid; rw [List.take_length, List.take_length]
    generalize hnn : ts.length = n at *
    rw [← hlen] at hd ⊢
    have HN := hide hnn
    have HL := hide hlen
    clear hnn hlen
    go_enter Tryz.func156, Tryz.ntmps156
    go_wp2
    go_loopw [5] (fun i wr => ∃ k : Nat, k ≤ n ∧ i = .int .i64 (k : Int) ∧ Hid (ts.take k = us.take k) ∧ Below w.heap.size w wr) (fun i _ => n - (intOf i).toNat)
    case atStart => exact ⟨0, Nat.zero_le _, rfl, by simp [Hid], Below.refl _ _⟩
    case round =>
      obtain ⟨k, hk, rfl, heq, hL⟩ := hrel
      by_cases hlt : k < n
      · rcases ht with h0 | ⟨b, off, rfl, hb, hx⟩
        · have := HN.out; subst h0; simp at this; omega
        · rcases hu with h0 | ⟨b', off', rfl, hb', hx'⟩
          · have := HL.out; subst h0; simp at this; omega
          · have hkl : k < ts.length := by have := HN.out; omega
            have hkl' : k < us.length := by have := HL.out; omega
            obtain ⟨hc0, hc1⟩ := hx k _ (List.getElem?_eq_getElem hkl)
            obtain ⟨hd0, hd1⟩ := hx' k _ (List.getElem?_eq_getElem hkl')
            have c0 := (hL.cell (p := ⟨b, off + k * 2, none⟩) hb).trans hc0
            have c1 := (hL.cell (p := ⟨b, off + k * 2 + 1, none⟩) hb).trans hc1
            have d0 := (hL.cell (p := ⟨b', off' + k * 2, none⟩) hb').trans hd0
            have d1 := (hL.cell (p := ⟨b', off' + k * 2 + 1, none⟩) hb').trans hd1
            have HX := hide (List.getElem?_eq_getElem hkl)
            have HY := hide (List.getElem?_eq_getElem hkl')
            generalize ts[k] = x at c0 c1 HX
            generalize us[k] = y at d0 d1 HY
            obtain ⟨x1, x2⟩ := x
            obtain ⟨y1, y2⟩ := y
            simp only at c0 c1 d0 d1
            clear hc0 hc1 hd0 hd1 hx hx'
            have i1 : (0 : Int) ≤ (k : Int) := by omega
            have i2 : (k : Int) < (n : Int) := by omega
            go_wp2_with fail
            refine wp_region_noPanic ?_
            refine wp_region_held_drew (S := (fun w' => w'.cell? ⟨b, off + k * 2, none⟩ = some (.int .i64 x1) ∧ w'.cell? ⟨b, off + k * 2 + 1, none⟩ = some (.int .i64 x2) ∧ w'.cell? ⟨b', off' + k * 2, none⟩ = some (.int .i64 y1) ∧ w'.cell? ⟨b', off' + k * 2 + 1, none⟩ = some (.int .i64 y2) ∧ Below w.heap.size w w')) (by kernel_rfl) (by exact ⟨c0, c1, d0, d1, hL.drew⟩) (fun hHeld => ?_)
            refine take_run 0 (some 17) (v := ?_) rfl rfl (by kernel_rfl) (by kernel_rfl) (by kernel_rfl) (fun _ _ _ h => h) (by rfl) ?_ hHeld ?_
            rotate_left
            · ((intro w hSw); (try dsimp only at hSw); go_simp <;> with_reducible rfl)
            simp only [Act.put, List.setIfInBounds_toArray, List.set_cons_zero, List.set_cons_succ]
            refine take_run 1 (some 18) (v := ?_) rfl rfl (by kernel_rfl) (by kernel_rfl) (by kernel_rfl) (fun _ _ _ h => h) (by rfl) ?_ hHeld ?_
            rotate_left
            · ((intro w hSw); (try dsimp only at hSw); go_simp <;> with_reducible rfl)
            simp only [Act.put, List.setIfInBounds_toArray, List.set_cons_zero, List.set_cons_succ]
            refine take_run 2 (some 19) (v := ?_) rfl rfl (by kernel_rfl) (by kernel_rfl) (by kernel_rfl) (fun _ _ _ h => h) (by rfl) ?_ hHeld ?_
            rotate_left
            · ((intro w hSw); (try dsimp only at hSw); go_simp <;> with_reducible rfl)
            simp only [Act.put, List.setIfInBounds_toArray, List.set_cons_zero, List.set_cons_succ]
            refine take_run 3 (some 20) (v := ?_) rfl rfl (by kernel_rfl) (by kernel_rfl) (by kernel_rfl) (fun _ _ _ h => h) (by rfl) ?_ hHeld ?_
            rotate_left
            · ((intro w hSw); (try dsimp only at hSw); go_simp <;> with_reducible rfl)
            simp only [Act.put, List.setIfInBounds_toArray, List.set_cons_zero, List.set_cons_succ]
            refine take_run 4 (some 21) (v := ?_) rfl rfl (by kernel_rfl) (by kernel_rfl) (by kernel_rfl) (fun _ _ _ h => h) (by rfl) ?_ hHeld ?_
            rotate_left
            · ((intro w hSw); (try dsimp only at hSw); go_simp <;> with_reducible rfl)
            simp only [Act.put, List.setIfInBounds_toArray, List.set_cons_zero, List.set_cons_succ]
            refine take_run 5 (some 22) (v := ?_) rfl rfl (by kernel_rfl) (by kernel_rfl) (by kernel_rfl) (fun _ _ _ h => h) (by rfl) ?_ hHeld ?_
            rotate_left
            · ((intro w hSw); (try dsimp only at hSw); go_simp <;> with_reducible rfl)
            simp only [Act.put, List.setIfInBounds_toArray, List.set_cons_zero, List.set_cons_succ]
            refine take_run 6 (some 23) (v := ?_) rfl rfl (by kernel_rfl) (by kernel_rfl) (by kernel_rfl) (fun _ _ _ h => h) (by rfl) ?_ hHeld ?_
            rotate_left
            · ((intro w hSw); (try dsimp only at hSw); go_simp <;> with_reducible rfl)
            simp only [Act.put, List.setIfInBounds_toArray, List.set_cons_zero, List.set_cons_succ]
            refine take_run 7 (some 24) (v := ?_) rfl rfl (by kernel_rfl) (by kernel_rfl) (by kernel_rfl) (fun _ _ _ h => h) (by rfl) ?_ hHeld ?_
            rotate_left
            · ((intro w hSw); (try dsimp only at hSw); go_simp <;> with_reducible rfl)
            simp only [Act.put, List.setIfInBounds_toArray, List.set_cons_zero, List.set_cons_succ]
            refine take_one 8 (by kernel_rfl) rfl (fun K hK => ?_)
            go_simp
            (refine (eqTag_any _ _ _ _ _).mono ?_; rintro e w1 ⟨rfl, hb1⟩)
            try go_wp2_with fail
            refine hK.out _ _ (by exact ⟨(hb1.cell (p := ⟨b, off + k * 2, none⟩) (Nat.lt_of_lt_of_le hb hHeld.2.2.2.2.size)).trans hHeld.1, (hb1.cell (p := ⟨b, off + k * 2 + 1, none⟩) (Nat.lt_of_lt_of_le hb hHeld.2.2.2.2.size)).trans hHeld.2.1, (hb1.cell (p := ⟨b', off' + k * 2, none⟩) (Nat.lt_of_lt_of_le hb' hHeld.2.2.2.2.size)).trans hHeld.2.2.1, (hb1.cell (p := ⟨b', off' + k * 2 + 1, none⟩) (Nat.lt_of_lt_of_le hb' hHeld.2.2.2.2.size)).trans hHeld.2.2.2.1, hHeld.2.2.2.2.trans (hb1.mono hHeld.2.2.2.2.size)⟩) (fun hHeld => ?_)
            clear hK K
            refine take_run 9 (some 26) (v := ?_) rfl rfl (by kernel_rfl) (by kernel_rfl) (by kernel_rfl) (fun _ _ _ h => h) (by rfl) ?_ hHeld ?_
            rotate_left
            · ((intro w hSw); (try dsimp only at hSw); go_simp <;> with_reducible rfl)
            simp only [Act.put, List.setIfInBounds_toArray, List.set_cons_zero, List.set_cons_succ]
            refine wpAnyH_done (by kernel_rfl) ?_ _
            refine NoPanic.normal ?_
            have hL2 := hHeld.2.2.2.2
            clear hHeld c0 c1 d0 d1 hL
            by_cases hxy : x1 = y1 ∧ x2 = y2
            · obtain ⟨rfl, rfl⟩ := hxy
              rw [eqB_same]
              have HS := hide (take_eq_step HX.out HY.out heq.out rfl)
              clear heq
              go_wp2
              exact ⟨⟨k + 1, by omega, by go_num, HS, hL2⟩, by simp [intOf]; omega⟩
            · have he : eqB x1 x2 y1 y2 = false := decide_eq_false hxy
              rw [he]
              have hf : Hid (decide (ts = us) = false) := decide_eq_false (fun e => hxy (by
                have h1 := HX.out
                have h2 := HY.out
                rw [e, h2] at h1
                injection h1 with h1
                injection h1 with h3 h4
                exact ⟨h3.symm, h4.symm⟩))
              clear hxy he
              go_wp2
              go_ret
              exact ⟨ret_bool hf.out.symm, hL2⟩
      · have hkn : k = n := by omega
        subst hkn
        clear hlt
        have hf : Hid (decide (ts = us) = true) := decide_eq_true (hd.out.1 heq.out)
        clear heq
        go_wp2
        go_ret
        exact ⟨ret_bool hf.out.symm, hL⟩
  · have hd : Hid (decide (ts = us) = false) := decide_eq_false (fun e => hlen (by rw [e]))
    have hne : ((ts.length : Int) != (us.length : Int)) = true := by simp; omega
    clear hlen
    go_enter Tryz.func156, Tryz.ntmps156
    go_wp2
    go_ret
    exact ⟨ret_bool hd.out.symm, Below.refl _ _⟩

set_option maxHeartbeats 1000000 in
theorem eqPast_any (a a' : Option Addr) (c c' : Nat) (ts us : List (Int × Int)) (w : World) (hn : ts.length ≤ 1048576) (hn' : us.length ≤ 1048576) (ht : Tg w w.heap.size a ts) (hu : Tg w w.heap.size a' us) :
    Calls Tryz.prog 149 #[.agg #[.slice a ts.length c], .agg #[.slice a' us.length c']] w fun e w' => e = .returned (.bool (decide (ts = us))) ∧ Below w.heap.size w w' := by
  have S0 := ((Inv.start w).box 41 #[.slice a ts.length c]).box 41 #[.slice a' us.length c']
  simp only [World.size_alloc] at S0
  have T0 := ht.on S0.below
  have U0 := hu.on S0.below
  go_enter Tryz.func149, Tryz.ntmps149
  go_wp2_with fail
  generalize (w.alloc (.cells #[.slice a ts.length c] 41)).alloc (.cells #[.slice a' us.length c'] 41) = W at S0 T0 U0 ⊢
  refine (eqTagS_any a a' c c' ts us W hn hn' (T0.up S0.base) (U0.up S0.base)).mono ?_
  rintro e w1 ⟨rfl, hb1⟩
  have hl := (S0.on hb1).below
  by_cases hd : ts = us
  · rw [decide_eq_true hd]
    have HD := hide (decide_eq_true hd)
    clear hd S0 T0 U0 ht hu
    go_wp2
    go_ret
    exact ⟨ret_bool HD.out.symm, hl⟩
  · rw [decide_eq_false hd]
    have HD := hide (decide_eq_false hd)
    clear hd S0 T0 U0 ht hu
    go_wp2
    go_ret
    exact ⟨ret_bool HD.out.symm, hl⟩

end Go.Proofs.YtjnloillcgeodaaGreat
/- How a law's contract becomes the law's row: the program's closed facts, and that what was read before a call reads the same behind it where nothing old has turned. -/
namespace Go.Proofs.YtjnloillcgeodaaGreat
open Go.ChangeShapes Go.WideShapes Go.ChangeAt Go.RowKit Go.Joins

set_option maxRecDepth 100000 in
theorem own : ownKnob Tryz.prog.godebug = none := by kernel_rfl
set_option maxRecDepth 100000 in
theorem laidOut : laidOutB Tryz.prog = true := all_laid

set_option maxRecDepth 100000 in
/-- All arguments read behind the call as they did before it, if below the old heap nothing has turned. -/
theorem stay_all {H : Type} {enc : TypeId × Value → H} {W W' : World} (hb : Below W.heap.size W W') :
    ∀ {ts : List TypeId} {vs : List Value} {ds : List (DataW H)} {ps : List MemPlace},
      (∀ t ∈ ts, Tryz.prog.readableRec t = true ∧ t < Tryz.prog.types.size) → DataW.TrodAll enc Tryz.prog W 0 (fun _ => true) true ts vs ds ps →
      DataW.TrodAll enc Tryz.prog W' 0 (fun b => decide (b < W.heap.size)) true ts vs ds ps
  | [], vs, ds, ps, _, h => by
    obtain ⟨rfl, rfl, rfl⟩ := trodAll_nil h
    exact trodAll_mk0
  | t :: ts, vs, ds, ps, hr, h => by
    obtain ⟨v, vs', d, ds', p, q, rfl, rfl, rfl, h0, hs⟩ := trodAll_cons h
    have lt0 : ∀ x ∈ p, x.block < W.heap.size := by obtain ⟨m, hm⟩ := h0; exact DataW.trod_lt m _ _ _ hm
    exact trodAll_cons_mk (Below.trod laidOut (hr t (by simp)).1 (hr t (by simp)).2 h0 hb lt0) (stay_all hb (fun t' ht' => hr t' (by simp [ht'])) hs)

set_option maxRecDepth 100000 in
/-- Two cells of a tag that came in hold two integers. -/
theorem cells_tag {H : Type} {enc : TypeId × Value → H} {W : World} {fuel : Nat} {cs : List Value} {x : DataW H × List MemPlace}
    (h : DataW.trod enc Tryz.prog W 0 (fun _ => true) true fuel 169 cs = some x) : ∃ t u : Int, cs = [.int .i64 t, .int .i64 u] := by
  obtain ⟨ys, n, _, _, hlen, hyl, hf⟩ := DataW.trod_struct Tryz.underlying169 h
  have hc : Tryz.prog.cellsOf 169 = 2 := by kernel_rfl
  have hi : Tryz.prog.cellsOf 3 = 1 := by kernel_rfl
  rw [hc] at hlen
  match cs, hlen with
  | [c0, c1], _ =>
    have h0 := hf 0 _ rfl
    have h1 := hf 1 _ rfl
    simp [hi] at h0 h1
    match ys, hyl with
    | [y0, y1], _ =>
      simp at h0 h1
      obtain ⟨a, e0, _, _⟩ := DataW.trod_int Tryz.underlying3 h0
      obtain ⟨b, e1, _, _⟩ := DataW.trod_int Tryz.underlying3 h1
      simp at e0 e1
      subst e0 e1
      exact ⟨a, b, rfl⟩
set_option maxRecDepth 100000 in
/-- A slice of tags that came in: each can be read. -/
theorem read_tags {H : Type} {enc : TypeId × Value → H} {W : World} {fuel : Nat} {cs : List Value} {x : DataW H × List MemPlace}
    (h : DataW.trod enc Tryz.prog W 0 (fun _ => true) true fuel 170 cs = some x) :
    ∃ (a : Option Addr) (cap : Nat) (ts : List (Int × Int)), cs = [.slice a ts.length cap] ∧ Tg W W.heap.size a ts ∧ ts.length ≤ 9223372036854775807 := by
  rcases Go.Deep.open_slice Tryz.underlying170 h with ⟨h0, _⟩ | ⟨a, len, cap, m, n, D, Pl, hcs, _, hl, hm, hmm, _, hi⟩
  · exact ⟨none, 0, [], h0, .inl rfl, by simp⟩
  · have hc : Tryz.prog.cellsOf 169 = 2 := by kernel_rfl
    simp only [if_true] at hmm
    subst hmm
    have hall : ∀ i : Nat, ∃ y : Int × Int, i < len → W.cell? (a.add (i * 2)) = some (.int .i64 y.1) ∧ W.cell? ((a.add (i * 2)).add 1) = some (.int .i64 y.2) := by
      intro i
      by_cases hlt : i < len
      · obtain ⟨cs', hcells, ht⟩ := hi i (by omega)
        obtain ⟨t, u, rfl⟩ := cells_tag ht
        rw [hc] at hcells
        obtain ⟨_, _, hat⟩ := World.cells?_some hcells
        refine ⟨(t, u), fun _ => ⟨?_, ?_⟩⟩
        · have := hat 0 (by omega)
          simpa [Addr.add] using this
        · have := hat 1 (by omega)
          simpa using this
      · exact ⟨(0, 0), fun h => absurd h hlt⟩
    obtain ⟨f, hf⟩ := Classical.axiomOfChoice hall
    refine ⟨some a, m, (List.range len).map f, by simpa using hcs, ?_, by simp; unfold maxLen at hm; omega⟩
    by_cases h0 : len = 0
    · subst h0; exact .inl (by simp)
    · obtain ⟨b, off, spot⟩ := a
      have hc0 := (hf 0 (by omega)).1
      have hspot : spot = none := by simpa [Addr.add] using World.cell?_spot hc0
      subst hspot
      refine .inr ⟨b, off, rfl, ?_, fun i y hy => ?_⟩
      · apply Classical.byContradiction
        intro hn
        have : W.heap[b]? = none := Array.getElem?_eq_none (by omega)
        simp [Addr.add, World.cell?, this] at hc0
      · simp only [List.getElem?_map, Option.map_eq_some_iff] at hy
        obtain ⟨j, hj, rfl⟩ := hy
        have hji := List.getElem?_eq_some_iff.1 hj
        obtain ⟨hlt, e⟩ := hji
        simp at hlt e
        subst e
        have h1 := hf i hlt
        have e1 : (⟨b, off, none⟩ : Addr).add (i * 2) = ⟨b, off + i * 2, none⟩ := by
          unfold Addr.add
          by_cases hi0 : i * 2 = 0
          · simp [hi0]
          · simp [hi0]
        rw [e1] at h1
        exact ⟨h1.1, by simpa [Addr.add] using h1.2⟩
end Go.Proofs.YtjnloillcgeodaaGreat
/- Versions that came in: each can be read. -/
namespace Go.Proofs.YtjnloillcgeodaaGreat
open Go.ChangeShapes Go.WideShapes Go.ChangeAt Go.RowKit Go.Joins

set_option maxRecDepth 100000 in
/-- The cell of a vector of tags that came in. -/
theorem cells_past {H : Type} {enc : TypeId × Value → H} {W : World} {fuel : Nat} {cs : List Value} {x : DataW H × List MemPlace}
    (h : DataW.trod enc Tryz.prog W 0 (fun _ => true) true fuel 172 cs = some x) :
    ∃ (a : Option Addr) (cap : Nat) (ts : List (Int × Int)), cs = [.slice a ts.length cap] ∧ Tg W W.heap.size a ts ∧ ts.length ≤ 9223372036854775807 := by
  obtain ⟨xs, n, _, _, hsz, hlen, hg⟩ := DataW.trod_struct Tryz.underlying172 h
  have hc : Tryz.prog.cellsOf 172 = 1 := by kernel_rfl
  have hk : Tryz.prog.cellsOf 170 = 1 := by kernel_rfl
  rw [hc] at hsz
  match cs, hsz with
  | [c0], _ =>
    have h0 := hg 0 _ rfl
    simp [hk] at h0
    match xs, hlen with
    | [y0], _ =>
      simp at h0
      obtain ⟨a, cap, ts, e, ht, hl⟩ := read_tags h0
      exact ⟨a, cap, ts, e, ht, hl⟩
set_option maxRecDepth 100000 in
/-- The cells of a version that came in. -/
theorem cells_ver {H : Type} {enc : TypeId × Value → H} {W : World} {fuel : Nat} {cs : List Value} {x : DataW H × List MemPlace}
    (h : DataW.trod enc Tryz.prog W 0 (fun _ => true) true fuel 174 cs = some x) :
    ∃ (k t u : Int) (a : Option Addr) (cap : Nat) (ts : List (Int × Int)) (s : ByteArray) (g : Bool), cs = [.int .i64 k, .int .i64 t, .int .i64 u, .slice a ts.length cap, .string s, .bool g] ∧ Tg W W.heap.size a ts ∧ ts.length ≤ 9223372036854775807 ∧ s.size ≤ maxLen := by
  obtain ⟨xs, n, _, _, hsz, hlen, hg⟩ := DataW.trod_struct Tryz.underlying174 h
  have hc : Tryz.prog.cellsOf 174 = 6 := by kernel_rfl
  have k1 : Tryz.prog.cellsOf 3 = 1 := by kernel_rfl
  have k2 : Tryz.prog.cellsOf 169 = 2 := by kernel_rfl
  have k3 : Tryz.prog.cellsOf 172 = 1 := by kernel_rfl
  have k4 : Tryz.prog.cellsOf 9 = 1 := by kernel_rfl
  have k5 : Tryz.prog.cellsOf 4 = 1 := by kernel_rfl
  rw [hc] at hsz
  match cs, hsz with
  | [c0, c1, c2, c3, c4, c5], _ =>
    have h0 := hg 0 _ rfl
    have h1 := hg 1 _ rfl
    have h2 := hg 2 _ rfl
    have h3 := hg 3 _ rfl
    have h4 := hg 4 _ rfl
    simp [k1, k2, k3, k4, k5] at h0 h1 h2 h3 h4
    match xs, hlen with
    | [y0, y1, y2, y3, y4], _ =>
      simp at h0 h1 h2 h3 h4
      obtain ⟨k, e0, _, _⟩ := DataW.trod_int Tryz.underlying3 h0
      obtain ⟨t, u, e1⟩ := cells_tag h1
      obtain ⟨a, cap, ts, e2, ht, hl⟩ := cells_past h2
      obtain ⟨s, e3, _, hs⟩ := DataW.trod_string Tryz.underlying9 h3
      obtain ⟨g, e4, _⟩ := DataW.trod_bool Tryz.underlying4 h4
      simp at e0 e1 e2 e3 e4
      obtain ⟨e1, e1'⟩ := e1
      subst e0 e1 e1' e2 e3 e4
      exact ⟨k, t, u, a, cap, ts, s, g, rfl, ht, hl, hs⟩
end Go.Proofs.YtjnloillcgeodaaGreat
/- Contracts of the functions on vectors of tags: whether one is valid, in the program and in the model. Condition: at most 1048576 tags. -/
namespace Go.Proofs.YtjnloillcgeodaaGreat
open Go.RowKit Go.Joins

/-- Whether these tags are a valid vector. -/
def pastB (ts : List (Int × Int)) : Bool := decide (ts.length = 4) && ts.all fun x => okB x.1 x.2
theorem pastB_len {ts : List (Int × Int)} (h : ¬ ts.length = 4) : pastB ts = false := by unfold pastB; simp [h]
theorem pastB_bad {ts : List (Int × Int)} {k : Nat} {x : Int × Int} (hx : ts[k]? = some x) (h : okB x.1 x.2 = false) : pastB ts = false := by
  unfold pastB
  have : (ts.all fun x => okB x.1 x.2) = false := by
    rw [List.all_eq_false]
    exact ⟨x, List.mem_of_getElem? hx, by simp [h]⟩
  simp [this]
theorem pastB_ok {ts : List (Int × Int)} (hl : ts.length = 4) (h : ∀ (k : Nat) (x : Int × Int), ts[k]? = some x → okB x.1 x.2 = true) : pastB ts = true := by
  unfold pastB
  have : (ts.all fun x => okB x.1 x.2) = true := by
    rw [List.all_eq_true]
    intro x hx
    obtain ⟨k, hk⟩ := List.getElem?_of_mem hx
    exact h k x hk
  simp [this, hl]

set_option maxRecDepth 100000 in
set_option maxHeartbeats 1000000 in
theorem l1PastOk_any (a : Option Addr) (c : Nat) (ts : List (Int × Int)) (w : World) (hn : ts.length ≤ 1048576) (ht : Tg w w.heap.size a ts) :
    Calls Tryz.prog 100 #[.agg #[.slice a ts.length c]] w fun e w' => e = .returned (.bool (pastB ts)) ∧ Below w.heap.size w w' := by
  have B0 := Blk.made w 41 #[.slice a ts.length c]
  have L0 := below_alloc1 w (.cells #[.slice a ts.length c] 41)
  generalize hnn : ts.length = n at *
  have HN := hide hnn
  clear hnn
  go_enter Tryz.func100, Tryz.ntmps100
  go_wp2
  go_loopw [3] (fun i wr => ∃ k : Nat, k ≤ n ∧ i = .int .i64 (k : Int) ∧ (∀ j x, j < k → ts[j]? = some x → okB x.1 x.2 = true) ∧ Blk wr w.heap.size 41 #[.slice a n c] ∧ Below w.heap.size w wr) (fun i _ => n - (intOf i).toNat)
  case atStart => exact ⟨0, Nat.zero_le _, rfl, fun j x hj => absurd hj (by omega), B0, L0⟩
  case round =>
    obtain ⟨k, hk, rfl, hall, hB, hL⟩ := hrel
    have hA := hide hall
    clear hall
    obtain ⟨q0, q1⟩ := hB.one
    by_cases hlt : k < n
    · rcases ht with h0 | ⟨b, off, rfl, hb, hx⟩
      · have := HN.out; subst h0; simp at this; omega
      · have hkl : k < ts.length := by have := HN.out; omega
        obtain ⟨hc0, hc1⟩ := hx k _ (List.getElem?_eq_getElem hkl)
        have c0 := (hL.cell (p := ⟨b, off + k * 2, none⟩) hb).trans hc0
        have c1 := (hL.cell (p := ⟨b, off + k * 2 + 1, none⟩) hb).trans hc1
        have HX := hide (List.getElem?_eq_getElem hkl)
        generalize ts[k] = x at c0 c1 HX
        obtain ⟨x1, x2⟩ := x
        simp only at c0 c1
        clear hc0 hc1 hx
        go_wp2_with fail
        refine (l1TagOk_any _ _ _).mono ?_
        rintro e w1 ⟨rfl, hb1⟩
        have hL1 := hL.trans (hb1.mono hL.size)
        have B1 := hB.on hb1
        cases hok : okB x1 x2
        · have hf := hide (pastB_bad HX.out hok)
          clear hok
          go_wp2
          go_ret
          exact ⟨ret_bool hf.out.symm, hL1⟩
        · have HA := hide (show ∀ j x, j < k + 1 → ts[j]? = some x → okB x.1 x.2 = true from fun j x hj hx => by
            by_cases e : j = k
            · subst e
              have h1 := HX.out
              rw [h1] at hx
              injection hx with hx
              subst hx
              exact hok
            · exact hA.out j x (by omega) hx)
          clear hok
          go_wp2
          exact ⟨⟨k + 1, by omega, by go_num, HA.out, B1, hL1⟩, by simp [intOf]; omega⟩
    · have hkn : k = n := by omega
      subst hkn
      clear hlt
      by_cases h4 : k = 4
      · have hf := hide (pastB_ok (HN.out.trans h4) (fun j x hx => hA.out j x (by have := (List.getElem?_eq_some_iff.1 hx).1; have := HN.out; omega) hx))
        subst h4
        go_wp2
        go_ret
        exact ⟨ret_bool hf.out.symm, hL⟩
      · have hf := hide (pastB_len (fun e => h4 (HN.out.symm.trans e)))
        have h4' : ((k : Int) == 4) = false := by simp; omega
        clear h4
        go_wp2
        go_ret
        exact ⟨ret_bool hf.out.symm, hL⟩

/-- The eight cells of four tags. -/
def cells4 (ts : List (Int × Int)) : Array Value := (ts.flatMap fun x => [Value.int .i64 x.1, Value.int .i64 x.2]).toArray
abbrev zero8 : Array Value := #[.int .i64 0, .int .i64 0, .int .i64 0, .int .i64 0, .int .i64 0, .int .i64 0, .int .i64 0, .int .i64 0]

theorem Blk.eight {w : World} {g : Nat} {T : TypeId} {a b c d e f u v : Value} (h : Blk w g T #[a, b, c, d, e, f, u, v]) :
    (w.cell? ⟨g, 0, none⟩ = some a ∧ w.cell? ⟨g, 1, none⟩ = some b ∧ w.cell? ⟨g, 2, none⟩ = some c ∧ w.cell? ⟨g, 3, none⟩ = some d ∧ w.cell? ⟨g, 4, none⟩ = some e ∧ w.cell? ⟨g, 5, none⟩ = some f ∧ w.cell? ⟨g, 6, none⟩ = some u ∧ w.cell? ⟨g, 7, none⟩ = some v) ∧
    (w.frozen? ⟨g, 0, none⟩ = false ∧ w.frozen? ⟨g, 1, none⟩ = false ∧ w.frozen? ⟨g, 2, none⟩ = false ∧ w.frozen? ⟨g, 3, none⟩ = false ∧ w.frozen? ⟨g, 4, none⟩ = false ∧ w.frozen? ⟨g, 5, none⟩ = false ∧ w.frozen? ⟨g, 6, none⟩ = false ∧ w.frozen? ⟨g, 7, none⟩ = false) :=
  ⟨⟨h.at 0, h.at 1, h.at 2, h.at 3, h.at 4, h.at 5, h.at 6, h.at 7⟩, h.loose 0, h.loose 1, h.loose 2, h.loose 3, h.loose 4, h.loose 5, h.loose 6, h.loose 7⟩
theorem below_set8 {w w' : World} {n g : Nat} (h : Below n w w') (hg : n ≤ g) (a b c d e f u v : Value) :
    Below n w ((((((((w'.setCell ⟨g, 0, none⟩ a).setCell ⟨g, 1, none⟩ b).setCell ⟨g, 2, none⟩ c).setCell ⟨g, 3, none⟩ d).setCell ⟨g, 4, none⟩ e).setCell ⟨g, 5, none⟩ f).setCell ⟨g, 6, none⟩ u).setCell ⟨g, 7, none⟩ v) :=
  (((((((h.setCell hg a).setCell hg b).setCell hg c).setCell hg d).setCell hg e).setCell hg f).setCell hg u).setCell hg v
/-- Eight cells that hold four tags are just these. -/
theorem cur4 {cur : Array Value} {ts : List (Int × Int)} (hs : cur.size = 8) (hl : ts.length = 4) (h : ∀ j x, ts[j]? = some x → TagAt cur j x) :
    ∃ x0 x1 x2 x3 : Int × Int, ts = [x0, x1, x2, x3] ∧ cur = #[.int .i64 x0.1, .int .i64 x0.2, .int .i64 x1.1, .int .i64 x1.2, .int .i64 x2.1, .int .i64 x2.2, .int .i64 x3.1, .int .i64 x3.2] := by
  match ts, hl with
  | [x0, x1, x2, x3], _ =>
    refine ⟨x0, x1, x2, x3, rfl, ?_⟩
    obtain ⟨a0, a1⟩ := h 0 x0 rfl
    obtain ⟨b0, b1⟩ := h 1 x1 rfl
    obtain ⟨c0, c1⟩ := h 2 x2 rfl
    obtain ⟨d0, d1⟩ := h 3 x3 rfl
    apply Array.ext_getElem?
    intro i
    match i with
    | 0 => simpa using a0
    | 1 => simpa using a1
    | 2 => simpa using b0
    | 3 => simpa using b1
    | 4 => simpa using c0
    | 5 => simpa using c1
    | 6 => simpa using d0
    | 7 => simpa using d1
    | n + 8 => rw [Array.getElem?_eq_none (by omega), Array.getElem?_eq_none (by simp)]

/-- What vectorOf answers. -/
def VecOf (w : World) (ts : List (Int × Int)) (e : Ending) (w' : World) : Prop :=
  (pastB ts = true → e = .returned (.tuple #[.agg (cells4 ts), .bool true])) ∧ (pastB ts = false → e = .returned (.tuple #[.agg zero8, .bool false])) ∧ Below w.heap.size w w'

set_option maxRecDepth 100000 in
set_option maxHeartbeats 2000000 in
theorem vectorOf_any (a : Option Addr) (c : Nat) (ts : List (Int × Int)) (w : World) (hn : ts.length ≤ 1048576) (ht : Tg w w.heap.size a ts) :
    Calls Tryz.prog 43 #[.agg #[.slice a ts.length c]] w (VecOf w ts) := by
  by_cases h4 : ts.length = 4
  · have S0 := (((Inv.start w).box 41 #[.slice a ts.length c]).box 84 zero8).box 84 zero8
    simp only [World.size_alloc] at S0
    rw [h4] at S0 ⊢
    go_enter Tryz.func43, Tryz.ntmps43
    go_wp2
    have B1 := S0.nth 1 rfl
    have B2 := S0.nth 0 rfl
    have L0 := S0.below
    clear S0
    go_loopw [15] (fun i wr => ∃ (k : Nat) (cur : Array Value), k ≤ 4 ∧ i = .int .i64 (k : Int) ∧ Blk wr (w.heap.size + 1 + 1) 84 cur ∧ cur.size = 8 ∧ (∀ j x, j < k → ts[j]? = some x → TagAt cur j x) ∧ (∀ j x, j < k → ts[j]? = some x → okB x.1 x.2 = true) ∧ Blk wr (w.heap.size + 1) 84 zero8 ∧ Below w.heap.size w wr) (fun i _ => 4 - (intOf i).toNat)
    case atStart => exact ⟨0, _, Nat.zero_le _, rfl, B2, rfl, fun j x hj => absurd hj (by omega), fun j x hj => absurd hj (by omega), B1, L0⟩
    case round =>
      obtain ⟨k, cur, hk, rfl, hV, hsz, hcur, hall, hR, hL⟩ := hrel
      have H4 := hide h4
      have hA := hide hall
      clear hall h4 B1 B2 L0
      by_cases hlt : k < 4
      · rcases ht with h0 | ⟨b, off, rfl, hb, hx⟩
        · have := H4.out; subst h0; simp at this
        · have hkl : k < ts.length := by have := H4.out; omega
          obtain ⟨hc0, hc1⟩ := hx k _ (List.getElem?_eq_getElem hkl)
          have c0 := (hL.cell (p := ⟨b, off + k * 2, none⟩) hb).trans hc0
          have c1 := (hL.cell (p := ⟨b, off + k * 2 + 1, none⟩) hb).trans hc1
          have HX := hide (List.getElem?_eq_getElem hkl)
          generalize ts[k] = x at c0 c1 HX
          obtain ⟨x1, x2⟩ := x
          simp only at c0 c1
          clear hc0 hc1 hx
          have HC := hide hcur
          clear hcur
          have i1 : (0 : Int) ≤ (k : Int) := by omega
          have i2 : (k : Int) < 4 := by omega
          have X0 := Blk.made wr 49 #[.int .i64 x1, .int .i64 x2]
          have V0 := hV.more (.cells #[.int .i64 x1, .int .i64 x2] 49)
          have R0 := hR.more (.cells #[.int .i64 x1, .int .i64 x2] 49)
          have K0 := hL.alloc hL.size (.cells #[.int .i64 x1, .int .i64 x2] 49)
          go_wp2_with fail
          refine (implTagOk_any _ _ _).mono ?_
          rintro e w1 ⟨rfl, hb1⟩
          have hL1 := K0.trans (hb1.mono K0.size)
          have V1 := V0.on hb1
          have R1 := R0.on hb1
          have X1 := (X0.on hb1).two
          cases hok : okB x1 x2
          · have hf := hide (pastB_bad HX.out hok)
            have E1 := R1.eight
            clear hok
            go_wp2
            refine bodyPost_ret (v := .tuple #[.agg zero8, .bool false]) (by simp [results, Tryz.results43, go_sem, E1]) rfl ?_
            exact ⟨fun h => (by rw [hf.out] at h; cases h), fun _ => rfl, below_set8 hL1 (by omega) _ _ _ _ _ _ _ _⟩
          · have HA := hide (show ∀ j x, j < k + 1 → ts[j]? = some x → okB x.1 x.2 = true from fun j x hj hx => by
              by_cases e : j = k
              · subst e
                have h1 := HX.out
                rw [h1] at hx
                injection hx with hx
                subst hx
                exact hok
              · exact hA.out j x (by omega) hx)
            have hs0 : k * 2 < cur.size := by omega
            have hs1 : k * 2 + 1 < cur.size := by omega
            have HS := hide (tagAt_step (ts := ts) hs1 HX.out HC.out)
            have d0 : w1.cell? ⟨w.heap.size + 1 + 1, k * 2, none⟩ = some cur[k * 2] := by rw [V1.at]; exact Array.getElem?_eq_getElem hs0
            have d1 : w1.cell? ⟨w.heap.size + 1 + 1, k * 2 + 1, none⟩ = some cur[k * 2 + 1] := by rw [V1.at]; exact Array.getElem?_eq_getElem hs1
            have f0 := V1.loose (k * 2)
            have f1 := V1.loose (k * 2 + 1)
            clear hok
            go_wp2
            exact ⟨⟨k + 1, _, by omega, by go_num, (V1.put _ _).put _ _, by simp [hsz], HS.out, HA.out, (R1.aside (by simp) _).aside (by simp) _, (hL1.setCell (by simp; omega) _).setCell (by simp; omega) _⟩, by simp [intOf]; omega⟩
      · have hk4 : k = 4 := by omega
        subst hk4
        clear hlt
        have hin : ∀ (j : Nat) (x : Int × Int), ts[j]? = some x → j < 4 := fun j x hx => by have := (List.getElem?_eq_some_iff.1 hx).1; have := H4.out; omega
        obtain ⟨x0, x1, x2, x3, hts, hcu⟩ := cur4 hsz H4.out (fun j x hx => hcur j x (hin j x hx) hx)
        have hf := hide (pastB_ok H4.out (fun j x hx => hA.out j x (hin j x hx) hx))
        have HT := hide hts
        clear hin hcur hA hts
        subst hcu
        have E1 := hR.eight
        have E2 := hV.eight
        go_wp2
        refine bodyPost_ret (v := .tuple #[.agg (cells4 [x0, x1, x2, x3]), .bool true]) (by simp [results, Tryz.results43, go_sem, E1, cells4]) rfl ?_
        exact ⟨fun _ => by rw [HT.out], fun h => (by rw [hf.out] at h; cases h), below_set8 hL (by omega) _ _ _ _ _ _ _ _⟩
  · have h4' : ((ts.length : Int) != 4) = true := by simp; omega
    have hf := hide (pastB_len h4)
    clear h4
    go_enter Tryz.func43, Tryz.ntmps43
    go_wp2
    refine bodyPost_ret (v := .tuple #[.agg zero8, .bool false]) (by simp [results, Tryz.results43, go_sem]) rfl ?_
    exact ⟨fun h => (by rw [hf.out] at h; cases h), fun _ => rfl, ((Below.refl _ _).alloc (Nat.le_refl _) _).alloc (by simp) _⟩

theorem cells4_eq (x0 x1 x2 x3 : Int × Int) : cells4 [x0, x1, x2, x3] = #[.int .i64 x0.1, .int .i64 x0.2, .int .i64 x1.1, .int .i64 x1.2, .int .i64 x2.1, .int .i64 x2.2, .int .i64 x3.1, .int .i64 x3.2] := by simp [cells4]
theorem four_of {ts : List (Int × Int)} (h : pastB ts = true) : ∃ x0 x1 x2 x3 : Int × Int, ts = [x0, x1, x2, x3] := by
  unfold pastB at h
  simp at h
  match ts, h.1 with
  | [x0, x1, x2, x3], _ => exact ⟨x0, x1, x2, x3, rfl⟩

set_option maxHeartbeats 1000000 in
theorem implPastOk_any (a : Option Addr) (c : Nat) (ts : List (Int × Int)) (w : World) (hn : ts.length ≤ 1048576) (ht : Tg w w.heap.size a ts) :
    Calls Tryz.prog 107 #[.agg #[.slice a ts.length c]] w fun e w' => e = .returned (.bool (pastB ts)) ∧ Below w.heap.size w w' := by
  have L0 := below_alloc1 w (.cells #[.slice a ts.length c] 41)
  go_enter Tryz.func107, Tryz.ntmps107
  go_wp2_with fail
  refine (vectorOf_any a c ts _ hn ((ht.on L0).up L0.size)).mono ?_
  rintro e w1 ⟨h1, h2, hb1⟩
  have hl := L0.trans (hb1.mono L0.size)
  cases hp : pastB ts
  · have he := h2 hp
    have HP := hide hp
    subst he
    clear h1 h2 L0 ht hp
    go_wp2
    go_ret
    exact ⟨ret_bool HP.out.symm, hl.alloc hl.size _⟩
  · have he := h1 hp
    have HP := hide hp
    obtain ⟨x0, x1, x2, x3, rfl⟩ := four_of hp
    rw [cells4_eq] at he
    subst he
    clear h1 h2 L0 ht hp
    go_wp2
    go_ret
    exact ⟨ret_bool HP.out.symm, hl.alloc hl.size _⟩
end Go.Proofs.YtjnloillcgeodaaGreat
/- Contracts of the laws' small functions on versions: their size, their copy, whether two are the same. Condition: at most 1048576 tags where memory is made. -/
namespace Go.Proofs.YtjnloillcgeodaaGreat
open Go.RowKit Go.Joins

/-- The six cells of a version. -/
abbrev verC (k t u : Int) (a : Option Addr) (n c : Nat) (s : ByteArray) (g : Bool) : Array Value := #[.int .i64 k, .int .i64 t, .int .i64 u, .slice a n c, .string s, .bool g]
theorem Blk.six {w : World} {g : Nat} {T : TypeId} {a b c d e f : Value} (h : Blk w g T #[a, b, c, d, e, f]) :
    (w.cell? ⟨g, 0, none⟩ = some a ∧ w.cell? ⟨g, 1, none⟩ = some b ∧ w.cell? ⟨g, 2, none⟩ = some c ∧ w.cell? ⟨g, 3, none⟩ = some d ∧ w.cell? ⟨g, 4, none⟩ = some e ∧ w.cell? ⟨g, 5, none⟩ = some f) ∧
    (w.frozen? ⟨g, 0, none⟩ = false ∧ w.frozen? ⟨g, 1, none⟩ = false ∧ w.frozen? ⟨g, 2, none⟩ = false ∧ w.frozen? ⟨g, 3, none⟩ = false ∧ w.frozen? ⟨g, 4, none⟩ = false ∧ w.frozen? ⟨g, 5, none⟩ = false) :=
  ⟨⟨h.at 0, h.at 1, h.at 2, h.at 3, h.at 4, h.at 5⟩, h.loose 0, h.loose 1, h.loose 2, h.loose 3, h.loose 4, h.loose 5⟩
theorem below_set6 {w w' : World} {n g : Nat} (h : Below n w w') (hg : n ≤ g) (a b c d e f : Value) :
    Below n w ((((((w'.setCell ⟨g, 0, none⟩ a).setCell ⟨g, 1, none⟩ b).setCell ⟨g, 2, none⟩ c).setCell ⟨g, 3, none⟩ d).setCell ⟨g, 4, none⟩ e).setCell ⟨g, 5, none⟩ f) :=
  (((((h.setCell hg a).setCell hg b).setCell hg c).setCell hg d).setCell hg e).setCell hg f

set_option maxHeartbeats 1000000 in
theorem szVer_fits (k t u : Int) (a : Option Addr) (n c : Nat) (s : ByteArray) (g : Bool) (left : Int) (w : World) (h0 : left ≤ 1048576) (hn : (n : Int) + s.size ≤ left) :
    Calls Tryz.prog 136 #[.agg (verC k t u a n c s g), .int .i64 left] w fun e w' => e = .returned (.int .i64 (left - n - s.size)) ∧ Below w.heap.size w w' := by
  have S0 := (Inv.start w).box 174 (verC k t u a n c s g)
  have h1 : ¬ (left - (n : Int) < 0) := by omega
  have h2 : ¬ (left - (n : Int) - (s.size : Int) < 0) := by omega
  have h3 : 0 ≤ left := by omega
  go_enter Tryz.func136, Tryz.ntmps136
  go_wp2_with fail
  refine (szPast_fits a n c left _ h0 (by omega)).mono ?_
  rintro e w1 ⟨rfl, hb1⟩
  have S1 := S0.on hb1
  have k1 := (S1.nth 0 rfl).six.1
  clear S0
  go_wp2
  go_ret
  exact ⟨rfl, S1.below⟩
set_option maxHeartbeats 1000000 in
theorem szVer_not (k t u : Int) (a : Option Addr) (n c : Nat) (s : ByteArray) (g : Bool) (left : Int) (w : World) (h0 : left ≤ 1048576) (h00 : 0 ≤ left) (hm : n ≤ 9223372036854775807) (hs : s.size ≤ 9223372036854775807) (hn : left < (n : Int) + s.size) :
    Calls Tryz.prog 136 #[.agg (verC k t u a n c s g), .int .i64 left] w fun e w' => e = .returned (.int .i64 (-1)) ∧ Below w.heap.size w w' := by
  have S0 := (Inv.start w).box 174 (verC k t u a n c s g)
  by_cases hp : (n : Int) ≤ left
  · have h1 : ¬ (left - (n : Int) < 0) := by omega
    have h2 : left - (n : Int) - (s.size : Int) < 0 := by omega
    go_enter Tryz.func136, Tryz.ntmps136
    go_wp2_with fail
    refine (szPast_fits a n c left _ h0 hp).mono ?_
    rintro e w1 ⟨rfl, hb1⟩
    have S1 := S0.on hb1
    have k1 := (S1.nth 0 rfl).six.1
    clear S0
    go_wp2
    go_ret
    exact ⟨rfl, S1.below⟩
  · go_enter Tryz.func136, Tryz.ntmps136
    go_wp2_with fail
    refine (szPast_not a n c left _ h0 h00 hm (by omega)).mono ?_
    rintro e w1 ⟨rfl, hb1⟩
    have S1 := S0.on hb1
    clear S0
    go_wp2
    go_ret
    exact ⟨rfl, S1.below⟩

/-- What toVer leaves. -/
def CopiedV (w : World) (k t u : Int) (ts : List (Int × Int)) (s : ByteArray) (b : Bool) (e : Ending) (w' : World) : Prop :=
  ∃ (g : Nat) (cur : Array Value), e = .returned (.agg (verC k t u (some ⟨g, 0, none⟩) ts.length ts.length s b)) ∧ w.heap.size ≤ g ∧ Blk w' g 49 cur ∧ cur.size = ts.length * 2 ∧ (∀ i x, ts[i]? = some x → TagAt cur i x) ∧ Below w.heap.size w w'

theorem Inv.put0 {w w1 : World} {n g i : Nat} {t : TypeId} {cs : Array Value} {bs : List (Nat × TypeId × Array Value)} (h : Inv w n ((g, t, cs) :: bs) w1) (hd : ∀ x ∈ bs, x.1 ≠ g) (u : Value) : Inv w n ((g, t, cs.setIfInBounds i u) :: bs) (w1.setCell ⟨g, i, none⟩ u) :=
  ⟨h.below.setCell (h.blk _ (List.mem_cons_self ..)).1 u, by simpa [World.setCell] using h.room, fun x hx => by
    rcases List.mem_cons.1 hx with rfl | hx
    · exact ⟨(h.blk _ (List.mem_cons_self ..)).1, (h.blk _ (List.mem_cons_self ..)).2.1, (h.blk _ (List.mem_cons_self ..)).2.2.put i u⟩
    · have := h.blk x (List.mem_cons_of_mem _ hx)
      exact ⟨this.1, this.2.1, this.2.2.aside (hd x hx) u⟩⟩

set_option maxRecDepth 100000 in
set_option maxHeartbeats 2000000 in
theorem toVer_any (k t u : Int) (a : Option Addr) (c : Nat) (ts : List (Int × Int)) (s : ByteArray) (b : Bool) (w : World) (hn : ts.length ≤ 1048576) (ht : Tg w w.heap.size a ts) :
    Calls Tryz.prog 137 #[.agg (verC k t u a ts.length c s b)] w (CopiedV w k t u ts s b) := by
  have S0 := (((Inv.start w).box 174 (verC k t u a ts.length c s b)).box 51 (verC 0 0 0 none 0 0 ⟨#[]⟩ false)).box 51 (verC k 0 0 none 0 0 ⟨#[]⟩ false)
  simp only [World.size_alloc] at S0
  have hd : ∀ x ∈ [(w.heap.size + 1, 51, verC 0 0 0 none 0 0 ⟨#[]⟩ false), (w.heap.size, 174, verC k t u a ts.length c s b)], x.1 ≠ w.heap.size + 1 + 1 := by simp; omega
  go_enter Tryz.func137, Tryz.ntmps137
  go_wp2_with fail
  generalize (((w.alloc (.cells (verC k t u a ts.length c s b) 174)).alloc (.cells (verC 0 0 0 none 0 0 ⟨#[]⟩ false) 51)).alloc (.cells (verC k 0 0 none 0 0 ⟨#[]⟩ false) 51)) = W at S0 ⊢
  refine (toTag_any _ _ _).mono ?_
  rintro e w1 ⟨rfl, hb1⟩
  have S1 := S0.on hb1
  have k1 := (S1.nth 0 rfl).six
  have k2 := (S1.nth 2 rfl).six
  have S2 := ((S1.put0 (i := 1) hd (.int .i64 t)).put0 (i := 2) hd (.int .i64 u))
  simp only [List.setIfInBounds_toArray, List.set_cons_zero, List.set_cons_succ] at S2
  clear S0 S1 hb1
  go_wp2_with fail
  generalize ((w1.setCell ⟨w.heap.size + 1 + 1, 1, none⟩ (.int .i64 t)).setCell ⟨w.heap.size + 1 + 1, 2, none⟩ (.int .i64 u)) = W2 at S2 ⊢
  clear k1 k2
  refine (toPast_any a c ts W2 hn ((ht.on S2.below).up S2.base)).mono ?_
  rintro e w3 ⟨g, cur, rfl, hg, hB, hsz, hcur, hb3⟩
  have hr := S2.room
  have hbase := S2.base
  have S3 := S2.on hb3
  have k1 := (S3.nth 0 rfl).six
  have k2 := (S3.nth 1 rfl).six
  have k3 := (S3.nth 2 rfl).six
  have hl := S3.below
  have HC := hide hcur
  clear hcur S2 S3 ht
  go_wp2
  refine bodyPost_ret (v := .agg (verC k t u (some ⟨g, 0, none⟩) ts.length ts.length s b)) (by simp [results, Tryz.results137, go_sem, k2]) rfl ?_
  exact ⟨g, cur, rfl, by omega, (((((((((hB.aside (by simp; omega) _).aside (by simp; omega) _).aside (by simp; omega) _).aside (by simp; omega) _).aside (by simp; omega) _).aside (by simp; omega) _).aside (by simp; omega) _).aside (by simp; omega) _).aside (by simp; omega) _), hsz, HC.out, below_set6 (((hl.setCell (by simp; omega) _).setCell (by simp; omega) _).setCell (by simp; omega) _) (by omega) _ _ _ _ _ _⟩

set_option maxRecDepth 100000 in
set_option maxHeartbeats 2000000 in
theorem eqVer_same (k t u : Int) (a a' : Option Addr) (c c' : Nat) (ts : List (Int × Int)) (s : ByteArray) (b : Bool) (w : World) (hn : ts.length ≤ 1048576) (ht : Tg w w.heap.size a ts) (hu : Tg w w.heap.size a' ts) :
    Calls Tryz.prog 138 #[.agg (verC k t u a ts.length c s b), .agg (verC k t u a' ts.length c' s b)] w fun e w' => e = .returned (.bool true) ∧ Below w.heap.size w w' := by
  have S0 := ((Inv.start w).box 51 (verC k t u a ts.length c s b)).box 51 (verC k t u a' ts.length c' s b)
  simp only [World.size_alloc] at S0
  have he : eqB t u t u = true := by simp [eqB]
  go_enter Tryz.func138, Tryz.ntmps138
  go_wp2_with fail
  refine (eqTag_any _ _ _ _ _).mono ?_
  rintro e w1 ⟨rfl, hb1⟩
  rw [he]
  have S1 := S0.on hb1
  have k1 := (S1.nth 0 rfl).six.1
  have k2 := (S1.nth 1 rfl).six.1
  clear S0 hb1
  go_wp2_with fail
  refine (eqPast_any _ _ _ _ ts ts _ hn hn ((ht.on S1.below).up S1.base) ((hu.on S1.below).up S1.base)).mono ?_
  rintro e w2 ⟨rfl, hb2⟩
  rw [decide_eq_true rfl]
  have S2 := S1.on hb2
  clear k1 k2 S1 hb2
  have k1 := (S2.nth 0 rfl).six.1
  have k2 := (S2.nth 1 rfl).six.1
  go_wp2
  go_ret
  exact ⟨rfl, S2.below⟩
end Go.Proofs.YtjnloillcgeodaaGreat
