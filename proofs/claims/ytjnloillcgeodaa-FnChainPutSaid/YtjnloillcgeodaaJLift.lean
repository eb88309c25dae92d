/- Contracts of the laws' small functions on slices of tags: their size, their copy, whether two are the same. Condition: at most 1048576 tags where memory is made. -/
import Derived.Test.YtjnloillcgeodaaProg
import Derived.Test.YtjnloillcgeodaaJTags
import Derived.WalkLawsBesides
import Derived.Laws.MakeOwn
import Derived.Test.YtjnloillcgeodaaRows
import Derived.WalkKit
import Derived.ProofKit
import Derived.OpenShut
import Derived.ChangeOld
import Derived.Below
import Derived.Carry
import Derived.Lib.SmallJoins
import Derived.Deep.Slices
import Derived.Deep.QuietTactic
import Derived.BigQuiet
import Derived.Deep.DeepCutAuto
import Derived.Laws.BitsAllLaws
import Derived.Laws.BitsLemmas
import Derived.IntWalk
import Derived.Deep.RegionHeld3
namespace Go.Proofs.Ytjnloillcgeodaa
open Go.RowKit Go.Joins

/-- The two cells of a tag at place i of a row of cells. -/
def TagAt (cur : Array Value) (i : Nat) (x : Int × Int) : Prop := cur[i * 2]? = some (.int .i64 x.1) ∧ cur[i * 2 + 1]? = some (.int .i64 x.2)

theorem tagAt_put {cur : Array Value} {k : Nat} {x : Int × Int} (h : k * 2 + 1 < cur.size) : TagAt ((cur.setIfInBounds (k * 2) (.int .i64 x.1)).setIfInBounds (k * 2 + 1) (.int .i64 x.2)) k x := by
  refine ⟨?_, ?_⟩
  · rw [Array.getElem?_setIfInBounds_ne (by omega), Array.getElem?_setIfInBounds_self_of_lt (by omega)]
  · rw [Array.getElem?_setIfInBounds_self_of_lt (by simp; omega)]
theorem tagAt_other {cur : Array Value} {j k : Nat} {x : Int × Int} {a b : Value} (hj : j ≠ k) (h : TagAt cur j x) : TagAt ((cur.setIfInBounds (k * 2) a).setIfInBounds (k * 2 + 1) b) j x := by
  refine ⟨?_, ?_⟩
  · rw [Array.getElem?_setIfInBounds_ne (by omega), Array.getElem?_setIfInBounds_ne (by omega)]
    exact h.1
  · rw [Array.getElem?_setIfInBounds_ne (by omega), Array.getElem?_setIfInBounds_ne (by omega)]
    exact h.2
/-- One tag more is in its place. -/
theorem tagAt_step {cur : Array Value} {k : Nat} {ts : List (Int × Int)} {y : Int × Int} (h : k * 2 + 1 < cur.size) (hy : ts[k]? = some y) (hc : ∀ j x, j < k → ts[j]? = some x → TagAt cur j x) :
    ∀ j x, j < k + 1 → ts[j]? = some x → TagAt ((cur.setIfInBounds (k * 2) (.int .i64 y.1)).setIfInBounds (k * 2 + 1) (.int .i64 y.2)) j x := by
  intro j x hj hx
  by_cases e : j = k
  · subst e
    rw [hy] at hx
    injection hx with hx
    subst hx
    exact tagAt_put h
  · exact tagAt_other e (hc j x (by omega) hx)

/-- A slice that reads as these tags, in old memory (below block B). -/
def Tg (w : World) (B : Nat) (a : Option Addr) (ts : List (Int × Int)) : Prop :=
  ts = [] ∨ ∃ b off : Nat, a = some ⟨b, off, none⟩ ∧ b < B ∧ ∀ i x, ts[i]? = some x → w.cell? ⟨b, off + i * 2, none⟩ = some (.int .i64 x.1) ∧ w.cell? ⟨b, off + i * 2 + 1, none⟩ = some (.int .i64 x.2)
theorem Tg.keep {w w' : World} {B : Nat} {a : Option Addr} {ts : List (Int × Int)} (h : Tg w B a ts) (hk : ∀ p : Addr, p.block < B → w'.cell? p = w.cell? p) : Tg w' B a ts := by
  rcases h with h | ⟨b, off, ha, hb, hx⟩
  · exact .inl h
  · exact .inr ⟨b, off, ha, hb, fun i x hi => ⟨(hk ⟨b, off + i * 2, none⟩ hb).trans (hx i x hi).1, (hk ⟨b, off + i * 2 + 1, none⟩ hb).trans (hx i x hi).2⟩⟩
theorem Tg.on {w w' : World} {B : Nat} {a : Option Addr} {ts : List (Int × Int)} (h : Tg w B a ts) (hb : Below B w w') : Tg w' B a ts := h.keep fun _ hp => hb.cell hp
theorem Tg.up {w : World} {B B' : Nat} {a : Option Addr} {ts : List (Int × Int)} (h : Tg w B a ts) (hB : B ≤ B') : Tg w B' a ts := by
  rcases h with h | ⟨b, off, ha, hb, hx⟩
  · exact .inl h
  · exact .inr ⟨b, off, ha, by omega, hx⟩
theorem Tg.of {w : World} {B g : Nat} {T : TypeId} {cur : Array Value} {ts : List (Int × Int)} (hb : Blk w g T cur) (hg : g < B) (h : ∀ i x, ts[i]? = some x → TagAt cur i x) : Tg w B (some ⟨g, 0, none⟩) ts :=
  .inr ⟨g, 0, rfl, hg, fun i x hi => by
    have := h i x hi
    exact ⟨by rw [Nat.zero_add, hb.at]; exact this.1, by rw [Nat.zero_add, hb.at]; exact this.2⟩⟩

set_option maxHeartbeats 400000 in
theorem szTagS_fits (a : Option Addr) (n c : Nat) (left : Int) (w : World) (h0 : left ≤ 1048576) (hn : (n : Int) ≤ left) :
    Calls Try.prog 133 #[.slice a n c, .int .i64 left] w fun e w' => e = .returned (.int .i64 (left - n)) ∧ w = w' := by
  have h1 : ¬ (left - (n : Int) < 0) := by omega
  go_enter Try.func133, Try.ntmps133
  go_wp2
  go_ret
  exact ⟨rfl, rfl⟩
set_option maxHeartbeats 400000 in
theorem szTagS_not (a : Option Addr) (n c : Nat) (left : Int) (w : World) (h0 : left ≤ 1048576) (h00 : 0 ≤ left) (hm : n ≤ 9223372036854775807) (hn : left < (n : Int)) :
    Calls Try.prog 133 #[.slice a n c, .int .i64 left] w fun e w' => e = .returned (.int .i64 (-1)) ∧ w = w' := by
  have h1 : left - (n : Int) < 0 := by omega
  go_enter Try.func133, Try.ntmps133
  go_wp2
  go_ret
  exact ⟨rfl, rfl⟩
set_option maxHeartbeats 400000 in
theorem szPast_fits (a : Option Addr) (n c : Nat) (left : Int) (w : World) (h0 : left ≤ 1048576) (hn : (n : Int) ≤ left) :
    Calls Try.prog 125 #[.agg #[.slice a n c], .int .i64 left] w fun e w' => e = .returned (.int .i64 (left - n)) ∧ Below w.heap.size w w' := by
  have h1 : ¬ (left - (n : Int) < 0) := by omega
  go_enter Try.func125, Try.ntmps125
  go_wp2_with fail
  refine (szTagS_fits a n c left _ h0 hn).mono ?_
  rintro e w1 ⟨rfl, rfl⟩
  go_wp2
  go_ret
  exact ⟨rfl, (Below.refl _ _).alloc (Nat.le_refl _) _⟩
set_option maxHeartbeats 400000 in
theorem szPast_not (a : Option Addr) (n c : Nat) (left : Int) (w : World) (h0 : left ≤ 1048576) (h00 : 0 ≤ left) (hm : n ≤ 9223372036854775807) (hn : left < (n : Int)) :
    Calls Try.prog 125 #[.agg #[.slice a n c], .int .i64 left] w fun e w' => e = .returned (.int .i64 (-1)) ∧ Below w.heap.size w w' := by
  go_enter Try.func125, Try.ntmps125
  go_wp2_with fail
  refine (szTagS_not a n c left _ h0 h00 hm hn).mono ?_
  rintro e w1 ⟨rfl, rfl⟩
  go_wp2
  go_ret
  exact ⟨rfl, (Below.refl _ _).alloc (Nat.le_refl _) _⟩

theorem tag_info : (Try.prog.info? 27).map (fun i => (i.zero, i.size, i.bytes)) = some (some (.agg #[.int .i64 0, .int .i64 0]), 2, 16) := by kernel_rfl

/-- What toTagS leaves: the tags in a new block of its own. -/
def CopiedS (w : World) (ts : List (Int × Int)) (e : Ending) (w' : World) : Prop :=
  ∃ (g : Nat) (cur : Array Value), e = .returned (.slice (some ⟨g, 0, none⟩) ts.length ts.length) ∧ w.heap.size ≤ g ∧ Blk w' g 27 cur ∧ cur.size = ts.length * 2 ∧ (∀ i x, ts[i]? = some x → TagAt cur i x) ∧ Below w.heap.size w w'

set_option maxRecDepth 100000 in
set_option maxHeartbeats 1000000 in
theorem toTagS_any (a : Option Addr) (c : Nat) (ts : List (Int × Int)) (w : World) (hn : ts.length ≤ 1048576) (ht : Tg w w.heap.size a ts) :
    Calls Try.prog 134 #[.slice a ts.length c] w (CopiedS w ts) := by
  obtain ⟨i0, hi0, hz0, hz1, hz2⟩ := info_parts tag_info
  have hmk : ∀ W : World, (Instr.makeSlice 28 (.int .i64 (ts.length : Int)) (.int .i64 (ts.length : Int))).run Try.prog W = .ok (.slice (some ⟨W.heap.size, 0, none⟩) ts.length ts.length) (W.alloc (.cells (madeCells (Value.agg #[.int .i64 0, .int .i64 0]).cells (ts.length * 2)) 27)) := by
    intro W
    have hr := run_make (P := Try.prog) W 28 27 i0 _ Try.underlying28 hi0 hz0 .i64 .i64 (ts.length : Int) (ts.length : Int) (by omega) (by omega) (by rw [hz2]; omega) (by omega)
    rw [hz1] at hr
    simpa using hr
  generalize hn' : ts.length = n at *
  have HN := hide hn'
  clear hn'
  go_enter Try.func134, Try.ntmps134
  go_wp2
  clear hmk hi0 hz0 hz1 hz2
  have B0 := Blk.made w 27 (madeCells #[.int .i64 0, .int .i64 0] (n * 2))
  have L0 := below_alloc1 w (.cells (madeCells #[.int .i64 0, .int .i64 0] (n * 2)) 27)
  go_loopw [4] (fun i wr => ∃ (k : Nat) (cur : Array Value), k ≤ n ∧ i = .int .i64 (k : Int) ∧ Blk wr w.heap.size 27 cur ∧ cur.size = n * 2 ∧ (∀ j x, j < k → ts[j]? = some x → TagAt cur j x) ∧ Below w.heap.size w wr) (fun i _ => n - (intOf i).toNat)
  case atStart => exact ⟨0, _, Nat.zero_le _, rfl, B0, size_madeCells _ _, fun j x hj => absurd hj (by omega), L0⟩
  case round =>
    obtain ⟨k, cur, hk, rfl, hB, hsz, hcur, hL⟩ := hrel
    by_cases hlt : k < n
    · rcases ht with h0 | ⟨b, off, rfl, hb, hx⟩
      · have := HN.out; subst h0; simp at this; omega
      · have hkl : k < ts.length := by have := HN.out; omega
        obtain ⟨hc0, hc1⟩ := hx k _ (List.getElem?_eq_getElem hkl)
        have c0 := (hL.cell (p := ⟨b, off + k * 2, none⟩) hb).trans hc0
        have c1 := (hL.cell (p := ⟨b, off + k * 2 + 1, none⟩) hb).trans hc1
        generalize hy : ts[k] = y at c0 c1
        have HY := hide hy
        clear hc0 hc1 hy
        go_wp2_with fail
        refine (toTag_any _ _ _).mono ?_
        rintro e w1 ⟨rfl, hb1⟩
        have B1 := hB.on hb1
        have hs0 : k * 2 < cur.size := by omega
        have hs1 : k * 2 + 1 < cur.size := by omega
        have d0 : w1.cell? ⟨w.heap.size, k * 2, none⟩ = some cur[k * 2] := by rw [B1.at]; exact Array.getElem?_eq_getElem hs0
        have d1 : w1.cell? ⟨w.heap.size, k * 2 + 1, none⟩ = some cur[k * 2 + 1] := by rw [B1.at]; exact Array.getElem?_eq_getElem hs1
        have f0 := B1.loose (k * 2)
        have f1 := B1.loose (k * 2 + 1)
        have HC := hide (tagAt_step hs1 ((List.getElem?_eq_getElem hkl).trans (congrArg some HY.out)) hcur)
        clear hcur
        go_wp2
        exact ⟨⟨k + 1, _, by omega, by go_num, (B1.put _ _).put _ _, by simp [hsz], HC.out, ((hL.trans (hb1.mono hL.size)).setCell (Nat.le_refl _) _).setCell (Nat.le_refl _) _⟩, by simp [intOf]; omega⟩
    · have hkn : k = n := by omega
      subst hkn
      clear hlt
      go_wp2
      go_ret
      have e := HN.out
      exact ⟨_, cur, by rw [e]; rfl, Nat.le_refl _, hB, by rw [e]; exact hsz, fun i x hx => hcur i x (by have := (List.getElem?_eq_some_iff.1 hx).1; omega) hx, hL⟩

/-- What toPast leaves. -/
def CopiedP (w : World) (ts : List (Int × Int)) (e : Ending) (w' : World) : Prop :=
  ∃ (g : Nat) (cur : Array Value), e = .returned (.agg #[.slice (some ⟨g, 0, none⟩) ts.length ts.length]) ∧ w.heap.size ≤ g ∧ Blk w' g 27 cur ∧ cur.size = ts.length * 2 ∧ (∀ i x, ts[i]? = some x → TagAt cur i x) ∧ Below w.heap.size w w'

set_option maxHeartbeats 1000000 in
theorem toPast_any (a : Option Addr) (c : Nat) (ts : List (Int × Int)) (w : World) (hn : ts.length ≤ 1048576) (ht : Tg w w.heap.size a ts) :
    Calls Try.prog 127 #[.agg #[.slice a ts.length c]] w (CopiedP w ts) := by
  have S0 := (((Inv.start w).box 150 #[.slice a ts.length c]).box 30 #[.slice none 0 0]).box 30 #[.slice none 0 0]
  simp only [World.size_alloc] at S0
  have T0 : Tg (((w.alloc (.cells #[.slice a ts.length c] 150)).alloc (.cells #[.slice none 0 0] 30)).alloc (.cells #[.slice none 0 0] 30)) w.heap.size a ts := ht.on S0.below
  go_enter Try.func127, Try.ntmps127
  go_wp2_with fail
  generalize (((w.alloc (.cells #[.slice a ts.length c] 150)).alloc (.cells #[.slice none 0 0] 30)).alloc (.cells #[.slice none 0 0] 30)) = W at S0 T0 ⊢
  refine (toTagS_any a c ts W hn (T0.up S0.base)).mono ?_
  rintro e w1 ⟨g, cur, rfl, hg, hB, hsz, hcur, hb1⟩
  have S1 := S0.on hb1
  have hr := S0.room
  have hl := S1.below
  obtain ⟨k0, f0⟩ := (S1.nth 0 rfl).one
  obtain ⟨k1, f1⟩ := (S1.nth 1 rfl).one
  have hW := S0.base
  have HC := hide hcur
  clear hcur S0 S1 T0 ht
  go_wp2
  refine bodyPost_ret (v := .agg #[.slice (some ⟨g, 0, none⟩) ts.length ts.length]) (by simp [results, Try.results127, go_sem, k1]) rfl ?_
  exact ⟨g, cur, rfl, by omega, (hB.aside (by simp; omega) _).aside (by simp; omega) _, hsz, HC.out, (hl.setCell (by simp; omega) _).setCell (by simp) _⟩

theorem take_eq_step {ts us : List (Int × Int)} {k : Nat} {x y : Int × Int} (hx : ts[k]? = some x) (hy : us[k]? = some y) (h : ts.take k = us.take k) (hxy : x = y) : ts.take (k + 1) = us.take (k + 1) := by
  rw [List.take_add_one, List.take_add_one, h, hx, hy, hxy]

set_option maxRecDepth 100000 in
set_option maxHeartbeats 1000000 in
theorem eqTagS_any (a a' : Option Addr) (c c' : Nat) (ts us : List (Int × Int)) (w : World) (hn : ts.length ≤ 1048576) (_hn' : us.length ≤ 1048576) (ht : Tg w w.heap.size a ts) (hu : Tg w w.heap.size a' us) :
    Calls Try.prog 135 #[.slice a ts.length c, .slice a' us.length c'] w fun e w' => e = .returned (.bool (decide (ts = us))) ∧ Below w.heap.size w w' := by
  by_cases hlen : ts.length = us.length
  · have hd : Hid (ts.take ts.length = us.take us.length ↔ ts = us) := by unfold Hid; rw [List.take_length, List.take_length]
    generalize hnn : ts.length = n at *
    rw [← hlen] at hd ⊢
    have HN := hide hnn
    have HL := hide hlen
    clear hnn hlen
    go_enter Try.func135, Try.ntmps135
    go_wp2
    go_loopw [5] (fun i wr => ∃ k : Nat, k ≤ n ∧ i = .int .i64 (k : Int) ∧ Hid (ts.take k = us.take k) ∧ Below w.heap.size w wr) (fun i _ => n - (intOf i).toNat)
    case atStart => exact ⟨0, Nat.zero_le _, rfl, by simp [Hid], Below.refl _ _⟩
    case round =>
      obtain ⟨k, hk, rfl, heq, hL⟩ := hrel
      by_cases hlt : k < n
      · rcases ht with h0 | ⟨b, off, rfl, hb, hx⟩
        · have := HN.out; subst h0; simp at this; omega
        · rcases hu with h0 | ⟨b', off', rfl, hb', hx'⟩
          · have := HL.out; subst h0; simp at this; omega
          · have hkl : k < ts.length := by have := HN.out; omega
            have hkl' : k < us.length := by have := HL.out; omega
            obtain ⟨hc0, hc1⟩ := hx k _ (List.getElem?_eq_getElem hkl)
            obtain ⟨hd0, hd1⟩ := hx' k _ (List.getElem?_eq_getElem hkl')
            have c0 := (hL.cell (p := ⟨b, off + k * 2, none⟩) hb).trans hc0
            have c1 := (hL.cell (p := ⟨b, off + k * 2 + 1, none⟩) hb).trans hc1
            have d0 := (hL.cell (p := ⟨b', off' + k * 2, none⟩) hb').trans hd0
            have d1 := (hL.cell (p := ⟨b', off' + k * 2 + 1, none⟩) hb').trans hd1
            have HX := hide (List.getElem?_eq_getElem hkl)
            have HY := hide (List.getElem?_eq_getElem hkl')
            generalize ts[k] = x at c0 c1 HX
            generalize us[k] = y at d0 d1 HY
            obtain ⟨x1, x2⟩ := x
            obtain ⟨y1, y2⟩ := y
            simp only at c0 c1 d0 d1
            clear hc0 hc1 hd0 hd1 hx hx'
            have i1 : (0 : Int) ≤ (k : Int) := by omega
            have i2 : (k : Int) < (n : Int) := by omega
            go_wp2_with fail
            refine wp_region_noPanic ?_
            refine wp_region_held_drew (S := (fun w' => w'.cell? ⟨b, off + k * 2, none⟩ = some (.int .i64 x1) ∧ w'.cell? ⟨b, off + k * 2 + 1, none⟩ = some (.int .i64 x2) ∧ w'.cell? ⟨b', off' + k * 2, none⟩ = some (.int .i64 y1) ∧ w'.cell? ⟨b', off' + k * 2 + 1, none⟩ = some (.int .i64 y2) ∧ Below w.heap.size w w')) (by kernel_rfl) (by exact ⟨c0, c1, d0, d1, hL.drew⟩) (fun hHeld => ?_)
            refine take_run 0 (some 17) (v := ?_) rfl rfl (by kernel_rfl) (by kernel_rfl) (by kernel_rfl) (fun _ _ _ h => h) (by rfl) ?_ hHeld ?_
            rotate_left
            · ((intro w hSw); (try dsimp only at hSw); go_simp <;> with_reducible rfl)
            simp only [Act.put, List.setIfInBounds_toArray, List.set_cons_zero, List.set_cons_succ]
            refine take_run 1 (some 18) (v := ?_) rfl rfl (by kernel_rfl) (by kernel_rfl) (by kernel_rfl) (fun _ _ _ h => h) (by rfl) ?_ hHeld ?_
            rotate_left
            · ((intro w hSw); (try dsimp only at hSw); go_simp <;> with_reducible rfl)
            simp only [Act.put, List.setIfInBounds_toArray, List.set_cons_zero, List.set_cons_succ]
            refine take_run 2 (some 19) (v := ?_) rfl rfl (by kernel_rfl) (by kernel_rfl) (by kernel_rfl) (fun _ _ _ h => h) (by rfl) ?_ hHeld ?_
            rotate_left
            · ((intro w hSw); (try dsimp only at hSw); go_simp <;> with_reducible rfl)
            simp only [Act.put, List.setIfInBounds_toArray, List.set_cons_zero, List.set_cons_succ]
            refine take_run 3 (some 20) (v := ?_) rfl rfl (by kernel_rfl) (by kernel_rfl) (by kernel_rfl) (fun _ _ _ h => h) (by rfl) ?_ hHeld ?_
            rotate_left
            · ((intro w hSw); (try dsimp only at hSw); go_simp <;> with_reducible rfl)
            simp only [Act.put, List.setIfInBounds_toArray, List.set_cons_zero, List.set_cons_succ]
            refine take_run 4 (some 21) (v := ?_) rfl rfl (by kernel_rfl) (by kernel_rfl) (by kernel_rfl) (fun _ _ _ h => h) (by rfl) ?_ hHeld ?_
            rotate_left
            · ((intro w hSw); (try dsimp only at hSw); go_simp <;> with_reducible rfl)
            simp only [Act.put, List.setIfInBounds_toArray, List.set_cons_zero, List.set_cons_succ]
            refine take_run 5 (some 22) (v := ?_) rfl rfl (by kernel_rfl) (by kernel_rfl) (by kernel_rfl) (fun _ _ _ h => h) (by rfl) ?_ hHeld ?_
            rotate_left
            · ((intro w hSw); (try dsimp only at hSw); go_simp <;> with_reducible rfl)
            simp only [Act.put, List.setIfInBounds_toArray, List.set_cons_zero, List.set_cons_succ]
            refine take_run 6 (some 23) (v := ?_) rfl rfl (by kernel_rfl) (by kernel_rfl) (by kernel_rfl) (fun _ _ _ h => h) (by rfl) ?_ hHeld ?_
            rotate_left
            · ((intro w hSw); (try dsimp only at hSw); go_simp <;> with_reducible rfl)
            simp only [Act.put, List.setIfInBounds_toArray, List.set_cons_zero, List.set_cons_succ]
            refine take_run 7 (some 24) (v := ?_) rfl rfl (by kernel_rfl) (by kernel_rfl) (by kernel_rfl) (fun _ _ _ h => h) (by rfl) ?_ hHeld ?_
            rotate_left
            · ((intro w hSw); (try dsimp only at hSw); go_simp <;> with_reducible rfl)
            simp only [Act.put, List.setIfInBounds_toArray, List.set_cons_zero, List.set_cons_succ]
            refine take_one 8 (by kernel_rfl) rfl (fun K hK => ?_)
            go_simp
            (refine (eqTag_any _ _ _ _ _).mono ?_; rintro e w1 ⟨rfl, hb1⟩)
            try go_wp2_with fail
            refine hK.out _ _ (by exact ⟨(hb1.cell (p := ⟨b, off + k * 2, none⟩) (Nat.lt_of_lt_of_le hb hHeld.2.2.2.2.size)).trans hHeld.1, (hb1.cell (p := ⟨b, off + k * 2 + 1, none⟩) (Nat.lt_of_lt_of_le hb hHeld.2.2.2.2.size)).trans hHeld.2.1, (hb1.cell (p := ⟨b', off' + k * 2, none⟩) (Nat.lt_of_lt_of_le hb' hHeld.2.2.2.2.size)).trans hHeld.2.2.1, (hb1.cell (p := ⟨b', off' + k * 2 + 1, none⟩) (Nat.lt_of_lt_of_le hb' hHeld.2.2.2.2.size)).trans hHeld.2.2.2.1, hHeld.2.2.2.2.trans (hb1.mono hHeld.2.2.2.2.size)⟩) (fun hHeld => ?_)
            clear hK K
            refine take_run 9 (some 26) (v := ?_) rfl rfl (by kernel_rfl) (by kernel_rfl) (by kernel_rfl) (fun _ _ _ h => h) (by rfl) ?_ hHeld ?_
            rotate_left
            · ((intro w hSw); (try dsimp only at hSw); go_simp <;> with_reducible rfl)
            simp only [Act.put, List.setIfInBounds_toArray, List.set_cons_zero, List.set_cons_succ]
            refine wpAnyH_done (by kernel_rfl) ?_ _
            refine NoPanic.normal ?_
            have hL2 := hHeld.2.2.2.2
            clear hHeld c0 c1 d0 d1 hL
            by_cases hxy : x1 = y1 ∧ x2 = y2
            · obtain ⟨rfl, rfl⟩ := hxy
              rw [eqB_same]
              have HS := hide (take_eq_step HX.out HY.out heq.out rfl)
              clear heq
              go_wp2
              exact ⟨⟨k + 1, by omega, by go_num, HS, hL2⟩, by simp [intOf]; omega⟩
            · have he : eqB x1 x2 y1 y2 = false := decide_eq_false hxy
              rw [he]
              have hf : Hid (decide (ts = us) = false) := decide_eq_false (fun e => hxy (by
                have h1 := HX.out
                have h2 := HY.out
                rw [e, h2] at h1
                injection h1 with h1
                injection h1 with h3 h4
                exact ⟨h3.symm, h4.symm⟩))
              clear hxy he
              go_wp2
              go_ret
              exact ⟨ret_bool hf.out.symm, hL2⟩
      · have hkn : k = n := by omega
        subst hkn
        clear hlt
        have hf : Hid (decide (ts = us) = true) := decide_eq_true (hd.out.1 heq.out)
        clear heq
        go_wp2
        go_ret
        exact ⟨ret_bool hf.out.symm, hL⟩
  · have hd : Hid (decide (ts = us) = false) := decide_eq_false (fun e => hlen (by rw [e]))
    have hne : ((ts.length : Int) != (us.length : Int)) = true := by simp; omega
    clear hlen
    go_enter Try.func135, Try.ntmps135
    go_wp2
    go_ret
    exact ⟨ret_bool hd.out.symm, Below.refl _ _⟩

set_option maxHeartbeats 1000000 in
theorem eqPast_any (a a' : Option Addr) (c c' : Nat) (ts us : List (Int × Int)) (w : World) (hn : ts.length ≤ 1048576) (hn' : us.length ≤ 1048576) (ht : Tg w w.heap.size a ts) (hu : Tg w w.heap.size a' us) :
    Calls Try.prog 129 #[.agg #[.slice a ts.length c], .agg #[.slice a' us.length c']] w fun e w' => e = .returned (.bool (decide (ts = us))) ∧ Below w.heap.size w w' := by
  have S0 := ((Inv.start w).box 30 #[.slice a ts.length c]).box 30 #[.slice a' us.length c']
  simp only [World.size_alloc] at S0
  have T0 := ht.on S0.below
  have U0 := hu.on S0.below
  go_enter Try.func129, Try.ntmps129
  go_wp2_with fail
  generalize (w.alloc (.cells #[.slice a ts.length c] 30)).alloc (.cells #[.slice a' us.length c'] 30) = W at S0 T0 U0 ⊢
  refine (eqTagS_any a a' c c' ts us W hn hn' (T0.up S0.base) (U0.up S0.base)).mono ?_
  rintro e w1 ⟨rfl, hb1⟩
  have hl := (S0.on hb1).below
  by_cases hd : ts = us
  · rw [decide_eq_true hd]
    have HD := hide (decide_eq_true hd)
    clear hd S0 T0 U0 ht hu
    go_wp2
    go_ret
    exact ⟨ret_bool HD.out.symm, hl⟩
  · rw [decide_eq_false hd]
    have HD := hide (decide_eq_false hd)
    clear hd S0 T0 U0 ht hu
    go_wp2
    go_ret
    exact ⟨ret_bool HD.out.symm, hl⟩

end Go.Proofs.Ytjnloillcgeodaa
/- How a law's contract becomes the law's row: the program's closed facts, and that what was read before a call reads the same behind it where nothing old has turned. -/
namespace Go.Proofs.Ytjnloillcgeodaa
open Go.ChangeShapes Go.WideShapes Go.ChangeAt Go.RowKit Go.Joins

set_option maxRecDepth 100000 in
theorem own : ownKnob Try.prog.godebug = none := by kernel_rfl
set_option maxRecDepth 100000 in
theorem laidOut : laidOutB Try.prog = true := all_laid

set_option maxRecDepth 100000 in
/-- All arguments read behind the call as they did before it, if below the old heap nothing has turned. -/
theorem stay_all {H : Type} {enc : TypeId × Value → H} {W W' : World} (hb : Below W.heap.size W W') :
    ∀ {ts : List TypeId} {vs : List Value} {ds : List (DataW H)} {ps : List MemPlace},
      (∀ t ∈ ts, Try.prog.readableRec t = true ∧ t < Try.prog.types.size) → DataW.TrodAll enc Try.prog W 0 (fun _ => true) true ts vs ds ps →
      DataW.TrodAll enc Try.prog W' 0 (fun b => decide (b < W.heap.size)) true ts vs ds ps
  | [], vs, ds, ps, _, h => by
    obtain ⟨rfl, rfl, rfl⟩ := trodAll_nil h
    exact trodAll_mk0
  | t :: ts, vs, ds, ps, hr, h => by
    obtain ⟨v, vs', d, ds', p, q, rfl, rfl, rfl, h0, hs⟩ := trodAll_cons h
    have lt0 : ∀ x ∈ p, x.block < W.heap.size := by obtain ⟨m, hm⟩ := h0; exact DataW.trod_lt m _ _ _ hm
    exact trodAll_cons_mk (Below.trod laidOut (hr t (by simp)).1 (hr t (by simp)).2 h0 hb lt0) (stay_all hb (fun t' ht' => hr t' (by simp [ht'])) hs)

set_option maxRecDepth 100000 in
/-- A tag that came in, by value: two integers. -/
theorem read_tag {H : Type} {enc : TypeId × Value → H} {W : World} {base : Nat} {v : Value} {d : DataW H} {p : List MemPlace}
    (hv : Value.okWide Try.prog W .any base 147 v) (h : DataW.Trod enc Try.prog W 0 (fun _ => true) true 147 v d p) :
    ∃ t u : Int, v = .agg #[.int .i64 t, .int .i64 u] := by
  obtain ⟨c0, c1, y0, y1, m, rfl, rfl, rfl, hy0, hy1⟩ := open_agg2 Try.underlying147 (by kernel_rfl) (by kernel_rfl) hv h
  obtain ⟨a, e0, rfl, wa⟩ := DataW.trod_int Try.underlying3 hy0
  obtain ⟨b, e1, rfl, wb⟩ := DataW.trod_int Try.underlying3 hy1
  simp at e0 e1
  subst e0 e1
  exact ⟨a, b, rfl⟩

set_option maxRecDepth 100000 in
/-- Two cells of a tag that came in hold two integers. -/
theorem cells_tag {H : Type} {enc : TypeId × Value → H} {W : World} {fuel : Nat} {cs : List Value} {x : DataW H × List MemPlace}
    (h : DataW.trod enc Try.prog W 0 (fun _ => true) true fuel 147 cs = some x) : ∃ t u : Int, cs = [.int .i64 t, .int .i64 u] := by
  obtain ⟨ys, n, _, _, hlen, hyl, hf⟩ := DataW.trod_struct Try.underlying147 h
  have hc : Try.prog.cellsOf 147 = 2 := by kernel_rfl
  have hi : Try.prog.cellsOf 3 = 1 := by kernel_rfl
  rw [hc] at hlen
  match cs, hlen with
  | [c0, c1], _ =>
    have h0 := hf 0 _ rfl
    have h1 := hf 1 _ rfl
    simp [hi] at h0 h1
    match ys, hyl with
    | [y0, y1], _ =>
      simp at h0 h1
      obtain ⟨a, e0, _, _⟩ := DataW.trod_int Try.underlying3 h0
      obtain ⟨b, e1, _, _⟩ := DataW.trod_int Try.underlying3 h1
      simp at e0 e1
      subst e0 e1
      exact ⟨a, b, rfl⟩
set_option maxRecDepth 100000 in
/-- A slice of tags that came in: each can be read. -/
theorem read_tags {H : Type} {enc : TypeId × Value → H} {W : World} {fuel : Nat} {cs : List Value} {x : DataW H × List MemPlace}
    (h : DataW.trod enc Try.prog W 0 (fun _ => true) true fuel 148 cs = some x) :
    ∃ (a : Option Addr) (cap : Nat) (ts : List (Int × Int)), cs = [.slice a ts.length cap] ∧ Tg W W.heap.size a ts ∧ ts.length ≤ 9223372036854775807 := by
  rcases Go.Deep.open_slice Try.underlying148 h with ⟨h0, _⟩ | ⟨a, len, cap, m, n, D, Pl, hcs, _, hl, hm, hmm, _, hi⟩
  · exact ⟨none, 0, [], h0, .inl rfl, by simp⟩
  · have hc : Try.prog.cellsOf 147 = 2 := by kernel_rfl
    simp only [if_true] at hmm
    subst hmm
    have hall : ∀ i : Nat, ∃ y : Int × Int, i < len → W.cell? (a.add (i * 2)) = some (.int .i64 y.1) ∧ W.cell? ((a.add (i * 2)).add 1) = some (.int .i64 y.2) := by
      intro i
      by_cases hlt : i < len
      · obtain ⟨cs', hcells, ht⟩ := hi i (by omega)
        obtain ⟨t, u, rfl⟩ := cells_tag ht
        rw [hc] at hcells
        obtain ⟨_, _, hat⟩ := World.cells?_some hcells
        refine ⟨(t, u), fun _ => ⟨?_, ?_⟩⟩
        · have := hat 0 (by omega)
          simpa [Addr.add] using this
        · have := hat 1 (by omega)
          simpa using this
      · exact ⟨(0, 0), fun h => absurd h hlt⟩
    obtain ⟨f, hf⟩ := Classical.axiomOfChoice hall
    refine ⟨some a, m, (List.range len).map f, by simpa using hcs, ?_, by simp; unfold maxLen at hm; omega⟩
    by_cases h0 : len = 0
    · subst h0; exact .inl (by simp)
    · obtain ⟨b, off, spot⟩ := a
      have hc0 := (hf 0 (by omega)).1
      have hspot : spot = none := by simpa [Addr.add] using World.cell?_spot hc0
      subst hspot
      refine .inr ⟨b, off, rfl, ?_, fun i y hy => ?_⟩
      · apply Classical.byContradiction
        intro hn
        have : W.heap[b]? = none := Array.getElem?_eq_none (by omega)
        simp [Addr.add, World.cell?, this] at hc0
      · simp only [List.getElem?_map, Option.map_eq_some_iff] at hy
        obtain ⟨j, hj, rfl⟩ := hy
        have hji := List.getElem?_eq_some_iff.1 hj
        obtain ⟨hlt, e⟩ := hji
        simp at hlt e
        subst e
        have h1 := hf i hlt
        have e1 : (⟨b, off, none⟩ : Addr).add (i * 2) = ⟨b, off + i * 2, none⟩ := by
          unfold Addr.add
          by_cases hi0 : i * 2 = 0
          · simp [hi0]
          · simp [hi0]
        rw [e1] at h1
        exact ⟨h1.1, by simpa [Addr.add] using h1.2⟩
set_option maxRecDepth 100000 in
/-- A vector of tags that came in: its tags can be read. -/
theorem read_past {H : Type} {enc : TypeId × Value → H} {W : World} {base : Nat} {v : Value} {d : DataW H} {p : List MemPlace}
    (hv : Value.okWide Try.prog W .any base 150 v) (h : DataW.Trod enc Try.prog W 0 (fun _ => true) true 150 v d p) :
    ∃ (a : Option Addr) (cap : Nat) (ts : List (Int × Int)), v = .agg #[.slice a ts.length cap] ∧ Tg W W.heap.size a ts ∧ ts.length ≤ 9223372036854775807 := by
  obtain ⟨cs, rfl, hsz⟩ := okWide_struct Try.underlying150 hv
  have hc : Try.prog.cellsOf 150 = 1 := by kernel_rfl
  have hk : Try.prog.cellsOf 148 = 1 := by kernel_rfl
  obtain ⟨l⟩ := cs
  match l, hsz.trans hc with
  | [c0], _ =>
    obtain ⟨fuel, hf⟩ := h
    obtain ⟨xs, n, _, _, _, hlen, hg⟩ := DataW.trod_struct Try.underlying150 hf
    have h0 := hg 0 _ rfl
    simp [Value.cells, hk] at h0
    match xs, hlen with
    | [y0], _ =>
      simp at h0
      obtain ⟨a, cap, ts, e, ht, hl⟩ := read_tags h0
      simp at e
      exact ⟨a, cap, ts, by rw [e], ht, hl⟩
end Go.Proofs.Ytjnloillcgeodaa
/- Contracts of the reader of a code (spec.l20Rd): what it draws is within bounds, whatever the code. Condition: the code has at most 2000 bytes, as spec.l20Open leaves it. -/
namespace Go.Proofs.Ytjnloillcgeodaa
open Go.RowKit Go.Joins

/-- A slice of bytes that can be read: below block n, in another block than g. -/
def Bytes (w : World) (g : Nat) (a : Option Addr) (len : Nat) : Prop :=
  len = 0 ∨ ∃ b off : Nat, a = some ⟨b, off, none⟩ ∧ b ≠ g ∧ b < w.heap.size ∧ ∀ i : Nat, i < len → ∃ x : Int, 0 ≤ x ∧ x ≤ 255 ∧ w.cell? ⟨b, off + i, none⟩ = some (.int .u8 x)

/-- The reader in block g, over these bytes, has drawn at most m times. -/
structure Rd (w : World) (g : Nat) (a : Option Addr) (len cap m : Nat) : Prop where
  blk : ∃ p : Int, 0 ≤ p ∧ p ≤ m ∧ Blk w g 104 #[.slice a len cap, .int .i64 p]
  most : m ≤ 1000000
  short : len ≤ 2000
  fits : len ≤ cap
  bytes : Bytes w g a len

theorem Bytes.kept {w w' : World} {g : Nat} {a : Option Addr} {len : Nat} (h : Bytes w g a len) (hb : w.grownBy w' (some g)) : Bytes w' g a len := by
  rcases h with h | ⟨b, off, ha, hne, hlt, hx⟩
  · exact .inl h
  · refine .inr ⟨b, off, ha, hne, Nat.lt_of_lt_of_le hlt hb.size, fun i hi => ?_⟩
    obtain ⟨x, h0, h1, hc⟩ := hx i hi
    exact ⟨x, h0, h1, (World.cell?_of_block (hb.block b hlt (fun e => hne (by injection e)))).trans hc⟩
theorem Rd.more {w : World} {g : Nat} {a : Option Addr} {len cap m : Nat} (h : Rd w g a len cap m) (k : Nat) (hk : m ≤ k) (h1 : k ≤ 1000000) : Rd w g a len cap k := by
  obtain ⟨⟨p, h0, hp, hb⟩, _, h2, h3, h4⟩ := h
  exact ⟨⟨p, h0, by omega, hb⟩, h1, h2, h3, h4⟩

/-- What a draw leaves: an integer from 0 to n - 1 (0 where there is no choice); the reader went on by at most d. -/
def Drawn (w : World) (g : Nat) (a : Option Addr) (len cap m : Nat) (d : Nat) (P : Int → Prop) (e : Ending) (w' : World) : Prop :=
  ∃ x : Int, P x ∧ e = .returned (.int .i64 x) ∧ w.grownBy w' (some g) ∧ Rd w' g a len cap (m + d)

def PickOk (n x : Int) : Prop := 0 ≤ x ∧ (1 ≤ n → x < n)

theorem ofInt_small (a : Nat) (ha : a < 9223372036854775808) : (BitVec.ofInt 64 (a : Int)).toNat = a := by
  rw [BitVec.ofInt_natCast, BitVec.toNat_ofNat]
  exact Nat.mod_eq_of_lt (by omega)
theorem xor_fits (x : Int) (h0 : 0 ≤ x) (h1 : x ≤ 1000000000) : 0 ≤ bits .xor .i64 x (x / 64) ∧ bits .xor .i64 x (x / 64) ≤ 4294967296 := by
  obtain ⟨n, rfl⟩ := Int.eq_ofNat_of_zero_le h0
  have e : (n : Int) / 64 = ((n / 64 : Nat) : Int) := by omega
  rw [e]
  have hx : n ^^^ (n / 64) < 2 ^ 32 := Nat.xor_lt_two_pow (by omega) (by omega)
  have hb : bits .xor .i64 (n : Int) ((n / 64 : Nat) : Int) = ((n ^^^ (n / 64) : Nat) : Int) := by
    show IntKind.i64.wrap ((BitVec.ofInt 64 (n : Int) ^^^ BitVec.ofInt 64 ((n / 64 : Nat) : Int)).toNat : Int) = _
    rw [BitVec.toNat_xor, ofInt_small n (by omega), ofInt_small (n / 64) (by omega), IntKind.wrap_i64]
    omega
  rw [hb]
  omega

set_option maxRecDepth 100000 in
set_option maxHeartbeats 1000000 in
theorem pick_any (w : World) (g : Nat) (a : Option Addr) (len cap m : Nat) (n : Int) (h : Rd w g a len cap m) (hm : m + 1 ≤ 1000000) (hn : n ≤ 1000000) :
    Calls Try.prog 64 #[.pointer (some ⟨g, 0, none⟩), .int .i64 n] w (Drawn w g a len cap m 1 (PickOk n)) := by
  obtain ⟨⟨p, hp0, hp1, hB⟩, _, hl, hlc, hby⟩ := h
  obtain ⟨k0, k1, k2, k3⟩ := hB.two
  have fin : ∀ (q : Nat) (x : Int), PickOk n x → Drawn w g a len cap m 1 (PickOk n) (.returned (.int .i64 x)) ((w.setCell ⟨g, 1, none⟩ (.int .i64 (p + 1))).drewN q) := by
    intro q x hx
    have hg : w.grownBy ((w.setCell ⟨g, 1, none⟩ (.int .i64 (p + 1))).drewN q) (some g) := ⟨rfl, rfl, rfl, by simp [World.setCell], fun i _ hne => Below.heap_setCell _ _ _ _ (by rintro rfl; exact hne rfl)⟩
    exact ⟨x, hx, rfl, hg, ⟨⟨p + 1, by omega, by push_cast; omega, hB.put 1 _⟩, hm, hl, hlc, hby.kept hg⟩⟩
  by_cases hn1 : n < 1
  · go_enter Try.func64, Try.ntmps64
    go_wp2
    go_ret
    exact fin 0 0 ⟨by omega, by omega⟩
  · by_cases hl0 : len = 0
    · subst hl0
      go_enter Try.func64, Try.ntmps64
      go_wp2
      go_ret
      exact fin 0 0 ⟨by omega, by omega⟩
    · rcases hby with h | ⟨b, off, rfl, hne, hlt, hx⟩
      · exact absurd h hl0
      · by_cases hk : p < len
        · obtain ⟨pn, rfl⟩ := Int.eq_ofNat_of_zero_le hp0
          obtain ⟨x, hx0, hx1, hc⟩ := hx pn (by omega)
          have hlb : ((len : Int) == 0) = false := by simp; omega
          go_enter Try.func64, Try.ntmps64
          go_wp2
          go_ret
          exact fin 0 _ ⟨Int.emod_nonneg _ (by omega), fun _ => Int.emod_lt_of_pos _ (by omega)⟩
        · obtain ⟨pn, rfl⟩ := Int.eq_ofNat_of_zero_le hp0
          have hlp : 0 < len := by omega
          obtain ⟨x, hx0, hx1, hc⟩ := hx (pn % len) (Nat.mod_lt _ hlp)
          obtain ⟨y, hy0, hy1, hd⟩ := hx ((pn * 7 + 3) % len) (Nat.mod_lt _ hlp)
          have hlb : ((len : Int) == 0) = false := by simp; omega
          go_enter Try.func64, Try.ntmps64
          go_upto_region 7 with (fail)
          go_cut [6] (fun s wx => ∃ z : Int, 0 ≤ z ∧ z ≤ 1000000000 ∧ s = .int .i64 z ∧ ∃ q, wx = (w.setCell ⟨g, 1, none⟩ (.int .i64 ((pn : Int) + 1))).drewN q)
          case first =>
            have c0 : (w.setCell ⟨g, 1, none⟩ (.int .i64 ((pn : Int) + 1))).cell? ⟨g, 0, none⟩ = some (.slice (some ⟨b, off, none⟩) len cap) := (hB.put 1 _).at 0
            have c1 : (w.setCell ⟨g, 1, none⟩ (.int .i64 ((pn : Int) + 1))).cell? ⟨b, off + pn % len, none⟩ = some (.int .u8 x) := by
              rw [World.cell?_setCell_other _ _ _ _ (by intro e; injection e with e1; exact hne e1.symm)]; exact hc
            have c2 : (w.setCell ⟨g, 1, none⟩ (.int .i64 ((pn : Int) + 1))).cell? ⟨b, off + (pn * 7 + 3) % len, none⟩ = some (.int .u8 y) := by
              rw [World.cell?_setCell_other _ _ _ _ (by intro e; injection e with e1; exact hne e1.symm)]; exact hd
            generalize hW : w.setCell ⟨g, 1, none⟩ (.int .i64 ((pn : Int) + 1)) = W at c0 c1 c2 ⊢
            have HW := hide hW
            clear hW
            clear k0 k1 k2 k3 hc hd hx fin hB
            have i1 : 0 ≤ (pn : Int) % (len : Int) := Int.emod_nonneg _ (by omega)
            have i2 : (pn : Int) % (len : Int) < (len : Int) := Int.emod_lt_of_pos _ (by omega)
            have i3 : 0 ≤ ((pn : Int) * 7 + 3) % (len : Int) := Int.emod_nonneg _ (by omega)
            have i4 : ((pn : Int) * 7 + 3) % (len : Int) < (len : Int) := Int.emod_lt_of_pos _ (by omega)
            have i5 : ((pn : Int) % (len : Int)).toNat = pn % len := by
              have e : (pn : Int) % (len : Int) = ((pn % len : Nat) : Int) := by push_cast; rfl
              rw [e]; exact Int.toNat_natCast _
            have i6 : (((pn : Int) * 7 + 3) % (len : Int)).toNat = (pn * 7 + 3) % len := by
              have e : ((pn : Int) * 7 + 3) % (len : Int) = (((pn * 7 + 3) % len : Nat) : Int) := by push_cast; rfl
              rw [e]; exact Int.toNat_natCast _
            have i7 : 0 ≤ (pn : Int) / (len : Int) := Int.ediv_nonneg (by omega) (by omega)
            have i8 : (pn : Int) / (len : Int) ≤ (pn : Int) := Int.ediv_le_self _ (by omega)
            go_quiet (fail)
            go_wp2_with fail
            go_meet
            exact ⟨_, by omega, by omega, rfl, nq, by rw [HW.out]⟩
          case rest =>
            obtain ⟨z, hz0, hz1, rfl, q, rfl⟩ := hcut
            obtain ⟨hf0, hf1⟩ := xor_fits z hz0 hz1
            go_wp2
            go_ret
            exact fin q _ ⟨Int.emod_nonneg _ (by omega), fun _ => Int.emod_lt_of_pos _ (by omega)⟩
end Go.Proofs.Ytjnloillcgeodaa
/- Contracts of the draws of tags: what is drawn are two integers, and the reader goes on. Condition: as in Draw. -/
namespace Go.Proofs.Ytjnloillcgeodaa
open Go.RowKit Go.Joins

theorem grown_below {w w' : World} {row : Option Nat} (h : Below w.heap.size w w') : w.grownBy w' row := ⟨h.os, h.tape, h.output, h.size, fun i hi _ => h.block i hi⟩
theorem grown_set {w w' : World} {g : Nat} (h : w.grownBy w' (some g)) {p : Addr} (hp : w.heap.size ≤ p.block) (u : Value) : w.grownBy (w'.setCell p u) (some g) :=
  ⟨h.os, h.tape, h.output, by simpa [World.setCell] using h.size, fun i hi hne => (Below.heap_setCell w' p u i (by omega)).trans (h.block i hi hne)⟩
theorem Bytes.on {w w' : World} {g : Nat} {a : Option Addr} {len : Nat} (h : Bytes w g a len) (hb : Below w.heap.size w w') : Bytes w' g a len := h.kept (grown_below hb)
theorem Rd.on {w w' : World} {g : Nat} {a : Option Addr} {len cap m : Nat} (h : Rd w g a len cap m) (hb : Below w.heap.size w w') : Rd w' g a len cap m := by
  obtain ⟨⟨p, h0, hp, hB⟩, h1, h2, h3, h4⟩ := h
  exact ⟨⟨p, h0, hp, hB.on hb⟩, h1, h2, h3, h4.on hb⟩
theorem Rd.alloc {w : World} {g : Nat} {a : Option Addr} {len cap m : Nat} (h : Rd w g a len cap m) (o : Obj) : Rd (w.alloc o) g a len cap m := h.on (below_alloc1 w o)
theorem Rd.inside {w : World} {g : Nat} {a : Option Addr} {len cap m : Nat} (h : Rd w g a len cap m) : g < w.heap.size := by
  obtain ⟨⟨p, h0, hp, hB⟩, _⟩ := h
  exact hB.inside
/-- A store into another block than the reader's, made since. -/
theorem Rd.set {w w' : World} {g : Nat} {a : Option Addr} {len cap m : Nat} (h : Rd w' g a len cap m) (hb : Bytes w g a len) (hg : g < w.heap.size) (hw : w.grownBy w' (some g)) {p : Addr} (hp : w.heap.size ≤ p.block) (u : Value) : Rd (w'.setCell p u) g a len cap m := by
  obtain ⟨⟨q, h0, hq, hB⟩, h1, h2, h3, _⟩ := h
  exact ⟨⟨q, h0, hq, hB.aside (by omega) u⟩, h1, h2, h3, hb.kept (grown_set hw hp u)⟩

/-- What a draw of a tag leaves. -/
def DrawnTag (w : World) (g : Nat) (a : Option Addr) (len cap m : Nat) (d : Nat) (P : Int → Int → Prop) (e : Ending) (w' : World) : Prop :=
  ∃ t p : Int, P t p ∧ e = .returned (.agg #[.int .i64 t, .int .i64 p]) ∧ w.grownBy w' (some g) ∧ Rd w' g a len cap (m + d)
/-- A small tag: nothing, or a time from 1 to 9 and a place. -/
def SmallTag (t p : Int) : Prop := t = 0 ∧ p = 0 ∨ 1 ≤ t ∧ t ≤ 9 ∧ 0 ≤ p ∧ p ≤ 2
/-- A tag of the drawn kinds, valid or not. -/
def AnyTag (t p : Int) : Prop := -1 ≤ t ∧ t ≤ 1000 ∧ -1 ≤ p ∧ p ≤ 3

set_option maxHeartbeats 1000000 in
theorem l20Tag_any (w : World) (g : Nat) (a : Option Addr) (len cap m : Nat) (h : Rd w g a len cap m) (hm : m + 3 ≤ 1000000) :
    Calls Try.prog 101 #[.pointer (some ⟨g, 0, none⟩)] w (DrawnTag w g a len cap m 3 SmallTag) := by
  have hg := h.inside
  have hby := h.bytes
  have h0 := h.alloc (.cells #[.int .i64 0, .int .i64 0] 27)
  have B0 := Blk.made w 27 #[.int .i64 0, .int .i64 0]
  have G0 := World.grownBy_alloc w (.cells #[.int .i64 0, .int .i64 0] 27) (some g)
  go_enter Try.func101, Try.ntmps101
  go_wp2_with fail
  refine (pick_any _ g a len cap m _ h0 (by omega) (by omega)).mono ?_
  rintro e w1 ⟨x, hx, rfl, hg1, h1⟩
  have B1 := B0.kept hg1 (by intro e; injection e; omega)
  have G1 := G0.trans hg1
  by_cases hx0 : x = 0
  · subst hx0
    obtain ⟨k0, k1, k2, k3⟩ := B1.two
    go_wp2
    refine bodyPost_ret (v := .agg #[.int .i64 0, .int .i64 0]) (by simp [results, Try.results101, go_sem, k0, k1]) rfl ?_
    exact ⟨0, 0, .inl ⟨rfl, rfl⟩, rfl, grown_set (grown_set G1 (Nat.le_refl _) _) (Nat.le_refl _) _, ((h1.set hby hg G1 (Nat.le_refl _) _).set hby hg (grown_set G1 (Nat.le_refl _) _) (Nat.le_refl _) _).more _ (by omega) hm⟩
  · have hxb : (x == 0) = false := by simpa using hx0
    go_wp2_with fail
    refine (pick_any _ g a len cap (m + 1) _ h1 (by omega) (by omega)).mono ?_
    rintro e w2 ⟨y, hy, rfl, hg2, h2⟩
    have B2 := B1.kept hg2 (by intro e; injection e; omega)
    have G2 := G1.trans hg2
    have hy0 := hy.1
    have hy1 := hy.2 (by omega)
    go_wp2_with fail
    refine (pick_any _ g a len cap (m + 1 + 1) _ h2 (by omega) (by omega)).mono ?_
    rintro e w3 ⟨z, hz, rfl, hg3, h3⟩
    have B3 := B2.kept hg3 (by intro e; injection e; omega)
    have G3 := G2.trans hg3
    obtain ⟨k0, k1, k2, k3⟩ := B3.two
    have hz0 := hz.1
    have hz1 := hz.2 (by omega)
    go_wp2
    refine bodyPost_ret (v := .agg #[.int .i64 (1 + y), .int .i64 z]) (by simp [results, Try.results101, go_sem, k0, k1]) rfl ?_
    exact ⟨1 + y, z, .inr ⟨by omega, by omega, by omega, by omega⟩, rfl, grown_set (grown_set G3 (Nat.le_refl _) _) (Nat.le_refl _) _, ((h3.set hby hg G3 (Nat.le_refl _) _).set hby hg (grown_set G3 (Nat.le_refl _) _) (Nat.le_refl _) _).more _ (by omega) hm⟩

/-- Any integer at all. -/
def AnyInt (lo hi x : Int) : Prop := lo ≤ x ∧ x ≤ hi

set_option maxHeartbeats 1000000 in
theorem one4_any (w : World) (g : Nat) (a : Option Addr) (len cap m c : Nat) (x0 x1 x2 x3 lo hi : Int) (h : Rd w g a len cap m) (hm : m + 1 ≤ 1000000) (hne : c ≠ g)
    (hB : Blk w c 3 #[.int .i64 x0, .int .i64 x1, .int .i64 x2, .int .i64 x3]) (hx0 : AnyInt lo hi x0) (hx1 : AnyInt lo hi x1) (hx2 : AnyInt lo hi x2) (hx3 : AnyInt lo hi x3) :
    Calls Try.prog 50 #[.pointer (some ⟨g, 0, none⟩), .slice (some ⟨c, 0, none⟩) 4 4] w (Drawn w g a len cap m 1 (AnyInt lo hi)) := by
  go_enter Try.func50, Try.ntmps50
  go_wp2_with fail
  refine (pick_any _ g a len cap m _ h (by omega) (by omega)).mono ?_
  rintro e w1 ⟨x, hx, rfl, hg1, h1⟩
  have B1 := hB.kept hg1 (by intro e; injection e; omega)
  have c0 := B1.at 0
  have c1 := B1.at 1
  have c2 := B1.at 2
  have c3 := B1.at 3
  have hxa := hx.1
  have hxb := hx.2 (by omega)
  have hcase : x = 0 ∨ x = 1 ∨ x = 2 ∨ x = 3 := by omega
  rcases hcase with rfl | rfl | rfl | rfl
  all_goals
    go_wp2
    go_ret
  · exact ⟨_, hx0, rfl, hg1, h1⟩
  · exact ⟨_, hx1, rfl, hg1, h1⟩
  · exact ⟨_, hx2, rfl, hg1, h1⟩
  · exact ⟨_, hx3, rfl, hg1, h1⟩

set_option maxHeartbeats 1000000 in
theorem l20AnyTag_any (w : World) (g : Nat) (a : Option Addr) (len cap m : Nat) (h : Rd w g a len cap m) (hm : m + 4 ≤ 1000000) :
    Calls Try.prog 68 #[.pointer (some ⟨g, 0, none⟩)] w (DrawnTag w g a len cap m 4 AnyTag) := by
  have hg := h.inside
  have hby := h.bytes
  have h0 := h.alloc (.cells #[.int .i64 0, .int .i64 0] 27)
  have B0 := Blk.made w 27 #[.int .i64 0, .int .i64 0]
  have G0 := World.grownBy_alloc w (.cells #[.int .i64 0, .int .i64 0] 27) (some g)
  go_enter Try.func68, Try.ntmps68
  go_wp2_with fail
  refine (pick_any _ g a len cap m _ h0 (by omega) (by omega)).mono ?_
  rintro e w1 ⟨x, hx, rfl, hg1, h1⟩
  have B1 := B0.kept hg1 (by intro e; injection e; omega)
  have G1 := G0.trans hg1
  by_cases hx0 : x = 0
  · subst hx0
    go_wp2_with fail
    refine (one4_any _ g a len cap (m + 1) w1.heap.size _ _ _ _ (-1) 1000 (h1.alloc _) (by omega) (by have := h1.inside; omega) (Blk.made _ _ _) (by unfold AnyInt; omega) (by unfold AnyInt; omega) (by unfold AnyInt; omega) (by unfold AnyInt; omega)).mono ?_
    rintro e w2 ⟨t, ht, rfl, hg2, h2⟩
    have G2 := G1.trans ((World.grownBy_alloc _ _ _).trans hg2)
    have B2 := (B1.more _).kept hg2 (by intro e; injection e; omega)
    go_wp2_with fail
    refine (one4_any _ g a len cap (m + 1 + 1) w2.heap.size _ _ _ _ (-1) 3 (h2.alloc _) (by omega) (by have := h2.inside; omega) (Blk.made _ _ _) (by unfold AnyInt; omega) (by unfold AnyInt; omega) (by unfold AnyInt; omega) (by unfold AnyInt; omega)).mono ?_
    rintro e w3 ⟨p, hp, rfl, hg3, h3⟩
    have G3 := G2.trans ((World.grownBy_alloc _ _ _).trans hg3)
    have B3 := (B2.more _).kept hg3 (by intro e; injection e; omega)
    obtain ⟨k0, k1, k2, k3⟩ := B3.two
    go_wp2
    refine bodyPost_ret (v := .agg #[.int .i64 t, .int .i64 p]) (by simp [results, Try.results68, go_sem, k0, k1]) rfl ?_
    exact ⟨t, p, ⟨ht.1, ht.2, hp.1, hp.2⟩, rfl, grown_set (grown_set G3 (Nat.le_refl _) _) (Nat.le_refl _) _, ((h3.set hby hg G3 (Nat.le_refl _) _).set hby hg (grown_set G3 (Nat.le_refl _) _) (Nat.le_refl _) _).more _ (by omega) hm⟩
  · have hxb : (x == 0) = false := by simpa using hx0
    go_wp2_with fail
    refine (l20Tag_any _ g a len cap (m + 1) h1 (by omega)).mono ?_
    rintro e w2 ⟨t, p, htp, rfl, hg2, h2⟩
    have B2 := B1.kept hg2 (by intro e; injection e; omega)
    have G2 := G1.trans hg2
    obtain ⟨k0, k1, k2, k3⟩ := B2.two
    go_wp2
    refine bodyPost_ret (v := .agg #[.int .i64 t, .int .i64 p]) (by simp [results, Try.results68, go_sem, k0, k1]) rfl ?_
    exact ⟨t, p, by unfold SmallTag at htp; unfold AnyTag; omega, rfl, grown_set (grown_set G2 (Nat.le_refl _) _) (Nat.le_refl _) _, ((h2.set hby hg G2 (Nat.le_refl _) _).set hby hg (grown_set G2 (Nat.le_refl _) _) (Nat.le_refl _) _).more _ (by omega) hm⟩

/-- The code that came in: bytes that can be read, in old memory. -/
def Code0 (w : World) (a : Option Addr) (len cap : Nat) : Prop :=
  len ≤ cap ∧ (len = 0 ∨ ∃ b off : Nat, a = some ⟨b, off, none⟩ ∧ b < w.heap.size ∧ ∀ i : Nat, i < len → ∃ x : Int, 0 ≤ x ∧ x ≤ 255 ∧ w.cell? ⟨b, off + i, none⟩ = some (.int .u8 x))
theorem Code0.on {w w' : World} {a : Option Addr} {len cap : Nat} (h : Code0 w a len cap) (hb : Below w.heap.size w w') : Code0 w' a len cap := by
  obtain ⟨hc, h | ⟨b, off, ha, hlt, hx⟩⟩ := h
  · exact ⟨hc, .inl h⟩
  · refine ⟨hc, .inr ⟨b, off, ha, Nat.lt_of_lt_of_le hlt hb.size, fun i hi => ?_⟩⟩
    obtain ⟨x, h0, h1, hcell⟩ := hx i hi
    exact ⟨x, h0, h1, (hb.cell (p := ⟨b, off + i, none⟩) hlt).trans hcell⟩

/-- A new reader. -/
def Opened (w : World) (e : Ending) (w' : World) : Prop :=
  ∃ (a : Option Addr) (len cap : Nat), e = .returned (.pointer (some ⟨w.heap.size, 0, none⟩)) ∧ Below w.heap.size w w' ∧ Rd w' w.heap.size a len cap 0

set_option maxHeartbeats 1000000 in
theorem l20Open_any (w : World) (a : Option Addr) (len cap : Nat) (hc : Code0 w a len cap) (hl : len ≤ 1048576) :
    Calls Try.prog 26 #[.slice a len cap] w (Opened w) := by
  have fin : ∀ (l c : Nat), l ≤ len → l ≤ 2000 → l ≤ c → Opened w (.returned (.pointer (some ⟨w.heap.size, 0, none⟩))) (w.alloc (.cells #[.slice a l c, .int .i64 0] 104)) := by
    intro l c h1 h2 h3
    have hb := below_alloc1 w (.cells #[.slice a l c, .int .i64 0] 104)
    refine ⟨a, l, c, rfl, hb, ⟨⟨0, by omega, by omega, Blk.made _ _ _⟩, by omega, h2, h3, ?_⟩⟩
    obtain ⟨_, h | ⟨b, off, ha, hlt, hx⟩⟩ := hc.on hb
    · exact .inl (by omega)
    · obtain ⟨_, h' | ⟨b', off', ha', hlt', hx'⟩⟩ := hc
      · exact .inl (by omega)
      · rw [ha] at ha'
        injection ha' with e
        injection e with e1 e2
        subst e1 e2
        exact .inr ⟨b, off, ha, by omega, hlt, fun i hi => hx i (by omega)⟩
  have hlc := hc.1
  by_cases h2 : 2000 < len
  · obtain ⟨hcc, h | ⟨b, off, rfl, hlt, hx⟩⟩ := hc
    · omega
    · go_enter Try.func26, Try.ntmps26
      go_wp2
      go_ret
      exact fin 2000 cap (by omega) (by omega) (by omega)
  · go_enter Try.func26, Try.ntmps26
    go_wp2
    go_ret
    exact fin len cap (Nat.le_refl _) (by omega) hlc

/-- From a new reader on only its block turns: nothing older than the call. -/
theorem below_grown {w w1 w2 : World} {g : Nat} (h : Below w.heap.size w w1) (hg : w1.grownBy w2 (some g)) (hw : w.heap.size ≤ g) : Below w.heap.size w w2 :=
  h.grown hg h.size (fun k hk => by injection hk; omega)

/-- Two tags were drawn. -/
def TwoTags (w : World) (e : Ending) (w' : World) : Prop :=
  ∃ t p t' p' : Int, AnyTag t p ∧ AnyTag t' p' ∧ e = .returned (.tuple #[.agg #[.int .i64 t, .int .i64 p], .agg #[.int .i64 t', .int .i64 p']]) ∧ Below w.heap.size w w'

end Go.Proofs.Ytjnloillcgeodaa
/- Bytes that came in: each can be read. -/
namespace Go.Proofs.Ytjnloillcgeodaa
open Go.ChangeShapes Go.WideShapes Go.ChangeAt Go.RowKit Go.Joins

set_option maxRecDepth 100000 in
/-- Bytes that came in: each can be read. -/
theorem read_bytes {H : Type} {enc : TypeId × Value → H} {W : World} {base : Nat} {v : Value} {d : DataW H} {p : List MemPlace}
    (hv : Value.okWide Try.prog W .any base 22 v) (h : DataW.Trod enc Try.prog W 0 (fun _ => true) true 22 v d p) :
    ∃ (a : Option Addr) (len cap : Nat), v = .slice a len cap ∧ Code0 W a len cap := by
  obtain ⟨a, len, cap, rfl⟩ := okWide_slice Try.underlying22 hv
  refine ⟨a, len, cap, rfl, ?_⟩
  obtain ⟨fuel, hf⟩ := h
  rcases open_ints Try.underlying22 Try.underlying5 (by kernel_rfl) hf with ⟨hcs, _⟩ | ⟨x, l, c, zs, hcs, _, hl, hm, hz, _, hcell, hwz⟩
  · simp [Value.cells] at hcs
    obtain ⟨rfl, rfl, rfl⟩ := hcs
    exact ⟨Nat.le_refl _, .inl rfl⟩
  · simp [Value.cells] at hcs
    obtain ⟨rfl, rfl, rfl⟩ := hcs
    refine ⟨hl, ?_⟩
    by_cases h0 : len = 0
    · exact .inl h0
    · have hzl : zs.length = cap := by simpa using hz
      obtain ⟨b, off, spot⟩ := x
      have hc0 := hcell 0 (by omega)
      have hspot : spot = none := by simpa [Addr.add] using World.cell?_spot hc0
      subst hspot
      refine .inr ⟨b, off, rfl, ?_, fun i hi => ?_⟩
      · apply Classical.byContradiction
        intro hn
        have : W.heap[b]? = none := Array.getElem?_eq_none (by omega)
        simp [Addr.add, World.cell?, this] at hc0
      · have hci := hcell i (by omega)
        have hmem : zs.getD i 0 ∈ zs := by
          rw [List.getD_eq_getElem?_getD, List.getElem?_eq_getElem (by omega)]
          exact List.getElem_mem _
        have hb := hwz _ hmem
        refine ⟨zs.getD i 0, ?_, ?_, ?_⟩
        · have := bounds_u8 hb; omega
        · have := bounds_u8 hb; omega
        · rw [← hci]
          unfold Addr.add
          by_cases hi0 : i = 0
          · simp [hi0]
          · simp [hi0]

end Go.Proofs.Ytjnloillcgeodaa
