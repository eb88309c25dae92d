/- Contracts of the draws of vectors: three or four tags of the drawn kinds, in memory of their own; and of the laws' comparison of two vectors. Condition: as in Draw. -/
import Derived.Test.YtjnloillcgeodaaGreatJVerOk0
import Derived.Test.YtjnloillcgeodaaGreatJVerClone
import Derived.Test.YtjnloillcgeodaaGreatJLift0
namespace Go.Proofs.YtjnloillcgeodaaGreat
open Go.RowKit Go.Joins
attribute [local go_sem ↓] Go.wp_at_zero Go.wp_at_succ

/-- A drawn vector: its tags lie in a block that is neither old nor the reader's. -/
def PastIn (w : World) (lo g : Nat) (a : Option Addr) (ts : List (Int × Int)) : Prop :=
  ∃ b off : Nat, a = some ⟨b, off, none⟩ ∧ lo ≤ b ∧ b ≠ g ∧ b < w.heap.size ∧ ∀ i x, ts[i]? = some x → w.cell? ⟨b, off + i * 2, none⟩ = some (.int .i64 x.1) ∧ w.cell? ⟨b, off + i * 2 + 1, none⟩ = some (.int .i64 x.2)
theorem PastIn.tg {w : World} {lo g : Nat} {a : Option Addr} {ts : List (Int × Int)} (h : PastIn w lo g a ts) : Tg w w.heap.size a ts := by
  obtain ⟨b, off, ha, _, _, hb, hx⟩ := h
  exact .inr ⟨b, off, ha, hb, hx⟩
theorem PastIn.kept {w w' : World} {lo g : Nat} {a : Option Addr} {ts : List (Int × Int)} (h : PastIn w lo g a ts) (hg : w.grownBy w' (some g)) : PastIn w' lo g a ts := by
  obtain ⟨b, off, ha, hl, hne, hb, hx⟩ := h
  refine ⟨b, off, ha, hl, hne, Nat.lt_of_lt_of_le hb hg.size, fun i x hi => ?_⟩
  have hk : ∀ o : Nat, w'.cell? ⟨b, o, none⟩ = w.cell? ⟨b, o, none⟩ := fun o => World.cell?_of_block (w := w) (w' := w') (a := ⟨b, o, none⟩) (hg.block b hb (fun e => hne (by injection e)))
  exact ⟨(hk _).trans (hx i x hi).1, (hk _).trans (hx i x hi).2⟩
theorem PastIn.on {w w' : World} {lo g : Nat} {a : Option Addr} {ts : List (Int × Int)} (h : PastIn w lo g a ts) (hb : Below w.heap.size w w') : PastIn w' lo g a ts := h.kept (grown_none hb)
theorem PastIn.low {w : World} {lo lo' g : Nat} {a : Option Addr} {ts : List (Int × Int)} (h : PastIn w lo g a ts) (hl : lo' ≤ lo) : PastIn w lo' g a ts := by
  obtain ⟨b, off, ha, h1, h2⟩ := h
  exact ⟨b, off, ha, by omega, h2⟩

/-- What a draw of a vector leaves. -/
def DrawnPast (w : World) (g : Nat) (ra : Option Addr) (len cap m d : Nat) (e : Ending) (w' : World) : Prop :=
  ∃ (a : Option Addr) (c : Nat) (ts : List (Int × Int)), e = .returned (.agg #[.slice a ts.length c]) ∧ (ts.length = 3 ∨ ts.length = 4) ∧ PastIn w' w.heap.size g a ts ∧ w.grownBy w' (some g) ∧ Rd w' g ra len cap (m + d)

theorem neq_ne {x1 x2 y1 y2 : Int} (h : ¬(x1 = y1 ∧ x2 = y2)) (W : World) : (binOp .neq 49 (.agg #[.int .i64 x1, .int .i64 x2]) (.agg #[.int .i64 y1, .int .i64 y2])).run Tryz.prog W = .ok (.bool true) W := by
  by_cases ht : x1 = y1
  · have hp : ¬ x2 = y2 := fun e => h ⟨ht, e⟩
    subst ht
    clear h
    go_simp
  · clear h
    go_simp

set_option maxRecDepth 100000 in
set_option maxHeartbeats 1000000 in
theorem cfPast_any (a a' : Option Addr) (c c' : Nat) (ts us : List (Int × Int)) (w : World) (hn : ts.length ≤ 1048576) (_hn' : us.length ≤ 1048576) (ht : Tg w w.heap.size a ts) (hu : Tg w w.heap.size a' us) :
    Calls Tryz.prog 18 #[.agg #[.slice a ts.length c], .agg #[.slice a' us.length c']] w fun e w' => e = .returned (.bool (decide (ts = us))) ∧ Below w.heap.size w w' := by
  have S0 := ((Inv.start w).box 41 #[.slice a ts.length c]).box 41 #[.slice a' us.length c']
  simp only [World.size_alloc] at S0
  by_cases hlen : ts.length = us.length
  · have hd : Hid (ts.take ts.length = us.take us.length ↔ ts = us) := by unfold Hid; rw [List.take_length, List.take_length]
    rw [← hlen] at S0 hd ⊢
    generalize hnn : ts.length = n at *
    have HN := hide hnn
    have HL := hide hlen
    clear hnn hlen
    go_enter Tryz.func18, Tryz.ntmps18
    go_wp2
    go_loopw [5] (fun i wr => ∃ k : Nat, k ≤ n ∧ i = .int .i64 (k : Int) ∧ Hid (ts.take k = us.take k) ∧ Inv w (w.heap.size + 1 + 1) [(w.heap.size + 1, 41, #[.slice a' n c']), (w.heap.size, 41, #[.slice a n c])] wr) (fun i _ => n - (intOf i).toNat)
    case atStart => exact ⟨0, Nat.zero_le _, rfl, by simp [Hid], S0⟩
    case round =>
      obtain ⟨k, hk, rfl, heq, hI⟩ := hrel
      clear S0
      have q0 := (hI.nth 0 rfl).one.1
      have q1 := (hI.nth 1 rfl).one.1
      by_cases hlt : k < n
      · rcases ht with h0 | ⟨b, off, rfl, hb, hx⟩
        · have := HN.out; subst h0; simp at this; omega
        · rcases hu with h0 | ⟨b', off', rfl, hb', hx'⟩
          · have := HL.out; subst h0; simp at this; omega
          · have hkl : k < ts.length := by have := HN.out; omega
            have hkl' : k < us.length := by have := HL.out; omega
            obtain ⟨hc0, hc1⟩ := hx k _ (List.getElem?_eq_getElem hkl)
            obtain ⟨hd0, hd1⟩ := hx' k _ (List.getElem?_eq_getElem hkl')
            have c0 := (hI.below.cell (p := ⟨b, off + k * 2, none⟩) hb).trans hc0
            have c1 := (hI.below.cell (p := ⟨b, off + k * 2 + 1, none⟩) hb).trans hc1
            have d0 := (hI.below.cell (p := ⟨b', off' + k * 2, none⟩) hb').trans hd0
            have d1 := (hI.below.cell (p := ⟨b', off' + k * 2 + 1, none⟩) hb').trans hd1
            have HX := hide (List.getElem?_eq_getElem hkl)
            have HY := hide (List.getElem?_eq_getElem hkl')
            generalize ts[k] = x at c0 c1 HX
            generalize us[k] = y at d0 d1 HY
            obtain ⟨x1, x2⟩ := x
            obtain ⟨y1, y2⟩ := y
            simp only at c0 c1 d0 d1
            clear hc0 hc1 hd0 hd1 hx hx'
            have i1 : (0 : Int) ≤ (k : Int) := by omega
            have i2 : (k : Int) < (n : Int) := by omega
            have hI2 := hI.drew
            by_cases hxy : x1 = y1 ∧ x2 = y2
            · obtain ⟨rfl, rfl⟩ := hxy
              have HS := hide (take_eq_step HX.out HY.out heq.out rfl)
              clear heq
              go_wp2_with fail
              refine wp_region_noPanic ?_
              refine wp_region_held_drew (S := (fun w' => w'.cell? ⟨b, off + k * 2, none⟩ = some (.int .i64 x1) ∧ w'.cell? ⟨b, off + k * 2 + 1, none⟩ = some (.int .i64 x2) ∧ w'.cell? ⟨b', off' + k * 2, none⟩ = some (.int .i64 x1) ∧ w'.cell? ⟨b', off' + k * 2 + 1, none⟩ = some (.int .i64 x2) ∧ w'.cell? ⟨w.heap.size + 1, 0, none⟩ = some (.slice (some ⟨b', off', none⟩) n c') ∧ w'.cell? ⟨w.heap.size, 0, none⟩ = some (.slice (some ⟨b, off, none⟩) n c))) (by kernel_rfl) (by exact ⟨c0, c1, d0, d1, q0, q1⟩) (fun hHeld => ?_)
              refine take_run 0 (some 20) (v := ?_) rfl rfl (by kernel_rfl) (by kernel_rfl) (by kernel_rfl) (fun _ _ _ h => h) (by rfl) ?_ hHeld ?_
              rotate_left
              · ((intro w hSw); (try dsimp only at hSw); go_simp <;> with_reducible rfl)
              simp only [Act.put, List.setIfInBounds_toArray, List.set_cons_zero, List.set_cons_succ]
              refine take_run 1 (some 21) (v := ?_) rfl rfl (by kernel_rfl) (by kernel_rfl) (by kernel_rfl) (fun _ _ _ h => h) (by rfl) ?_ hHeld ?_
              rotate_left
              · ((intro w hSw); (try dsimp only at hSw); go_simp <;> with_reducible rfl)
              simp only [Act.put, List.setIfInBounds_toArray, List.set_cons_zero, List.set_cons_succ]
              refine take_run 2 (some 22) (v := ?_) rfl rfl (by kernel_rfl) (by kernel_rfl) (by kernel_rfl) (fun _ _ _ h => h) (by rfl) ?_ hHeld ?_
              rotate_left
              · ((intro w hSw); (try dsimp only at hSw); go_simp <;> with_reducible rfl)
              simp only [Act.put, List.setIfInBounds_toArray, List.set_cons_zero, List.set_cons_succ]
              refine take_run 3 (some 23) (v := ?_) rfl rfl (by kernel_rfl) (by kernel_rfl) (by kernel_rfl) (fun _ _ _ h => h) (by rfl) ?_ hHeld ?_
              rotate_left
              · ((intro w hSw); (try dsimp only at hSw); go_simp <;> with_reducible rfl)
              simp only [Act.put, List.setIfInBounds_toArray, List.set_cons_zero, List.set_cons_succ]
              refine take_run 4 (some 24) (v := ?_) rfl rfl (by kernel_rfl) (by kernel_rfl) (by kernel_rfl) (fun _ _ _ h => h) (by rfl) ?_ hHeld ?_
              rotate_left
              · ((intro w hSw); (try dsimp only at hSw); go_simp <;> with_reducible rfl)
              simp only [Act.put, List.setIfInBounds_toArray, List.set_cons_zero, List.set_cons_succ]
              refine take_run 5 (some 25) (v := ?_) rfl rfl (by kernel_rfl) (by kernel_rfl) (by kernel_rfl) (fun _ _ _ h => h) (by rfl) ?_ hHeld ?_
              rotate_left
              · ((intro w hSw); (try dsimp only at hSw); go_simp <;> with_reducible rfl)
              simp only [Act.put, List.setIfInBounds_toArray, List.set_cons_zero, List.set_cons_succ]
              refine take_run 6 (some 26) (v := ?_) rfl rfl (by kernel_rfl) (by kernel_rfl) (by kernel_rfl) (fun _ _ _ h => h) (by rfl) ?_ hHeld ?_
              rotate_left
              · ((intro w hSw); (try dsimp only at hSw); go_simp <;> with_reducible rfl)
              simp only [Act.put, List.setIfInBounds_toArray, List.set_cons_zero, List.set_cons_succ]
              refine take_run 7 (some 27) (v := ?_) rfl rfl (by kernel_rfl) (by kernel_rfl) (by kernel_rfl) (fun _ _ _ h => h) (by rfl) ?_ hHeld ?_
              rotate_left
              · ((intro w hSw); (try dsimp only at hSw); go_simp <;> with_reducible rfl)
              simp only [Act.put, List.setIfInBounds_toArray, List.set_cons_zero, List.set_cons_succ]
              refine take_run 8 (some 28) (v := ?_) rfl rfl (by kernel_rfl) (by kernel_rfl) (by kernel_rfl) (fun _ _ _ h => h) (by rfl) ?_ hHeld ?_
              rotate_left
              · ((intro w hSw); (try dsimp only at hSw); go_simp <;> with_reducible rfl)
              simp only [Act.put, List.setIfInBounds_toArray, List.set_cons_zero, List.set_cons_succ]
              refine take_run 9 (some 29) (v := ?_) rfl rfl (by kernel_rfl) (by kernel_rfl) (by kernel_rfl) (fun _ _ _ h => h) (by rfl) ?_ hHeld ?_
              rotate_left
              · ((intro w hSw); (try dsimp only at hSw); go_simp <;> with_reducible rfl)
              simp only [Act.put, List.setIfInBounds_toArray, List.set_cons_zero, List.set_cons_succ]
              refine take_run 10 (some 30) (v := ?_) rfl rfl (by kernel_rfl) (by kernel_rfl) (by kernel_rfl) (fun _ _ _ h => h) (by rfl) ?_ hHeld ?_
              rotate_left
              · ((intro w hSw); (try dsimp only at hSw); go_simp <;> with_reducible rfl)
              simp only [Act.put, List.setIfInBounds_toArray, List.set_cons_zero, List.set_cons_succ]
              refine wpAnyH_done (by kernel_rfl) ?_ _
              refine NoPanic.normal ?_
              clear hHeld
              go_wp2
              exact ⟨⟨k + 1, by omega, by go_num, HS, hI2⟩, by simp [intOf]; omega⟩
            · have hnq := neq_ne hxy
              have hf : Hid (decide (ts = us) = false) := decide_eq_false (fun e => hxy (by
                have h1 := HX.out
                have h2 := HY.out
                rw [e, h2] at h1
                injection h1 with h1
                injection h1 with h3 h4
                exact ⟨h3.symm, h4.symm⟩))
              clear hxy heq
              go_wp2_with fail
              refine wp_region_noPanic ?_
              refine wp_region_held_drew (S := (fun w' => w'.cell? ⟨b, off + k * 2, none⟩ = some (.int .i64 x1) ∧ w'.cell? ⟨b, off + k * 2 + 1, none⟩ = some (.int .i64 x2) ∧ w'.cell? ⟨b', off' + k * 2, none⟩ = some (.int .i64 y1) ∧ w'.cell? ⟨b', off' + k * 2 + 1, none⟩ = some (.int .i64 y2) ∧ w'.cell? ⟨w.heap.size + 1, 0, none⟩ = some (.slice (some ⟨b', off', none⟩) n c') ∧ w'.cell? ⟨w.heap.size, 0, none⟩ = some (.slice (some ⟨b, off, none⟩) n c))) (by kernel_rfl) (by exact ⟨c0, c1, d0, d1, q0, q1⟩) (fun hHeld => ?_)
              refine take_run 0 (some 20) (v := ?_) rfl rfl (by kernel_rfl) (by kernel_rfl) (by kernel_rfl) (fun _ _ _ h => h) (by rfl) ?_ hHeld ?_
              rotate_left
              · ((intro w hSw); (try dsimp only at hSw); go_simp <;> with_reducible rfl)
              simp only [Act.put, List.setIfInBounds_toArray, List.set_cons_zero, List.set_cons_succ]
              refine take_run 1 (some 21) (v := ?_) rfl rfl (by kernel_rfl) (by kernel_rfl) (by kernel_rfl) (fun _ _ _ h => h) (by rfl) ?_ hHeld ?_
              rotate_left
              · ((intro w hSw); (try dsimp only at hSw); go_simp <;> with_reducible rfl)
              simp only [Act.put, List.setIfInBounds_toArray, List.set_cons_zero, List.set_cons_succ]
              refine take_run 2 (some 22) (v := ?_) rfl rfl (by kernel_rfl) (by kernel_rfl) (by kernel_rfl) (fun _ _ _ h => h) (by rfl) ?_ hHeld ?_
              rotate_left
              · ((intro w hSw); (try dsimp only at hSw); go_simp <;> with_reducible rfl)
              simp only [Act.put, List.setIfInBounds_toArray, List.set_cons_zero, List.set_cons_succ]
              refine take_run 3 (some 23) (v := ?_) rfl rfl (by kernel_rfl) (by kernel_rfl) (by kernel_rfl) (fun _ _ _ h => h) (by rfl) ?_ hHeld ?_
              rotate_left
              · ((intro w hSw); (try dsimp only at hSw); go_simp <;> with_reducible rfl)
              simp only [Act.put, List.setIfInBounds_toArray, List.set_cons_zero, List.set_cons_succ]
              refine take_run 4 (some 24) (v := ?_) rfl rfl (by kernel_rfl) (by kernel_rfl) (by kernel_rfl) (fun _ _ _ h => h) (by rfl) ?_ hHeld ?_
              rotate_left
              · ((intro w hSw); (try dsimp only at hSw); go_simp <;> with_reducible rfl)
              simp only [Act.put, List.setIfInBounds_toArray, List.set_cons_zero, List.set_cons_succ]
              refine take_run 5 (some 25) (v := ?_) rfl rfl (by kernel_rfl) (by kernel_rfl) (by kernel_rfl) (fun _ _ _ h => h) (by rfl) ?_ hHeld ?_
              rotate_left
              · ((intro w hSw); (try dsimp only at hSw); go_simp <;> with_reducible rfl)
              simp only [Act.put, List.setIfInBounds_toArray, List.set_cons_zero, List.set_cons_succ]
              refine take_run 6 (some 26) (v := ?_) rfl rfl (by kernel_rfl) (by kernel_rfl) (by kernel_rfl) (fun _ _ _ h => h) (by rfl) ?_ hHeld ?_
              rotate_left
              · ((intro w hSw); (try dsimp only at hSw); go_simp <;> with_reducible rfl)
              simp only [Act.put, List.setIfInBounds_toArray, List.set_cons_zero, List.set_cons_succ]
              refine take_run 7 (some 27) (v := ?_) rfl rfl (by kernel_rfl) (by kernel_rfl) (by kernel_rfl) (fun _ _ _ h => h) (by rfl) ?_ hHeld ?_
              rotate_left
              · ((intro w hSw); (try dsimp only at hSw); go_simp <;> with_reducible rfl)
              simp only [Act.put, List.setIfInBounds_toArray, List.set_cons_zero, List.set_cons_succ]
              refine take_run 8 (some 28) (v := ?_) rfl rfl (by kernel_rfl) (by kernel_rfl) (by kernel_rfl) (fun _ _ _ h => h) (by rfl) ?_ hHeld ?_
              rotate_left
              · ((intro w hSw); (try dsimp only at hSw); go_simp <;> with_reducible rfl)
              simp only [Act.put, List.setIfInBounds_toArray, List.set_cons_zero, List.set_cons_succ]
              refine take_run 9 (some 29) (v := ?_) rfl rfl (by kernel_rfl) (by kernel_rfl) (by kernel_rfl) (fun _ _ _ h => h) (by rfl) ?_ hHeld ?_
              rotate_left
              · ((intro w hSw); (try dsimp only at hSw); go_simp <;> with_reducible rfl)
              simp only [Act.put, List.setIfInBounds_toArray, List.set_cons_zero, List.set_cons_succ]
              refine take_run 10 (some 30) (v := ?_) rfl rfl (by kernel_rfl) (by kernel_rfl) (by kernel_rfl) (fun _ _ _ h => h) (by rfl) ?_ hHeld ?_
              rotate_left
              · ((intro w hSw); (try dsimp only at hSw); go_simp <;> with_reducible rfl)
              simp only [Act.put, List.setIfInBounds_toArray, List.set_cons_zero, List.set_cons_succ]
              refine wpAnyH_done (by kernel_rfl) ?_ _
              refine NoPanic.normal ?_
              clear hHeld
              go_wp2
              go_ret
              exact ⟨ret_bool hf.out.symm, hI2.below⟩
      · have hkn : k = n := by omega
        subst hkn
        clear hlt
        have hf : Hid (decide (ts = us) = true) := decide_eq_true (hd.out.1 heq.out)
        clear heq
        have hL := hI.below
        go_wp2
        go_ret
        exact ⟨ret_bool hf.out.symm, hL⟩
  · have hd : Hid (decide (ts = us) = false) := decide_eq_false (fun e => hlen (by rw [e]))
    have hne : ((ts.length : Int) != (us.length : Int)) = true := by simp; omega
    have hL := S0.below
    clear hlen S0
    go_enter Tryz.func18, Tryz.ntmps18
    go_wp2
    go_ret
    exact ⟨ret_bool hd.out.symm, hL⟩
end Go.Proofs.YtjnloillcgeodaaGreat
/- Contracts of the draws of vectors: what is drawn are three or four tags in memory of their own. Condition: as in Draw. -/
namespace Go.Proofs.YtjnloillcgeodaaGreat
open Go.RowKit Go.Joins
attribute [local go_sem ↓] Go.wp_at_zero Go.wp_at_succ

set_option maxHeartbeats 1000000 in
theorem l1None_four (w : World) : Calls Tryz.prog 121 #[] w fun e w' => e = .returned (.agg #[.slice (some ⟨w.heap.size + 1, 0, none⟩) 4 4]) ∧ Blk w' (w.heap.size + 1) 49 zero8 ∧ Below w.heap.size w w' := by
  have hmk : ∀ W : World, (Instr.makeSlice 39 (.int .i64 4) (.int .i64 4)).run Tryz.prog W = .ok (.slice (some ⟨W.heap.size, 0, none⟩) 4 4) (W.alloc (.cells zero8 49)) := fun _ => by kernel_rfl
  go_enter Tryz.func121, Tryz.ntmps121
  go_wp2
  refine bodyPost_ret (v := .agg #[.slice (some ⟨w.heap.size + 1, 0, none⟩) 4 4]) (by simp [results, Tryz.results121, go_sem]) rfl ?_
  have B0 := Blk.made (w.alloc (.cells #[.slice (some ⟨w.heap.size + 1, 0, none⟩) 4 4] 41)) 49 zero8
  simp only [World.size_alloc] at B0
  exact ⟨rfl, B0, below_alloc2 _ _ _⟩

/-- Four tags at the beginning of a block. -/
def Fours (w : World) (b : Nat) (ts : List (Int × Int)) : Prop := ∃ cur, Blk w b 49 cur ∧ 8 ≤ cur.size ∧ ts.length = 4 ∧ ∀ i x, ts[i]? = some x → TagAt cur i x
theorem Fours.kept {w w' : World} {b : Nat} {ts : List (Int × Int)} {row : Option Nat} (h : Fours w b ts) (hg : w.grownBy w' row) (hr : row ≠ some b) : Fours w' b ts := by
  obtain ⟨cur, h1, h2⟩ := h
  exact ⟨cur, h1.kept hg hr, h2⟩
theorem Fours.aside {w : World} {b : Nat} {ts : List (Int × Int)} (h : Fours w b ts) {p : Addr} (hp : b ≠ p.block) (u : Value) : Fours (w.setCell p u) b ts := by
  obtain ⟨cur, h1, h2⟩ := h
  exact ⟨cur, h1.aside hp u, h2⟩
theorem Fours.put {w : World} {b k : Nat} {ts : List (Int × Int)} (h : Fours w b ts) (hk : k < 4) (t p : Int) : Fours ((w.setCell ⟨b, k * 2, none⟩ (.int .i64 t)).setCell ⟨b, k * 2 + 1, none⟩ (.int .i64 p)) b (ts.set k (t, p)) := by
  obtain ⟨cur, h1, h2, h3, h4⟩ := h
  refine ⟨_, (h1.put _ _).put _ _, by simpa using h2, by simpa using h3, fun i x hx => ?_⟩
  by_cases e : i = k
  · subst e
    rw [List.getElem?_set_self (by omega)] at hx
    injection hx with hx
    subst hx
    exact tagAt_put (x := (t, p)) (by omega)
  · rw [List.getElem?_set_ne (fun e' => e e'.symm)] at hx
    exact tagAt_other e (h4 i x hx)
theorem Fours.cells {w : World} {b k : Nat} {ts : List (Int × Int)} (h : Fours w b ts) (hk : k < 4) : (∃ u v, w.cell? ⟨b, k * 2, none⟩ = some u ∧ w.cell? ⟨b, k * 2 + 1, none⟩ = some v) ∧ w.frozen? ⟨b, k * 2, none⟩ = false ∧ w.frozen? ⟨b, k * 2 + 1, none⟩ = false := by
  obtain ⟨cur, h1, h2, h3, h4⟩ := h
  obtain ⟨x, hx⟩ : ∃ x, ts[k]? = some x := ⟨_, List.getElem?_eq_getElem (by omega)⟩
  obtain ⟨a0, a1⟩ := h4 k x hx
  exact ⟨⟨_, _, (h1.at _).trans a0, (h1.at _).trans a1⟩, h1.loose _, h1.loose _⟩
theorem Fours.inside {w : World} {b : Nat} {ts : List (Int × Int)} (h : Fours w b ts) : b < w.heap.size := by
  obtain ⟨cur, h1, _⟩ := h
  exact h1.inside
theorem Fours.past {w : World} {b lo g : Nat} {ts : List (Int × Int)} (h : Fours w b ts) (h1 : lo ≤ b) (h2 : b ≠ g) : PastIn w lo g (some ⟨b, 0, none⟩) ts := by
  obtain ⟨cur, e1, e2, e3, e4⟩ := h
  refine ⟨b, 0, rfl, h1, h2, e1.inside, fun i x hx => ?_⟩
  obtain ⟨a0, a1⟩ := e4 i x hx
  rw [Nat.zero_add]
  exact ⟨(e1.at _).trans a0, (e1.at _).trans a1⟩
theorem Fours.tail {w : World} {b lo g : Nat} {ts : List (Int × Int)} (h : Fours w b ts) (h1 : lo ≤ b) (h2 : b ≠ g) : PastIn w lo g (some ⟨b, 2, none⟩) (ts.drop 1) := by
  obtain ⟨cur, e1, e2, e3, e4⟩ := h
  refine ⟨b, 2, rfl, h1, h2, e1.inside, fun i x hx => ?_⟩
  rw [List.getElem?_drop] at hx
  obtain ⟨a0, a1⟩ := e4 (1 + i) x hx
  have e : 2 + i * 2 = (1 + i) * 2 := by omega
  rw [e]
  exact ⟨(e1.at _).trans a0, (e1.at _).trans a1⟩

/-- What the draw of a vector holds between its steps: its result's box, its own box, its tags, the reader. -/
structure DP (w : World) (g : Nat) (ra : Option Addr) (len cap mm pb gb : Nat) (ts : List (Int × Int)) (wr : World) : Prop where
  res : Blk wr w.heap.size 41 #[.slice none 0 0]
  box : Blk wr pb 41 #[.slice (some ⟨gb, 0, none⟩) 4 4]
  tags : Fours wr gb ts
  grown : w.grownBy wr (some g)
  rd : Rd wr g ra len cap mm
section
variable {w wr w2 : World} {g len cap mm pb gb : Nat} {ra : Option Addr} {ts : List (Int × Int)}
theorem DP.kept (h : DP w g ra len cap mm pb gb ts wr) (hgw : g < w.heap.size) (hp : w.heap.size < pb) (hb : w.heap.size < gb) (hg : wr.grownBy w2 (some g)) {mm' : Nat} (hr : Rd w2 g ra len cap mm') : DP w g ra len cap mm' pb gb ts w2 :=
  ⟨h.res.kept hg (by intro e; injection e; omega), h.box.kept hg (by intro e; injection e; omega), h.tags.kept hg (by intro e; injection e; omega), h.grown.trans hg, hr⟩
theorem DP.drew (h : DP w g ra len cap mm pb gb ts wr) (hgw : g < w.heap.size) (hp : w.heap.size < pb) (hb : w.heap.size < gb) : DP w g ra len cap mm pb gb ts wr.drew :=
  h.kept hgw hp hb (grown_none (Below.refl _ _).drew) (h.rd.on (Below.refl _ _).drew)
theorem DP.put (h : DP w g ra len cap mm pb gb ts wr) (hgw : g < w.heap.size) (hby : Bytes w g ra len) (hb : w.heap.size < gb) (hne : pb ≠ gb) {k : Nat} (hk : k < 4) (t p : Int) : DP w g ra len cap mm pb gb (ts.set k (t, p)) ((wr.setCell ⟨gb, k * 2, none⟩ (.int .i64 t)).setCell ⟨gb, k * 2 + 1, none⟩ (.int .i64 p)) := by
  have G1 := grown_set h.grown (p := ⟨gb, k * 2, none⟩) (by simp only; omega) (.int .i64 t)
  exact ⟨(h.res.aside (by simp only; omega) _).aside (by simp only; omega) _, (h.box.aside (by simp only; exact hne) _).aside (by simp only; exact hne) _, h.tags.put hk t p, grown_set G1 (p := ⟨gb, k * 2 + 1, none⟩) (by simp only; omega) _, (h.rd.set hby hgw h.grown (p := ⟨gb, k * 2, none⟩) (by simp only; omega) _).set hby hgw G1 (p := ⟨gb, k * 2 + 1, none⟩) (by simp only; omega) _⟩
end

end Go.Proofs.YtjnloillcgeodaaGreat
/- Contracts of the draws of texts. Condition: as in Draw. -/
namespace Go.Proofs.YtjnloillcgeodaaGreat
open Go.RowKit Go.Joins
attribute [local go_sem ↓] Go.wp_at_zero Go.wp_at_succ

/-- What the draw of a text leaves. -/
def DrawnStr (w : World) (g : Nat) (a : Option Addr) (len cap m d : Nat) (e : Ending) (w' : World) : Prop :=
  ∃ s : ByteArray, s.size ≤ 16 ∧ e = .returned (.string s) ∧ w.grownBy w' (some g) ∧ Rd w' g a len cap (m + d)
set_option maxHeartbeats 1000000 in
theorem of_any (w : World) (g : Nat) (a : Option Addr) (len cap m c n : Nat) (h : Rd w g a len cap m) (hm : m + 1 ≤ 1000000) (hne : c ≠ g) (hc : c < w.heap.size) (hn : 1 ≤ n) (hn' : n ≤ 1000)
    (hx : ∀ i : Nat, i < n → ∃ s : ByteArray, s.size ≤ 16 ∧ w.cell? ⟨c, i, none⟩ = some (.string s)) :
    Calls Tryz.prog 92 #[.pointer (some ⟨g, 0, none⟩), .slice (some ⟨c, 0, none⟩) n n] w (DrawnStr w g a len cap m 1) := by
  go_enter Tryz.func92, Tryz.ntmps92
  go_wp2_with fail
  refine (pick_any _ g a len cap m _ h (by omega) (by omega)).mono ?_
  rintro e w1 ⟨x, hxx, rfl, hg1, h1⟩
  have hxa := hxx.1
  have hxb := hxx.2 (by omega)
  obtain ⟨k, rfl⟩ := Int.eq_ofNat_of_zero_le hxa
  obtain ⟨s, hs, hcell⟩ := hx k (by omega)
  have c0 : w1.cell? ⟨c, k, none⟩ = some (.string s) := (World.cell?_of_block (hg1.block c hc (fun e => hne (by injection e)))).trans hcell
  have HS := hide hs
  have HG := hide hg1
  have HR := hide h1
  clear hx hg1 h1 hcell h hxx hs
  go_wp2
  go_ret
  exact ⟨s, HS.out, rfl, HG.out, HR.out⟩
set_option maxRecDepth 100000 in
set_option maxHeartbeats 1000000 in
theorem l20Text_any (w : World) (g : Nat) (a : Option Addr) (len cap m : Nat) (h : Rd w g a len cap m) (hm : m + 1 ≤ 1000000) :
    Calls Tryz.prog 122 #[.pointer (some ⟨g, 0, none⟩)] w (DrawnStr w g a len cap m 1) := by
  have hgw := h.inside
  go_enter Tryz.func122, Tryz.ntmps122
  go_wp2_with fail
  refine (of_any _ g a len cap m w.heap.size 8 (h.alloc _) hm (by omega) (by simp) (by omega) (by omega) (fun i hi => ?_)).mono ?_
  · rw [Blk.at (Blk.made _ _ _)]
    match i, hi with
    | 0, _ => exact ⟨_, by decide, rfl⟩
    | 1, _ => exact ⟨_, by decide, rfl⟩
    | 2, _ => exact ⟨_, by decide, rfl⟩
    | 3, _ => exact ⟨_, by decide, rfl⟩
    | 4, _ => exact ⟨_, by decide, rfl⟩
    | 5, _ => exact ⟨_, by decide, rfl⟩
    | 6, _ => exact ⟨_, by decide, rfl⟩
    | 7, _ => exact ⟨_, by decide, rfl⟩
    | n + 8, hi => omega
  · rintro e w1 ⟨s, hs, rfl, hg1, h1⟩
    have HG := hide ((grown_none (row := some g) (below_alloc1 w _)).trans hg1)
    have HR := hide h1
    clear h hg1 h1
    go_wp2
    go_ret
    exact ⟨s, hs, rfl, HG.out, HR.out⟩
end Go.Proofs.YtjnloillcgeodaaGreat
/- Contract of the draw of a version. Condition: as in Draw. -/
namespace Go.Proofs.YtjnloillcgeodaaGreat
open Go.RowKit Go.Joins
attribute [local go_sem ↓] Go.wp_at_zero Go.wp_at_succ

/-- What the draw of a version holds between its steps: its result's box, its own box, its tags, the reader. -/
structure DV (w : World) (g : Nat) (ra : Option Addr) (len cap mm pb gb : Nat) (k t u : Int) (s : ByteArray) (b : Bool) (ts : List (Int × Int)) (wr : World) : Prop where
  res : Blk wr w.heap.size 51 (verC 0 0 0 none 0 0 ⟨#[]⟩ false)
  box : Blk wr pb 51 (verC k t u (some ⟨gb, 0, none⟩) 4 4 s b)
  tags : Fours wr gb ts
  grown : w.grownBy wr (some g)
  rd : Rd wr g ra len cap mm
section
variable {w wr w2 : World} {g len cap mm pb gb : Nat} {ra : Option Addr} {ts : List (Int × Int)} {k t u : Int} {s : ByteArray} {b : Bool}
theorem DV.kept (h : DV w g ra len cap mm pb gb k t u s b ts wr) (hgw : g < w.heap.size) (hp : w.heap.size < pb) (hb : w.heap.size < gb) (hg : wr.grownBy w2 (some g)) {mm' : Nat} (hr : Rd w2 g ra len cap mm') : DV w g ra len cap mm' pb gb k t u s b ts w2 :=
  ⟨h.res.kept hg (by intro e; injection e; omega), h.box.kept hg (by intro e; injection e; omega), h.tags.kept hg (by intro e; injection e; omega), h.grown.trans hg, hr⟩
theorem DV.drew (h : DV w g ra len cap mm pb gb k t u s b ts wr) (hgw : g < w.heap.size) (hp : w.heap.size < pb) (hb : w.heap.size < gb) : DV w g ra len cap mm pb gb k t u s b ts wr.drew :=
  h.kept hgw hp hb (grown_none (Below.refl _ _).drew) (h.rd.on (Below.refl _ _).drew)
theorem DV.put (h : DV w g ra len cap mm pb gb k t u s b ts wr) (hgw : g < w.heap.size) (hby : Bytes w g ra len) (hb : w.heap.size < gb) (hne : pb ≠ gb) {i : Nat} (hk : i < 4) (x p : Int) : DV w g ra len cap mm pb gb k t u s b (ts.set i (x, p)) ((wr.setCell ⟨gb, i * 2, none⟩ (.int .i64 x)).setCell ⟨gb, i * 2 + 1, none⟩ (.int .i64 p)) := by
  have G1 := grown_set h.grown (p := ⟨gb, i * 2, none⟩) (by simp only; omega) (.int .i64 x)
  exact ⟨(h.res.aside (by simp only; omega) _).aside (by simp only; omega) _, (h.box.aside (by simp only; exact hne) _).aside (by simp only; exact hne) _, h.tags.put hk x p, grown_set G1 (p := ⟨gb, i * 2 + 1, none⟩) (by simp only; omega) _, (h.rd.set hby hgw h.grown (p := ⟨gb, i * 2, none⟩) (by simp only; omega) _).set hby hgw G1 (p := ⟨gb, i * 2 + 1, none⟩) (by simp only; omega) _⟩
/-- One cell of the box is turned. -/
theorem DV.turn (h : DV w g ra len cap mm pb gb k t u s b ts wr) (hgw : g < w.heap.size) (hby : Bytes w g ra len) (hp : w.heap.size < pb) (hne : pb ≠ gb) (i : Nat) (x : Value) {k' t' u' : Int} {s' : ByteArray} {b' : Bool}
    (e : (verC k t u (some ⟨gb, 0, none⟩) 4 4 s b).setIfInBounds i x = verC k' t' u' (some ⟨gb, 0, none⟩) 4 4 s' b') : DV w g ra len cap mm pb gb k' t' u' s' b' ts (wr.setCell ⟨pb, i, none⟩ x) :=
  ⟨h.res.aside (by simp only; omega) _, e ▸ h.box.put i x, h.tags.aside (by simp only; exact fun e => hne e.symm) _, grown_set h.grown (p := ⟨pb, i, none⟩) (by simp only; omega) _, h.rd.set hby hgw h.grown (p := ⟨pb, i, none⟩) (by simp only; omega) _⟩
end
theorem grown_set6 {w w' : World} {g : Nat} (h : w.grownBy w' (some g)) {b : Nat} (hp : w.heap.size ≤ b) (x0 x1 x2 x3 x4 x5 : Value) : w.grownBy ((((((w'.setCell ⟨b, 0, none⟩ x0).setCell ⟨b, 1, none⟩ x1).setCell ⟨b, 2, none⟩ x2).setCell ⟨b, 3, none⟩ x3).setCell ⟨b, 4, none⟩ x4).setCell ⟨b, 5, none⟩ x5) (some g) :=
  grown_set (grown_set (grown_set (grown_set (grown_set (grown_set h (p := ⟨b, 0, none⟩) hp _) (p := ⟨b, 1, none⟩) hp _) (p := ⟨b, 2, none⟩) hp _) (p := ⟨b, 3, none⟩) hp _) (p := ⟨b, 4, none⟩) hp _) (p := ⟨b, 5, none⟩) hp _
theorem Rd.set6 {w w' : World} {g : Nat} {a : Option Addr} {len cap m : Nat} (h : Rd w' g a len cap m) (hb : Bytes w g a len) (hg : g < w.heap.size) (hw : w.grownBy w' (some g)) {b : Nat} (hp : w.heap.size ≤ b) (x0 x1 x2 x3 x4 x5 : Value) :
    Rd ((((((w'.setCell ⟨b, 0, none⟩ x0).setCell ⟨b, 1, none⟩ x1).setCell ⟨b, 2, none⟩ x2).setCell ⟨b, 3, none⟩ x3).setCell ⟨b, 4, none⟩ x4).setCell ⟨b, 5, none⟩ x5) g a len cap m :=
  (((((h.set hb hg hw (p := ⟨b, 0, none⟩) hp _).set hb hg (grown_set hw (p := ⟨b, 0, none⟩) hp _) (p := ⟨b, 1, none⟩) hp _).set hb hg (grown_set (grown_set hw (p := ⟨b, 0, none⟩) hp _) (p := ⟨b, 1, none⟩) hp _) (p := ⟨b, 2, none⟩) hp _).set hb hg (grown_set (grown_set (grown_set hw (p := ⟨b, 0, none⟩) hp _) (p := ⟨b, 1, none⟩) hp _) (p := ⟨b, 2, none⟩) hp _) (p := ⟨b, 3, none⟩) hp _).set hb hg (grown_set (grown_set (grown_set (grown_set hw (p := ⟨b, 0, none⟩) hp _) (p := ⟨b, 1, none⟩) hp _) (p := ⟨b, 2, none⟩) hp _) (p := ⟨b, 3, none⟩) hp _) (p := ⟨b, 4, none⟩) hp _).set hb hg (grown_set (grown_set (grown_set (grown_set (grown_set hw (p := ⟨b, 0, none⟩) hp _) (p := ⟨b, 1, none⟩) hp _) (p := ⟨b, 2, none⟩) hp _) (p := ⟨b, 3, none⟩) hp _) (p := ⟨b, 4, none⟩) hp _) (p := ⟨b, 5, none⟩) hp _
theorem Fours.aside6 {w : World} {g b : Nat} {ts : List (Int × Int)} (h : Fours w g ts) (hg : g ≠ b) (x0 x1 x2 x3 x4 x5 : Value) : Fours ((((((w.setCell ⟨b, 0, none⟩ x0).setCell ⟨b, 1, none⟩ x1).setCell ⟨b, 2, none⟩ x2).setCell ⟨b, 3, none⟩ x3).setCell ⟨b, 4, none⟩ x4).setCell ⟨b, 5, none⟩ x5) g ts :=
  (((((h.aside (p := ⟨b, 0, none⟩) hg _).aside (p := ⟨b, 1, none⟩) hg _).aside (p := ⟨b, 2, none⟩) hg _).aside (p := ⟨b, 3, none⟩) hg _).aside (p := ⟨b, 4, none⟩) hg _).aside (p := ⟨b, 5, none⟩) hg _
theorem PastIn.aside1 {w : World} {lo g : Nat} {a : Option Addr} {ts : List (Int × Int)} (h : PastIn w lo g a ts) {p : Addr} (hp : p.block < lo) (u : Value) : PastIn (w.setCell p u) lo g a ts := by
  obtain ⟨b, off, ha, hl, hne, hb, hx⟩ := h
  refine ⟨b, off, ha, hl, hne, by simpa [World.setCell] using hb, fun i x hi => ?_⟩
  have hk : ∀ o : Nat, (w.setCell p u).cell? ⟨b, o, none⟩ = w.cell? ⟨b, o, none⟩ := fun o => World.cell?_of_block (w := w) (w' := w.setCell p u) (a := ⟨b, o, none⟩) (Below.heap_setCell w p u b (by omega))
  exact ⟨(hk _).trans (hx i x hi).1, (hk _).trans (hx i x hi).2⟩

theorem Fours.at1 {w : World} {b n : Nat} {ts : List (Int × Int)} {t p : Int} (h : Fours w b (ts.set n (t, p))) (hn : n < 4) : w.cell? ⟨b, n * 2, none⟩ = some (.int .i64 t) := by
  obtain ⟨cur, h1, h2, h3, h4⟩ := h
  have hl : n < ts.length := by rw [List.length_set] at h3; omega
  have := (h4 n (t, p) (List.getElem?_set_self hl)).1
  exact (h1.at _).trans this
/-- What the draw of a version leaves. -/
def DrawnV4 (w : World) (g : Nat) (ra : Option Addr) (len cap m d : Nat) (e : Ending) (w' : World) : Prop :=
  ∃ (k t u : Int) (gb : Nat) (ts : List (Int × Int)) (s : ByteArray) (b : Bool), e = .returned (.agg (verC k t u (some ⟨gb, 0, none⟩) 4 4 s b)) ∧ (0 ≤ k ∧ k ≤ 3) ∧ s.size ≤ 16 ∧ Fours w' gb ts ∧ w.heap.size ≤ gb ∧ w.grownBy w' (some g) ∧ Rd w' g ra len cap (m + d)
/-- The same, with what is known of the tag. -/
def DrawnVS (w : World) (g : Nat) (ra : Option Addr) (len cap m d : Nat) (e : Ending) (w' : World) : Prop :=
  ∃ (k t u : Int) (gb : Nat) (ts : List (Int × Int)) (s : ByteArray) (b : Bool), e = .returned (.agg (verC k t u (some ⟨gb, 0, none⟩) 4 4 s b)) ∧ (0 ≤ k ∧ k ≤ 3) ∧ (0 ≤ t ∧ 0 ≤ u) ∧ s.size ≤ 16 ∧ Fours w' gb ts ∧ w.heap.size ≤ gb ∧ w.grownBy w' (some g) ∧ Rd w' g ra len cap (m + d)
theorem DV.fin {w wr : World} {g len cap mm pb gb m d : Nat} {ra : Option Addr} {ts : List (Int × Int)} {k t u : Int} {s : ByteArray} {b : Bool} (h : DV w g ra len cap mm pb gb k t u s b ts wr) (hgw : g < w.heap.size) (hby : Bytes w g ra len) (hb : w.heap.size < gb) (hk : 0 ≤ k ∧ k ≤ 3) (htu : 0 ≤ t ∧ 0 ≤ u) (hs : s.size ≤ 16) (hmm : mm ≤ m + d) (hm : m + d ≤ 1000000) (x0 x1 x2 x3 x4 x5 : Value) :
    DrawnVS w g ra len cap m d (.returned (.agg (verC k t u (some ⟨gb, 0, none⟩) 4 4 s b))) ((((((wr.setCell ⟨w.heap.size, 0, none⟩ x0).setCell ⟨w.heap.size, 1, none⟩ x1).setCell ⟨w.heap.size, 2, none⟩ x2).setCell ⟨w.heap.size, 3, none⟩ x3).setCell ⟨w.heap.size, 4, none⟩ x4).setCell ⟨w.heap.size, 5, none⟩ x5) :=
  ⟨k, t, u, gb, ts, s, b, rfl, hk, htu, hs, h.tags.aside6 (by omega) _ _ _ _ _ _, by omega, grown_set6 h.grown (Nat.le_refl _) _ _ _ _ _ _, (h.rd.set6 hby hgw h.grown (Nat.le_refl _) _ _ _ _ _ _).more _ hmm hm⟩

set_option maxRecDepth 100000 in
set_option maxHeartbeats 4000000 in
theorem l20VerS_any (w : World) (g : Nat) (a : Option Addr) (len cap m : Nat) (h : Rd w g a len cap m) (hm : m + 20 ≤ 1000000) :
    Calls Tryz.prog 88 #[.pointer (some ⟨g, 0, none⟩)] w (DrawnVS w g a len cap m 20) := by
  have hgw := h.inside
  have HBY := hide h.bytes
  have B0 := Blk.made w 51 (verC 0 0 0 none 0 0 ⟨#[]⟩ false)
  have L0 := below_alloc1 w (.cells (verC 0 0 0 none 0 0 ⟨#[]⟩ false) 51)
  have G0 := grown_none (row := some g) L0
  go_enter Tryz.func88, Tryz.ntmps88
  go_wp2_with fail
  refine (pick_any _ g a len cap m _ (h.on L0) (by omega) (by omega)).mono ?_
  rintro e w1 ⟨k, hk, rfl, hg1, h1⟩
  have hk0 := hk.1
  have hk1 := hk.2 (by omega)
  have B1 := B0.kept hg1 (by intro e; injection e; omega)
  have G1 := G0.trans hg1
  have z1 : w.heap.size + 1 ≤ w1.heap.size := by have := hg1.size; simpa using this
  clear B0 L0 G0 hg1 hk h
  go_wp2_with fail
  refine (l1None_four _).mono ?_
  rintro e w2 ⟨rfl, hB2, hb2⟩
  have z2 := hb2.size
  have B2 := B1.on hb2
  have G2 := G1.trans (grown_none (row := some g) hb2)
  have R2 := h1.on hb2
  have i2 := hB2.inside
  clear B1 G1 h1 hb2
  go_wp2_with fail
  refine (l20Text_any _ g a len cap (m + 1) R2 (by omega)).mono ?_
  rintro e w3 ⟨s, hs, rfl, hg3, h3⟩
  have z3 := hg3.size
  have B3 := B2.kept hg3 (by intro e; injection e; omega)
  have T3 := hB2.kept hg3 (by intro e; injection e; omega)
  have G3 := G2.trans hg3
  have LA := below_alloc1 w3 (.cells (verC k 0 0 (some ⟨w1.heap.size + 1, 0, none⟩) 4 4 s false) 51)
  have HD : Hid (DV w g a len cap (m + 1 + 1) w3.heap.size (w1.heap.size + 1) k 0 0 s false [(0, 0), (0, 0), (0, 0), (0, 0)] (w3.alloc (.cells (verC k 0 0 (some ⟨w1.heap.size + 1, 0, none⟩) 4 4 s false) 51))) :=
    ⟨B3.on LA, Blk.made _ _ _, ⟨zero8, T3.on LA, by simp, rfl, tagAt_eight (0, 0) (0, 0) (0, 0) (0, 0)⟩, G3.trans (grown_none LA), h3.on LA⟩
  have hpb : w.heap.size < w3.heap.size := by omega
  have hne : w3.heap.size ≠ w1.heap.size + 1 := by omega
  have hgb : w.heap.size < w1.heap.size + 1 := by omega
  clear B2 B3 G2 G3 hB2 T3 h3 hg3 LA R2
  go_wp2
  generalize w3.alloc (.cells (verC k 0 0 (some ⟨w1.heap.size + 1, 0, none⟩) 4 4 s false) 51) = W3 at HD ⊢
  obtain ⟨pb, epb⟩ : ∃ pb, pb = w3.heap.size := ⟨_, rfl⟩
  obtain ⟨gb, egb⟩ : ∃ gb, gb = w1.heap.size + 1 := ⟨_, rfl⟩
  rw [← epb, ← egb] at HD hne
  rw [← epb] at hpb
  rw [← egb] at hgb
  rw [← epb]
  try rw [← egb]
  clear epb egb z1 z2 z3 i2
  go_loopw [4, 5] (fun v i wr => ∃ (n : Nat) (q : Int) (ts : List (Int × Int)), n ≤ 4 ∧ i = .int .i64 (n : Int) ∧ v = .int .i64 q ∧ (0 ≤ q ∧ q ≤ 9) ∧ Hid (DV w g a len cap (m + 1 + 1 + 3 * n) pb gb k 0 0 s false ts wr)) (fun _ i _ => 4 - (intOf i).toNat)
  case atStart => exact ⟨0, 0, _, Nat.zero_le _, rfl, rfl, by omega, HD.out⟩
  case round =>
    obtain ⟨n, q, ts, hn, rfl, rfl, hq, HP⟩ := hrel
    clear HD
    by_cases hlt : n < 4
    · have i1 : (0 : Int) ≤ (n : Int) := by omega
      have i2 : (n : Int) < 4 := by omega
      have D1 := HP.out.drew hgw hpb hgb
      go_wp2_with fail
      refine wp_region_noPanic ?_
      refine wp_region_held_drew (S := (fun w' => w'.cell? ⟨pb, 3, none⟩ = some (.slice (some ⟨gb, 0, none⟩) 4 4) ∧ Blk w' pb 51 (verC k 0 0 (some ⟨gb, 0, none⟩) 4 4 s false))) (by kernel_rfl) (by exact ⟨D1.box.at 3, D1.box⟩) (fun hHeld => ?_)
      refine take_run 0 (some 16) (v := ?_) rfl rfl (by kernel_rfl) (by kernel_rfl) (by kernel_rfl) (fun _ _ _ h => h) (by rfl) ?_ hHeld ?_
      rotate_left
      · ((intro w hSw); (try dsimp only at hSw); go_simp <;> with_reducible rfl)
      simp only [Act.put, List.setIfInBounds_toArray, List.set_cons_zero, List.set_cons_succ]
      refine take_run 1 (some 17) (v := ?_) rfl rfl (by kernel_rfl) (by kernel_rfl) (by kernel_rfl) (fun _ _ _ h => h) (by rfl) ?_ hHeld ?_
      rotate_left
      · ((intro w hSw); (try dsimp only at hSw); go_simp <;> with_reducible rfl)
      simp only [Act.put, List.setIfInBounds_toArray, List.set_cons_zero, List.set_cons_succ]
      refine take_run 2 (some 18) (v := ?_) rfl rfl (by kernel_rfl) (by kernel_rfl) (by kernel_rfl) (fun _ _ _ h => h) (by rfl) ?_ hHeld ?_
      rotate_left
      · ((intro w hSw); (try dsimp only at hSw); go_simp <;> with_reducible rfl)
      simp only [Act.put, List.setIfInBounds_toArray, List.set_cons_zero, List.set_cons_succ]
      refine take_run 3 (some 19) (v := ?_) rfl rfl (by kernel_rfl) (by kernel_rfl) (by kernel_rfl) (fun _ _ _ h => h) (by rfl) ?_ hHeld ?_
      rotate_left
      · ((intro w hSw); (try dsimp only at hSw); go_simp <;> with_reducible rfl)
      simp only [Act.put, List.setIfInBounds_toArray, List.set_cons_zero, List.set_cons_succ]
      refine take_run 4 (some 20) (v := ?_) rfl rfl (by kernel_rfl) (by kernel_rfl) (by kernel_rfl) (fun _ _ _ h => h) (by rfl) ?_ hHeld ?_
      rotate_left
      · ((intro w hSw); (try dsimp only at hSw); go_simp <;> with_reducible rfl)
      simp only [Act.put, List.setIfInBounds_toArray, List.set_cons_zero, List.set_cons_succ]
      refine take_one 5 (by kernel_rfl) rfl (fun K hK => ?_)
      go_simp
      (refine (l20Tag_any _ g a len cap (m + 1 + 1 + 3 * n) D1.rd (by omega)).mono ?_; rintro e w2 ⟨t, p, htp, rfl, hg2, h2⟩; have D2 := D1.kept hgw hpb hgb hg2 h2; obtain ⟨⟨u0, u1, c0, c1⟩, f0, f1⟩ := D2.tags.cells hlt)
      try go_wp2_with fail
      refine hK.out _ _ (by exact ⟨D2.box.at 3, D2.box⟩) (fun hHeld => ?_)
      clear hK K
      refine take_run 6 (some 22) (v := ?_) rfl rfl (by kernel_rfl) (by kernel_rfl) (by kernel_rfl) (fun _ _ _ h => h) (by rfl) ?_ hHeld ?_
      rotate_left
      · ((intro w hSw); (try dsimp only at hSw); go_simp <;> with_reducible rfl)
      simp only [Act.put, List.setIfInBounds_toArray, List.set_cons_zero, List.set_cons_succ]
      refine take_one 7 (by kernel_rfl) rfl (fun K hK => ?_)
      go_simp
      refine hK.out _ _ (by exact ⟨((D2.put hgw HBY.out hgb hne hlt t p).box).at 3, (D2.put hgw HBY.out hgb hne hlt t p).box⟩) (fun hHeld => ?_)
      clear hK K
      refine wpAnyH_done (by kernel_rfl) ?_ _
      refine NoPanic.normal ?_
      have D3 := D2.put hgw HBY.out hgb hne hlt t p
      have HT : Hid (SmallTag t p) := htp
      clear hHeld D1 D2 c0 c1 f0 f1 h2 hg2 htp
      generalize (w2.setCell ⟨gb, n * 2, none⟩ (.int .i64 t)).setCell ⟨gb, n * 2 + 1, none⟩ (.int .i64 p) = W4 at D3 ⊢
      have k3 := D3.box.six.1
      have c4 := D3.tags.at1 hlt
      have HD3 : Hid (DV w g a len cap (m + 1 + 1 + 3 * (n + 1)) pb gb k 0 0 s false (ts.set n (t, p)) W4) := by
        have := D3
        rw [show m + 1 + 1 + 3 * n + 3 = m + 1 + 1 + 3 * (n + 1) by omega] at this
        exact this
      clear D3 HP
      by_cases hgt : t > q
      · go_wp2
        exact ⟨⟨n + 1, t, _, by omega, by go_num, rfl, by have := HT.out; unfold SmallTag at this; omega, HD3⟩, by simp [intOf]; omega⟩
      · go_wp2
        exact ⟨⟨n + 1, q, _, by omega, by go_num, rfl, hq, HD3⟩, by simp [intOf]; omega⟩
    · have hn4 : n = 4 := by omega
      subst hn4
      clear hlt hn
      have D0 := HP.out
      clear HP
      go_wp2_with fail
      refine (pick_any _ g a len cap _ _ D0.rd (by omega) (by omega)).mono ?_
      rintro e w4 ⟨x, hx, rfl, hg4, h4⟩
      have D4 := D0.kept hgw hpb hgb hg4 h4
      have hx0 := hx.1
      have hx1 := hx.2 (by omega)
      clear D0 hg4 h4 hx
      go_wp2_with fail
      refine (pick_any _ g a len cap _ _ D4.rd (by omega) (by omega)).mono ?_
      rintro e w5 ⟨y, hy, rfl, hg5, h5⟩
      have D5 := D4.kept hgw hpb hgb hg5 h5
      have hy0 := hy.1
      have hy1 := hy.2 (by omega)
      have k5 := D5.box.six
      have D6 := (D5.turn hgw HBY.out hpb hne 1 (.int .i64 (q + 1 + x)) (k' := k) (t' := q + 1 + x) (u' := 0) (s' := s) (b' := false) rfl).turn hgw HBY.out hpb hne 2 (.int .i64 y) (k' := k) (t' := q + 1 + x) (u' := y) (s' := s) (b' := false) rfl
      have HD5 := hide D5.rd
      clear D4 D5 hg5 h5 hy
      go_wp2_with fail
      generalize (w5.setCell ⟨pb, 1, none⟩ (.int .i64 (q + 1 + x))).setCell ⟨pb, 2, none⟩ (.int .i64 y) = W6 at D6 ⊢
      refine (pick_any _ g a len cap _ _ D6.rd (by omega) (by omega)).mono ?_
      rintro e w7 ⟨z, hz, rfl, hg7, h7⟩
      have D7 := D6.kept hgw hpb hgb hg7 h7
      have k7 := D7.box.six
      clear D6 hg7 h7 k5
      by_cases hz0 : z = 0
      · subst hz0
        have D8 := (D7.turn hgw HBY.out hpb hne 4 (.string ⟨#[]⟩) (k' := k) (t' := q + 1 + x) (u' := y) (s' := ⟨#[]⟩) (b' := false) rfl).turn hgw HBY.out hpb hne 5 (.bool true) (k' := k) (t' := q + 1 + x) (u' := y) (s' := ⟨#[]⟩) (b' := true) rfl
        have k8 := D8.box.six
        have r8 := D8.res.six
        have HD8 := hide D8
        clear D7 D8
        go_wp2
        refine bodyPost_ret (v := .agg (verC k (q + 1 + x) y (some ⟨gb, 0, none⟩) 4 4 ⟨#[]⟩ true)) (by simp [results, Tryz.results88, go_sem, r8]) rfl ?_
        exact HD8.out.fin hgw HBY.out hgb ⟨hk0, by omega⟩ ⟨by omega, hy0⟩ (by decide) (by omega) hm _ _ _ _ _ _
      · have hzb : (z == 0) = false := by simpa using hz0
        have r7 := D7.res.six
        have HD7 := hide D7
        clear D7
        go_wp2
        refine bodyPost_ret (v := .agg (verC k (q + 1 + x) y (some ⟨gb, 0, none⟩) 4 4 s false)) (by simp [results, Tryz.results88, go_sem, r7]) rfl ?_
        exact HD7.out.fin hgw HBY.out hgb ⟨hk0, by omega⟩ ⟨by omega, hy0⟩ hs (by omega) hm _ _ _ _ _ _
theorem l20Ver_any (w : World) (g : Nat) (a : Option Addr) (len cap m : Nat) (h : Rd w g a len cap m) (hm : m + 20 ≤ 1000000) :
    Calls Tryz.prog 88 #[.pointer (some ⟨g, 0, none⟩)] w (DrawnV4 w g a len cap m 20) := (l20VerS_any w g a len cap m h hm).mono fun e w' h => by
  obtain ⟨k, t, u, gb, ts, s, b, he, hk, _, h2⟩ := h
  exact ⟨k, t, u, gb, ts, s, b, he, hk, h2⟩
end Go.Proofs.YtjnloillcgeodaaGreat
/- Contract of the draw of a version, valid or not. Condition: as in Draw. -/
namespace Go.Proofs.YtjnloillcgeodaaGreat
open Go.RowKit Go.Joins
attribute [local go_sem ↓] Go.wp_at_zero Go.wp_at_succ

set_option maxHeartbeats 1000000 in
theorem oneN_any (w : World) (g : Nat) (a : Option Addr) (len cap m c n : Nat) (h : Rd w g a len cap m) (hm : m + 1 ≤ 1000000) (hne : c ≠ g) (hc : c < w.heap.size) (hn : 1 ≤ n) (hn' : n ≤ 1000)
    (hx : ∀ i : Nat, i < n → ∃ x : Int, w.cell? ⟨c, i, none⟩ = some (.int .i64 x)) :
    Calls Tryz.prog 31 #[.pointer (some ⟨g, 0, none⟩), .slice (some ⟨c, 0, none⟩) n n] w (Drawn w g a len cap m 1 (fun _ => True)) := by
  go_enter Tryz.func31, Tryz.ntmps31
  go_wp2_with fail
  refine (pick_any _ g a len cap m _ h (by omega) (by omega)).mono ?_
  rintro e w1 ⟨x, hxx, rfl, hg1, h1⟩
  have hxa := hxx.1
  have hxb := hxx.2 (by omega)
  obtain ⟨k, rfl⟩ := Int.eq_ofNat_of_zero_le hxa
  obtain ⟨s, hcell⟩ := hx k (by omega)
  have c0 : w1.cell? ⟨c, k, none⟩ = some (.int .i64 s) := (World.cell?_of_block (hg1.block c hc (fun e => hne (by injection e)))).trans hcell
  have HG := hide hg1
  have HR := hide h1
  clear hx hg1 h1 hcell h hxx
  go_wp2
  go_ret
  exact ⟨s, trivial, rfl, HG.out, HR.out⟩

/-- What the draw of a version, valid or not, leaves. -/
def DrawnV (w : World) (g : Nat) (ra : Option Addr) (len cap m d : Nat) (e : Ending) (w' : World) : Prop :=
  ∃ v : V, e = .returned (.agg (verC v.k v.t v.u v.a v.ts.length v.c v.s v.g)) ∧ v.ts.length ≤ 4 ∧ v.s.size ≤ 16 ∧ PastIn w' w.heap.size g v.a v.ts ∧ w.grownBy w' (some g) ∧ Rd w' g ra len cap (m + d)
/-- The same, with what is known of the causes' block where there are four. -/
def DrawnVO (w : World) (g : Nat) (ra : Option Addr) (len cap m d : Nat) (e : Ending) (w' : World) : Prop :=
  ∃ v : V, e = .returned (.agg (verC v.k v.t v.u v.a v.ts.length v.c v.s v.g)) ∧ v.ts.length ≤ 4 ∧ v.s.size ≤ 16 ∧ PastIn w' w.heap.size g v.a v.ts ∧ w.grownBy w' (some g) ∧ Rd w' g ra len cap (m + d) ∧ (v.ts.length = 4 → ∃ b, v.a = some ⟨b, 0, none⟩ ∧ w.heap.size ≤ b ∧ Fours w' b v.ts)
theorem Fours.len {w : World} {b : Nat} {ts : List (Int × Int)} (h : Fours w b ts) : ts.length = 4 := by
  obtain ⟨_, _, _, e, _⟩ := h
  exact e
theorem DV.finA {w wr : World} {g len cap mm pb gb m d : Nat} {ra : Option Addr} {ts : List (Int × Int)} {k t u : Int} {s : ByteArray} {b : Bool} (h : DV w g ra len cap mm pb gb k t u s b ts wr) (hgw : g < w.heap.size) (hby : Bytes w g ra len) (hb : w.heap.size < gb) (hs : s.size ≤ 16) (hmm : mm ≤ m + d) (hm : m + d ≤ 1000000) (x0 x1 x2 x3 x4 x5 : Value) :
    DrawnVO w g ra len cap m d (.returned (.agg (verC k t u (some ⟨gb, 0, none⟩) 4 4 s b))) ((((((wr.setCell ⟨w.heap.size, 0, none⟩ x0).setCell ⟨w.heap.size, 1, none⟩ x1).setCell ⟨w.heap.size, 2, none⟩ x2).setCell ⟨w.heap.size, 3, none⟩ x3).setCell ⟨w.heap.size, 4, none⟩ x4).setCell ⟨w.heap.size, 5, none⟩ x5) :=
  ⟨⟨k, t, u, some ⟨gb, 0, none⟩, 4, ts, s, b⟩, by simp only [h.tags.len], by simp only [h.tags.len]; omega, hs, (h.tags.aside6 (by omega) _ _ _ _ _ _).past (by omega) (by omega), grown_set6 h.grown (Nat.le_refl _) _ _ _ _ _ _, (h.rd.set6 hby hgw h.grown (Nat.le_refl _) _ _ _ _ _ _).more _ hmm hm, fun _ => ⟨gb, rfl, by omega, h.tags.aside6 (by omega) _ _ _ _ _ _⟩⟩
/-- As before, but for the first tag, which is left out. -/
theorem DV.finB {w wr : World} {g len cap mm pb gb m d : Nat} {ra : Option Addr} {ts : List (Int × Int)} {k t u : Int} {s : ByteArray} {b : Bool} (h : DV w g ra len cap mm pb gb k t u s b ts wr) (hgw : g < w.heap.size) (hby : Bytes w g ra len) (hp : w.heap.size < pb) (hne : pb ≠ gb) (hb : w.heap.size < gb) (hs : s.size ≤ 16) (hmm : mm ≤ m + d) (hm : m + d ≤ 1000000) (x x0 x1 x2 x3 x4 x5 : Value) :
    DrawnVO w g ra len cap m d (.returned (.agg (verC k t u (some ⟨gb, 2, none⟩) 3 3 s b))) (((((((wr.setCell ⟨pb, 3, none⟩ x).setCell ⟨w.heap.size, 0, none⟩ x0).setCell ⟨w.heap.size, 1, none⟩ x1).setCell ⟨w.heap.size, 2, none⟩ x2).setCell ⟨w.heap.size, 3, none⟩ x3).setCell ⟨w.heap.size, 4, none⟩ x4).setCell ⟨w.heap.size, 5, none⟩ x5) := by
  have hl : (ts.drop 1).length = 3 := by rw [List.length_drop, h.tags.len]
  have G1 := grown_set h.grown (p := ⟨pb, 3, none⟩) (by simp only; omega) x
  exact ⟨⟨k, t, u, some ⟨gb, 2, none⟩, 3, ts.drop 1, s, b⟩, by simp only [hl], by simp only [hl]; omega, hs, ((h.tags.aside (p := ⟨pb, 3, none⟩) (by simp only; exact fun e => hne e.symm) _).aside6 (by omega) _ _ _ _ _ _).tail (by omega) (by omega), grown_set6 G1 (Nat.le_refl _) _ _ _ _ _ _, ((h.rd.set hby hgw h.grown (p := ⟨pb, 3, none⟩) (by simp only; omega) _).set6 hby hgw G1 (Nat.le_refl _) _ _ _ _ _ _).more _ hmm hm, fun q => by simp only [hl] at q; omega⟩

set_option maxRecDepth 100000 in
set_option maxHeartbeats 4000000 in
theorem l20AnyVerO_any (w : World) (g : Nat) (a : Option Addr) (len cap m : Nat) (h : Rd w g a len cap m) (hm : m + 30 ≤ 1000000) :
    Calls Tryz.prog 60 #[.pointer (some ⟨g, 0, none⟩)] w (DrawnVO w g a len cap m 30) := by
  have hgw := h.inside
  have HBY := hide h.bytes
  have B0 := Blk.made w 51 (verC 0 0 0 none 0 0 ⟨#[]⟩ false)
  have L0 := below_alloc1 w (.cells (verC 0 0 0 none 0 0 ⟨#[]⟩ false) 51)
  have G0 := grown_none (row := some g) L0
  go_enter Tryz.func60, Tryz.ntmps60
  go_wp2_with fail
  refine (l20Ver_any _ g a len cap m (h.on L0) (by omega)).mono ?_
  rintro e w1 ⟨k, t, u, gb, ts, s, b, rfl, hk, hs, hF, hgb0, hg1, h1⟩
  have LA := below_alloc1 w1 (.cells (verC k t u (some ⟨gb, 0, none⟩) 4 4 s b) 51)
  have z1 : w.heap.size + 1 ≤ w1.heap.size := by have := hg1.size; simpa using this
  have hgb : w.heap.size < gb := by simp at hgb0; omega
  have hne : w1.heap.size ≠ gb := by have := hF.inside; omega
  have hpb : w.heap.size < w1.heap.size := by omega
  have HD : Hid (DV w g a len cap (m + 20) w1.heap.size gb k t u s b ts (w1.alloc (.cells (verC k t u (some ⟨gb, 0, none⟩) 4 4 s b) 51))) :=
    ⟨(B0.kept hg1 (by intro e; injection e; omega)).on LA, Blk.made _ _ _, hF.kept (grown_none (row := none) LA) (by simp), (G0.trans hg1).trans (grown_none LA), h1.on LA⟩
  clear B0 L0 G0 h hg1 h1 hF LA hgb0 z1
  go_wp2_with fail
  generalize w1.alloc (.cells (verC k t u (some ⟨gb, 0, none⟩) 4 4 s b) 51) = W1 at HD ⊢
  obtain ⟨pb, epb⟩ : ∃ pb, pb = w1.heap.size := ⟨_, rfl⟩
  rw [← epb] at HD hne hpb ⊢
  clear epb
  refine (pick_any _ g a len cap _ _ HD.out.rd (by omega) (by omega)).mono ?_
  rintro e w2 ⟨x, hx, rfl, hg2, h2⟩
  have D2 := HD.out.kept hgw hpb hgb hg2 h2
  clear HD hg2 h2 hx
  by_cases hx0 : x = 0
  · subst hx0
    go_wp2_with fail
    refine (oneN_any _ g a len cap _ w2.heap.size 2 (D2.rd.alloc _) (by omega) (by have := D2.rd.inside; omega) (by simp) (by omega) (by omega) (fun i hi => ?_)).mono ?_
    · rw [Blk.at (Blk.made _ _ _)]
      match i, hi with
      | 0, _ => exact ⟨_, rfl⟩
      | 1, _ => exact ⟨_, rfl⟩
      | n + 2, hi => omega
    · rintro e w3 ⟨y, _, rfl, hg3, h3⟩
      have D3 := D2.kept hgw hpb hgb ((World.grownBy_alloc _ _ _).trans hg3) h3
      have k3 := D3.box.six
      have D4 := D3.turn hgw HBY.out hpb hne 0 (.int .i64 y) (k' := y) (t' := t) (u' := u) (s' := s) (b' := b) rfl
      have r9 := D4.res.six
      have k9 := D4.box.six
      have H9 := hide D4
      clear D4 D3 D2 hg3 h3
      go_wp2
      refine bodyPost_ret (v := .agg (verC y t u (some ⟨gb, 0, none⟩) 4 4 s b)) (by simp [results, Tryz.results60, go_sem, r9]) rfl ?_
      exact H9.out.finA hgw HBY.out hgb hs (by omega) hm _ _ _ _ _ _
  have hb0 : (x == 0) = false := by simpa using hx0
  by_cases hx1 : x = 1
  · subst hx1
    go_wp2_with fail
    refine (of_any _ g a len cap _ w2.heap.size 3 (D2.rd.alloc _) (by omega) (by have := D2.rd.inside; omega) (by simp) (by omega) (by omega) (fun i hi => ?_)).mono ?_
    · rw [Blk.at (Blk.made _ _ _)]
      match i, hi with
      | 0, _ => exact ⟨_, by decide, rfl⟩
      | 1, _ => exact ⟨_, by decide, rfl⟩
      | 2, _ => exact ⟨_, by decide, rfl⟩
      | n + 3, hi => omega
    · rintro e w3 ⟨s2, hs2, rfl, hg3, h3⟩
      have D3 := D2.kept hgw hpb hgb ((World.grownBy_alloc _ _ _).trans hg3) h3
      have k3 := D3.box.six
      have D4 := D3.turn hgw HBY.out hpb hne 4 (.string s2) (k' := k) (t' := t) (u' := u) (s' := s2) (b' := b) rfl
      have r9 := D4.res.six
      have k9 := D4.box.six
      have H9 := hide D4
      clear D4 D3 D2 hg3 h3
      go_wp2
      refine bodyPost_ret (v := .agg (verC k t u (some ⟨gb, 0, none⟩) 4 4 s2 b)) (by simp [results, Tryz.results60, go_sem, r9]) rfl ?_
      exact H9.out.finA hgw HBY.out hgb hs2 (by omega) hm _ _ _ _ _ _
  have hb1 : (x == 1) = false := by simpa using hx1
  by_cases hx2 : x = 2
  · subst hx2
    have k3 := D2.box.six
    have r9 := (D2.res.aside (p := ⟨pb, 3, none⟩) (by simp only; omega) (.slice (some ⟨gb, 2, none⟩) 3 3)).six
    have H9 := hide D2
    clear D2
    go_wp2
    refine bodyPost_ret (v := .agg (verC k t u (some ⟨gb, 2, none⟩) 3 3 s b)) (by simp [results, Tryz.results60, go_sem, r9]) rfl ?_
    exact H9.out.finB hgw HBY.out hpb hne hgb hs (by omega) hm _ _ _ _ _ _ _
  have hb2 : (x == 2) = false := by simpa using hx2
  by_cases hx3 : x = 3
  · subst hx3
    have D3 := D2.drew hgw hpb hgb
    clear D2
    go_wp2_with fail
    refine wp_region_noPanic ?_
    refine wp_region_held_drew (S := (fun w' => w'.cell? ⟨pb, 3, none⟩ = some (.slice (some ⟨gb, 0, none⟩) 4 4) ∧ Blk w' pb 51 (verC k t u (some ⟨gb, 0, none⟩) 4 4 s b))) (by kernel_rfl) (by exact ⟨D3.box.at 3, D3.box⟩) (fun hHeld => ?_)
    refine take_run 0 (some 30) (v := ?_) rfl rfl (by kernel_rfl) (by kernel_rfl) (by kernel_rfl) (fun _ _ _ h => h) (by rfl) ?_ hHeld ?_
    rotate_left
    · ((intro w hSw); (try dsimp only at hSw); go_simp <;> with_reducible rfl)
    simp only [Act.put, List.setIfInBounds_toArray, List.set_cons_zero, List.set_cons_succ]
    refine take_run 1 (some 31) (v := ?_) rfl rfl (by kernel_rfl) (by kernel_rfl) (by kernel_rfl) (fun _ _ _ h => h) (by rfl) ?_ hHeld ?_
    rotate_left
    · ((intro w hSw); (try dsimp only at hSw); go_simp <;> with_reducible rfl)
    simp only [Act.put, List.setIfInBounds_toArray, List.set_cons_zero, List.set_cons_succ]
    refine take_run 2 (some 32) (v := ?_) rfl rfl (by kernel_rfl) (by kernel_rfl) (by kernel_rfl) (fun _ _ _ h => h) (by rfl) ?_ hHeld ?_
    rotate_left
    · ((intro w hSw); (try dsimp only at hSw); go_simp <;> with_reducible rfl)
    simp only [Act.put, List.setIfInBounds_toArray, List.set_cons_zero, List.set_cons_succ]
    refine take_run 3 (some 33) (v := ?_) rfl rfl (by kernel_rfl) (by kernel_rfl) (by kernel_rfl) (fun _ _ _ h => h) (by rfl) ?_ hHeld ?_
    rotate_left
    · ((intro w hSw); (try dsimp only at hSw); go_simp <;> with_reducible rfl)
    simp only [Act.put, List.setIfInBounds_toArray, List.set_cons_zero, List.set_cons_succ]
    refine take_run 5 (some 35) (v := ?_) rfl rfl (by kernel_rfl) (by kernel_rfl) (by kernel_rfl) (fun _ _ _ h => h) (by rfl) ?_ hHeld ?_
    rotate_left
    · ((intro w hSw); (try dsimp only at hSw); go_simp <;> with_reducible rfl)
    simp only [Act.put, List.setIfInBounds_toArray, List.set_cons_zero, List.set_cons_succ]
    refine take_one 4 (by kernel_rfl) rfl (fun K hK => ?_)
    go_simp
    (refine (pick_any _ g a len cap _ _ D3.rd (by omega) (by omega)).mono ?_; rintro e w3 ⟨y, hy, rfl, hg3, h3⟩; have D4 := D3.kept hgw hpb hgb hg3 h3; have hy0 := hy.1; have hy1 := hy.2 (by omega); obtain ⟨yn, rfl⟩ := Int.eq_ofNat_of_zero_le hy0; have hyn : yn < 4 := (by omega); obtain ⟨⟨u0, u1, c0, c1⟩, f0, f1⟩ := D4.tags.cells hyn)
    try go_wp2_with fail
    refine hK.out _ _ (by exact ⟨D4.box.at 3, D4.box⟩) (fun hHeld => ?_)
    clear hK K
    refine take_run 6 (some 36) (v := ?_) rfl rfl (by kernel_rfl) (by kernel_rfl) (by kernel_rfl) (fun _ _ _ h => h) (by rfl) ?_ hHeld ?_
    rotate_left
    · ((intro w hSw); (try dsimp only at hSw); go_simp <;> with_reducible rfl)
    simp only [Act.put, List.setIfInBounds_toArray, List.set_cons_zero, List.set_cons_succ]
    refine take_one 7 (by kernel_rfl) rfl (fun K hK => ?_)
    go_simp
    refine hK.out _ _ (by exact ⟨((D4.put hgw HBY.out hgb hne hyn 50 1).box).at 3, (D4.put hgw HBY.out hgb hne hyn 50 1).box⟩) (fun hHeld => ?_)
    clear hK K
    refine wpAnyH_done (by kernel_rfl) ?_ _
    refine NoPanic.normal ?_
    have D5 := D4.put hgw HBY.out hgb hne hyn 50 1
    clear hHeld D3 D4 c0 c1 f0 f1 h3 hg3
    generalize (w3.setCell ⟨gb, yn * 2, none⟩ (.int .i64 50)).setCell ⟨gb, yn * 2 + 1, none⟩ (.int .i64 1) = W5 at D5 ⊢
    have r9 := D5.res.six
    have k9 := D5.box.six
    have H9 := hide D5
    clear D5
    go_wp2
    refine bodyPost_ret (v := .agg (verC k t u (some ⟨gb, 0, none⟩) 4 4 s b)) (by simp [results, Tryz.results60, go_sem, r9]) rfl ?_
    exact H9.out.finA hgw HBY.out hgb hs (by omega) hm _ _ _ _ _ _
  have hb3 : (x == 3) = false := by simpa using hx3
  by_cases hx4 : x = 4
  · subst hx4
    go_wp2_with fail
    refine (l20AnyTag_any _ g a len cap _ D2.rd (by omega)).mono ?_
    rintro e w3 ⟨y, z, _, rfl, hg3, h3⟩
    have D3 := D2.kept hgw hpb hgb hg3 h3
    have k3 := D3.box.six
    have D4 := (D3.turn hgw HBY.out hpb hne 1 (.int .i64 y) (k' := k) (t' := y) (u' := u) (s' := s) (b' := b) rfl).turn hgw HBY.out hpb hne 2 (.int .i64 z) (k' := k) (t' := y) (u' := z) (s' := s) (b' := b) rfl
    have r9 := D4.res.six
    have k9 := D4.box.six
    have H9 := hide D4
    clear D4 D3 D2 hg3 h3
    go_wp2
    refine bodyPost_ret (v := .agg (verC k y z (some ⟨gb, 0, none⟩) 4 4 s b)) (by simp [results, Tryz.results60, go_sem, r9]) rfl ?_
    exact H9.out.finA hgw HBY.out hgb hs (by omega) hm _ _ _ _ _ _
  have hb4 : (x == 4) = false := by simpa using hx4
  by_cases hx5 : x = 5
  · subst hx5
    have k3 := D2.box.six
    have D4 := D2.turn hgw HBY.out hpb hne 5 (.bool true) (k' := k) (t' := t) (u' := u) (s' := s) (b' := true) rfl
    have r9 := D4.res.six
    have k9 := D4.box.six
    have H9 := hide D4
    clear D4 D2
    go_wp2
    refine bodyPost_ret (v := .agg (verC k t u (some ⟨gb, 0, none⟩) 4 4 s true)) (by simp [results, Tryz.results60, go_sem, r9]) rfl ?_
    exact H9.out.finA hgw HBY.out hgb hs (by omega) hm _ _ _ _ _ _
  have hb5 : (x == 5) = false := by simpa using hx5
  have r9 := D2.res.six
  have k9 := D2.box.six
  have H9 := hide D2
  clear D2
  go_wp2
  refine bodyPost_ret (v := .agg (verC k t u (some ⟨gb, 0, none⟩) 4 4 s b)) (by simp [results, Tryz.results60, go_sem, r9]) rfl ?_
  exact H9.out.finA hgw HBY.out hgb hs (by omega) hm _ _ _ _ _ _
theorem l20AnyVer_any (w : World) (g : Nat) (a : Option Addr) (len cap m : Nat) (h : Rd w g a len cap m) (hm : m + 30 ≤ 1000000) :
    Calls Tryz.prog 60 #[.pointer (some ⟨g, 0, none⟩)] w (DrawnV w g a len cap m 30) := (l20AnyVerO_any w g a len cap m h hm).mono fun e w' h => by
  obtain ⟨v, h1, h2, h3, h4, h5, h6, _⟩ := h
  exact ⟨v, h1, h2, h3, h4, h5, h6⟩
end Go.Proofs.YtjnloillcgeodaaGreat
