/- Contracts of the functions on vectors of tags: whether one is valid, in the program and in the model. Condition: at most 1048576 tags. -/
import Derived.Test.YtpelibkdphgpjaaJLift
import Derived.Deep.AppendLies
import Derived.Test.YtpelibkdphgpjaaJTags
namespace Go.Proofs.Ytpelibkdphgpjaa
open Go.RowKit Go.Joins

/-- Whether these tags are a valid vector. -/
def pastB (ts : List (Int × Int)) : Bool := decide (ts.length = 4) && ts.all fun x => okB x.1 x.2
theorem pastB_len {ts : List (Int × Int)} (h : ¬ ts.length = 4) : pastB ts = false := by unfold pastB; simp [h]
theorem pastB_bad {ts : List (Int × Int)} {k : Nat} {x : Int × Int} (hx : ts[k]? = some x) (h : okB x.1 x.2 = false) : pastB ts = false := by
  unfold pastB
  have : (ts.all fun x => okB x.1 x.2) = false := by
    rw [List.all_eq_false]
    exact ⟨x, List.mem_of_getElem? hx, by simp [h]⟩
  simp [this]
theorem pastB_ok {ts : List (Int × Int)} (hl : ts.length = 4) (h : ∀ (k : Nat) (x : Int × Int), ts[k]? = some x → okB x.1 x.2 = true) : pastB ts = true := by
  unfold pastB
  have : (ts.all fun x => okB x.1 x.2) = true := by
    rw [List.all_eq_true]
    intro x hx
    obtain ⟨k, hk⟩ := List.getElem?_of_mem hx
    exact h k x hk
  simp [this, hl]

set_option maxRecDepth 100000 in
set_option maxHeartbeats 1000000 in
theorem l1PastOk_any (a : Option Addr) (c : Nat) (ts : List (Int × Int)) (w : World) (hn : ts.length ≤ 1048576) (ht : Tg w w.heap.size a ts) :
    Calls Try.prog 101 #[.agg #[.slice a ts.length c]] w fun e w' => e = .returned (.bool (pastB ts)) ∧ Below w.heap.size w w' := by
  have B0 := Blk.made w 33 #[.slice a ts.length c]
  have L0 := below_alloc1 w (.cells #[.slice a ts.length c] 33)
  generalize hnn : ts.length = n at *
  have HN := hide hnn
  clear hnn
  go_enter Try.func101, Try.ntmps101
  go_wp2
  go_loopw [3] (fun i wr => ∃ k : Nat, k ≤ n ∧ i = .int .i64 (k : Int) ∧ (∀ j x, j < k → ts[j]? = some x → okB x.1 x.2 = true) ∧ Blk wr w.heap.size 33 #[.slice a n c] ∧ Below w.heap.size w wr) (fun i _ => n - (intOf i).toNat)
  case atStart => exact ⟨0, Nat.zero_le _, rfl, fun j x hj => absurd hj (by omega), B0, L0⟩
  case round =>
    obtain ⟨k, hk, rfl, hall, hB, hL⟩ := hrel
    have hA := hide hall
    clear hall
    obtain ⟨q0, q1⟩ := hB.one
    by_cases hlt : k < n
    · rcases ht with h0 | ⟨b, off, rfl, hb, hx⟩
      · have := HN.out; subst h0; simp at this; omega
      · have hkl : k < ts.length := by have := HN.out; omega
        obtain ⟨hc0, hc1⟩ := hx k _ (List.getElem?_eq_getElem hkl)
        have c0 := (hL.cell (p := ⟨b, off + k * 2, none⟩) hb).trans hc0
        have c1 := (hL.cell (p := ⟨b, off + k * 2 + 1, none⟩) hb).trans hc1
        have HX := hide (List.getElem?_eq_getElem hkl)
        generalize ts[k] = x at c0 c1 HX
        obtain ⟨x1, x2⟩ := x
        simp only at c0 c1
        clear hc0 hc1 hx
        go_wp2_with fail
        refine (l1TagOk_any _ _ _).mono ?_
        rintro e w1 ⟨rfl, hb1⟩
        have hL1 := hL.trans (hb1.mono hL.size)
        have B1 := hB.on hb1
        cases hok : okB x1 x2
        · have hf := hide (pastB_bad HX.out hok)
          clear hok
          go_wp2
          go_ret
          exact ⟨ret_bool hf.out.symm, hL1⟩
        · have HA := hide (show ∀ j x, j < k + 1 → ts[j]? = some x → okB x.1 x.2 = true from fun j x hj hx => by
            by_cases e : j = k
            · subst e
              have h1 := HX.out
              rw [h1] at hx
              injection hx with hx
              subst hx
              exact hok
            · exact hA.out j x (by omega) hx)
          clear hok
          go_wp2
          exact ⟨⟨k + 1, by omega, by go_num, HA.out, B1, hL1⟩, by simp [intOf]; omega⟩
    · have hkn : k = n := by omega
      subst hkn
      clear hlt
      by_cases h4 : k = 4
      · have hf := hide (pastB_ok (HN.out.trans h4) (fun j x hx => hA.out j x (by have := (List.getElem?_eq_some_iff.1 hx).1; have := HN.out; omega) hx))
        subst h4
        go_wp2
        go_ret
        exact ⟨ret_bool hf.out.symm, hL⟩
      · have hf := hide (pastB_len (fun e => h4 (HN.out.symm.trans e)))
        have h4' : ((k : Int) == 4) = false := by simp; omega
        clear h4
        go_wp2
        go_ret
        exact ⟨ret_bool hf.out.symm, hL⟩

/-- The eight cells of four tags. -/
def cells4 (ts : List (Int × Int)) : Array Value := (ts.flatMap fun x => [Value.int .i64 x.1, Value.int .i64 x.2]).toArray
abbrev zero8 : Array Value := #[.int .i64 0, .int .i64 0, .int .i64 0, .int .i64 0, .int .i64 0, .int .i64 0, .int .i64 0, .int .i64 0]

theorem Blk.eight {w : World} {g : Nat} {T : TypeId} {a b c d e f u v : Value} (h : Blk w g T #[a, b, c, d, e, f, u, v]) :
    (w.cell? ⟨g, 0, none⟩ = some a ∧ w.cell? ⟨g, 1, none⟩ = some b ∧ w.cell? ⟨g, 2, none⟩ = some c ∧ w.cell? ⟨g, 3, none⟩ = some d ∧ w.cell? ⟨g, 4, none⟩ = some e ∧ w.cell? ⟨g, 5, none⟩ = some f ∧ w.cell? ⟨g, 6, none⟩ = some u ∧ w.cell? ⟨g, 7, none⟩ = some v) ∧
    (w.frozen? ⟨g, 0, none⟩ = false ∧ w.frozen? ⟨g, 1, none⟩ = false ∧ w.frozen? ⟨g, 2, none⟩ = false ∧ w.frozen? ⟨g, 3, none⟩ = false ∧ w.frozen? ⟨g, 4, none⟩ = false ∧ w.frozen? ⟨g, 5, none⟩ = false ∧ w.frozen? ⟨g, 6, none⟩ = false ∧ w.frozen? ⟨g, 7, none⟩ = false) :=
  ⟨⟨h.at 0, h.at 1, h.at 2, h.at 3, h.at 4, h.at 5, h.at 6, h.at 7⟩, h.loose 0, h.loose 1, h.loose 2, h.loose 3, h.loose 4, h.loose 5, h.loose 6, h.loose 7⟩
theorem below_set8 {w w' : World} {n g : Nat} (h : Below n w w') (hg : n ≤ g) (a b c d e f u v : Value) :
    Below n w ((((((((w'.setCell ⟨g, 0, none⟩ a).setCell ⟨g, 1, none⟩ b).setCell ⟨g, 2, none⟩ c).setCell ⟨g, 3, none⟩ d).setCell ⟨g, 4, none⟩ e).setCell ⟨g, 5, none⟩ f).setCell ⟨g, 6, none⟩ u).setCell ⟨g, 7, none⟩ v) :=
  (((((((h.setCell hg a).setCell hg b).setCell hg c).setCell hg d).setCell hg e).setCell hg f).setCell hg u).setCell hg v
/-- Eight cells that hold four tags are just these. -/
theorem cur4 {cur : Array Value} {ts : List (Int × Int)} (hs : cur.size = 8) (hl : ts.length = 4) (h : ∀ j x, ts[j]? = some x → TagAt cur j x) :
    ∃ x0 x1 x2 x3 : Int × Int, ts = [x0, x1, x2, x3] ∧ cur = #[.int .i64 x0.1, .int .i64 x0.2, .int .i64 x1.1, .int .i64 x1.2, .int .i64 x2.1, .int .i64 x2.2, .int .i64 x3.1, .int .i64 x3.2] := by
  match ts, hl with
  | [x0, x1, x2, x3], _ =>
    refine ⟨x0, x1, x2, x3, rfl, ?_⟩
    obtain ⟨a0, a1⟩ := h 0 x0 rfl
    obtain ⟨b0, b1⟩ := h 1 x1 rfl
    obtain ⟨c0, c1⟩ := h 2 x2 rfl
    obtain ⟨d0, d1⟩ := h 3 x3 rfl
    apply Array.ext_getElem?
    intro i
    match i with
    | 0 => simpa using a0
    | 1 => simpa using a1
    | 2 => simpa using b0
    | 3 => simpa using b1
    | 4 => simpa using c0
    | 5 => simpa using c1
    | 6 => simpa using d0
    | 7 => simpa using d1
    | n + 8 => rw [Array.getElem?_eq_none (by omega), Array.getElem?_eq_none (by simp)]

/-- What vectorOf answers. -/
def VecOf (w : World) (ts : List (Int × Int)) (e : Ending) (w' : World) : Prop :=
  (pastB ts = true → e = .returned (.tuple #[.agg (cells4 ts), .bool true])) ∧ (pastB ts = false → e = .returned (.tuple #[.agg zero8, .bool false])) ∧ Below w.heap.size w w'

set_option maxRecDepth 100000 in
set_option maxHeartbeats 2000000 in
theorem vectorOf_any (a : Option Addr) (c : Nat) (ts : List (Int × Int)) (w : World) (hn : ts.length ≤ 1048576) (ht : Tg w w.heap.size a ts) :
    Calls Try.prog 126 #[.agg #[.slice a ts.length c]] w (VecOf w ts) := by
  by_cases h4 : ts.length = 4
  · have S0 := (((Inv.start w).box 33 #[.slice a ts.length c]).box 92 zero8).box 92 zero8
    simp only [World.size_alloc] at S0
    rw [h4] at S0 ⊢
    go_enter Try.func126, Try.ntmps126
    go_wp2
    have B1 := S0.nth 1 rfl
    have B2 := S0.nth 0 rfl
    have L0 := S0.below
    clear S0
    go_loopw [15] (fun i wr => ∃ (k : Nat) (cur : Array Value), k ≤ 4 ∧ i = .int .i64 (k : Int) ∧ Blk wr (w.heap.size + 1 + 1) 92 cur ∧ cur.size = 8 ∧ (∀ j x, j < k → ts[j]? = some x → TagAt cur j x) ∧ (∀ j x, j < k → ts[j]? = some x → okB x.1 x.2 = true) ∧ Blk wr (w.heap.size + 1) 92 zero8 ∧ Below w.heap.size w wr) (fun i _ => 4 - (intOf i).toNat)
    case atStart => exact ⟨0, _, Nat.zero_le _, rfl, B2, rfl, fun j x hj => absurd hj (by omega), fun j x hj => absurd hj (by omega), B1, L0⟩
    case round =>
      obtain ⟨k, cur, hk, rfl, hV, hsz, hcur, hall, hR, hL⟩ := hrel
      have H4 := hide h4
      have hA := hide hall
      clear hall h4 B1 B2 L0
      by_cases hlt : k < 4
      · rcases ht with h0 | ⟨b, off, rfl, hb, hx⟩
        · have := H4.out; subst h0; simp at this
        · have hkl : k < ts.length := by have := H4.out; omega
          obtain ⟨hc0, hc1⟩ := hx k _ (List.getElem?_eq_getElem hkl)
          have c0 := (hL.cell (p := ⟨b, off + k * 2, none⟩) hb).trans hc0
          have c1 := (hL.cell (p := ⟨b, off + k * 2 + 1, none⟩) hb).trans hc1
          have HX := hide (List.getElem?_eq_getElem hkl)
          generalize ts[k] = x at c0 c1 HX
          obtain ⟨x1, x2⟩ := x
          simp only at c0 c1
          clear hc0 hc1 hx
          have HC := hide hcur
          clear hcur
          have i1 : (0 : Int) ≤ (k : Int) := by omega
          have i2 : (k : Int) < 4 := by omega
          have X0 := Blk.made wr 53 #[.int .i64 x1, .int .i64 x2]
          have V0 := hV.more (.cells #[.int .i64 x1, .int .i64 x2] 53)
          have R0 := hR.more (.cells #[.int .i64 x1, .int .i64 x2] 53)
          have K0 := hL.alloc hL.size (.cells #[.int .i64 x1, .int .i64 x2] 53)
          go_wp2_with fail
          refine (implTagOk_any _ _ _).mono ?_
          rintro e w1 ⟨rfl, hb1⟩
          have hL1 := K0.trans (hb1.mono K0.size)
          have V1 := V0.on hb1
          have R1 := R0.on hb1
          have X1 := (X0.on hb1).two
          cases hok : okB x1 x2
          · have hf := hide (pastB_bad HX.out hok)
            have E1 := R1.eight
            clear hok
            go_wp2
            refine bodyPost_ret (v := .tuple #[.agg zero8, .bool false]) (by simp [results, Try.results126, go_sem, E1]) rfl ?_
            exact ⟨fun h => (by rw [hf.out] at h; cases h), fun _ => rfl, below_set8 hL1 (by omega) _ _ _ _ _ _ _ _⟩
          · have HA := hide (show ∀ j x, j < k + 1 → ts[j]? = some x → okB x.1 x.2 = true from fun j x hj hx => by
              by_cases e : j = k
              · subst e
                have h1 := HX.out
                rw [h1] at hx
                injection hx with hx
                subst hx
                exact hok
              · exact hA.out j x (by omega) hx)
            have hs0 : k * 2 < cur.size := by omega
            have hs1 : k * 2 + 1 < cur.size := by omega
            have HS := hide (tagAt_step (ts := ts) hs1 HX.out HC.out)
            have d0 : w1.cell? ⟨w.heap.size + 1 + 1, k * 2, none⟩ = some cur[k * 2] := by rw [V1.at]; exact Array.getElem?_eq_getElem hs0
            have d1 : w1.cell? ⟨w.heap.size + 1 + 1, k * 2 + 1, none⟩ = some cur[k * 2 + 1] := by rw [V1.at]; exact Array.getElem?_eq_getElem hs1
            have f0 := V1.loose (k * 2)
            have f1 := V1.loose (k * 2 + 1)
            clear hok
            go_wp2
            exact ⟨⟨k + 1, _, by omega, by go_num, (V1.put _ _).put _ _, by simp [hsz], HS.out, HA.out, (R1.aside (by simp) _).aside (by simp) _, (hL1.setCell (by simp; omega) _).setCell (by simp; omega) _⟩, by simp [intOf]; omega⟩
      · have hk4 : k = 4 := by omega
        subst hk4
        clear hlt
        have hin : ∀ (j : Nat) (x : Int × Int), ts[j]? = some x → j < 4 := fun j x hx => by have := (List.getElem?_eq_some_iff.1 hx).1; have := H4.out; omega
        obtain ⟨x0, x1, x2, x3, hts, hcu⟩ := cur4 hsz H4.out (fun j x hx => hcur j x (hin j x hx) hx)
        have hf := hide (pastB_ok H4.out (fun j x hx => hA.out j x (hin j x hx) hx))
        have HT := hide hts
        clear hin hcur hA hts
        subst hcu
        have E1 := hR.eight
        have E2 := hV.eight
        go_wp2
        refine bodyPost_ret (v := .tuple #[.agg (cells4 [x0, x1, x2, x3]), .bool true]) (by simp [results, Try.results126, go_sem, E1, cells4]) rfl ?_
        exact ⟨fun _ => by rw [HT.out], fun h => (by rw [hf.out] at h; cases h), below_set8 hL (by omega) _ _ _ _ _ _ _ _⟩
  · have h4' : ((ts.length : Int) != 4) = true := by simp; omega
    have hf := hide (pastB_len h4)
    clear h4
    go_enter Try.func126, Try.ntmps126
    go_wp2
    refine bodyPost_ret (v := .tuple #[.agg zero8, .bool false]) (by simp [results, Try.results126, go_sem]) rfl ?_
    exact ⟨fun h => (by rw [hf.out] at h; cases h), fun _ => rfl, ((Below.refl _ _).alloc (Nat.le_refl _) _).alloc (by simp) _⟩

theorem cells4_eq (x0 x1 x2 x3 : Int × Int) : cells4 [x0, x1, x2, x3] = #[.int .i64 x0.1, .int .i64 x0.2, .int .i64 x1.1, .int .i64 x1.2, .int .i64 x2.1, .int .i64 x2.2, .int .i64 x3.1, .int .i64 x3.2] := by simp [cells4]
theorem four_of {ts : List (Int × Int)} (h : pastB ts = true) : ∃ x0 x1 x2 x3 : Int × Int, ts = [x0, x1, x2, x3] := by
  unfold pastB at h
  simp at h
  match ts, h.1 with
  | [x0, x1, x2, x3], _ => exact ⟨x0, x1, x2, x3, rfl⟩

set_option maxHeartbeats 1000000 in
theorem implPastOk_any (a : Option Addr) (c : Nat) (ts : List (Int × Int)) (w : World) (hn : ts.length ≤ 1048576) (ht : Tg w w.heap.size a ts) :
    Calls Try.prog 109 #[.agg #[.slice a ts.length c]] w fun e w' => e = .returned (.bool (pastB ts)) ∧ Below w.heap.size w w' := by
  have L0 := below_alloc1 w (.cells #[.slice a ts.length c] 33)
  go_enter Try.func109, Try.ntmps109
  go_wp2_with fail
  refine (vectorOf_any a c ts _ hn ((ht.on L0).up L0.size)).mono ?_
  rintro e w1 ⟨h1, h2, hb1⟩
  have hl := L0.trans (hb1.mono L0.size)
  cases hp : pastB ts
  · have he := h2 hp
    have HP := hide hp
    subst he
    clear h1 h2 L0 ht hp
    go_wp2
    go_ret
    exact ⟨ret_bool HP.out.symm, hl.alloc hl.size _⟩
  · have he := h1 hp
    have HP := hide hp
    obtain ⟨x0, x1, x2, x3, rfl⟩ := four_of hp
    rw [cells4_eq] at he
    subst he
    clear h1 h2 L0 ht hp
    go_wp2
    go_ret
    exact ⟨ret_bool HP.out.symm, hl.alloc hl.size _⟩
end Go.Proofs.Ytpelibkdphgpjaa
/- Contracts of the laws' functions that write marks into a vector's own memory and look whether they stand. Condition: at most 1048576 tags, marks within bounds. -/
namespace Go.Proofs.Ytpelibkdphgpjaa
open Go.RowKit Go.Joins

/-- The marks that n tags bear, from number k on. -/
def marksL (k : Int) (n : Nat) : List (Int × Int) := (List.range n).map fun (i : Nat) => (k + 2 * (i : Int), k + 2 * (i : Int) + 1)
theorem marksL_len (k : Int) (n : Nat) : (marksL k n).length = n := by simp [marksL]
theorem marksL_at (k : Int) (n i : Nat) (h : i < n) : (marksL k n)[i]? = some (k + 2 * (i : Int), k + 2 * (i : Int) + 1) := by simp [marksL, h]

theorem int_val {a b : Int} (h : a = b) : Value.int .i64 a = .int .i64 b := by rw [h]
theorem grown_own {w w' : World} {g i : Nat} (h : w.grownBy w' (some g)) (u : Value) : w.grownBy (w'.setCell ⟨g, i, none⟩ u) (some g) :=
  ⟨h.os, h.tape, h.output, by simpa [World.setCell] using h.size, fun k hk hne => (Below.heap_setCell w' _ u k (by rintro rfl; exact hne rfl)).trans (h.block k hk hne)⟩
/-- One known block has turned; the others are as they were. -/
theorem Inv.turn {w w1 w2 : World} {n g : Nat} {bs bs' : List (Nat × TypeId × Array Value)} (h : Inv w n bs w1) (hg : w1.grownBy w2 (some g)) (hw : w.heap.size ≤ g)
    (hs : ∀ x ∈ bs', (x ∈ bs ∧ x.1 ≠ g) ∨ (x.1 = g ∧ g < n ∧ Blk w2 g x.2.1 x.2.2)) : Inv w n bs' w2 := by
  refine ⟨h.below.grown hg h.below.size (fun k hk => by injection hk; omega), Nat.le_trans h.room hg.size, fun x hx => ?_⟩
  rcases hs x hx with ⟨hm, hne⟩ | ⟨rfl, hlt, hb⟩
  · exact ⟨(h.blk x hm).1, (h.blk x hm).2.1, (h.blk x hm).2.2.kept hg (by intro e; injection e; omega)⟩
  · exact ⟨hw, hlt, hb⟩

/-- What marking leaves: the marks in the row's own block; no other block has turned. -/
def MarkedS (w : World) (g : Nat) (T : TypeId) (size n : Nat) (k : Int) (e : Ending) (w' : World) : Prop :=
  e = .returned (.int .i64 (k + 2 * (n : Int))) ∧ (∃ cur', Blk w' g T cur' ∧ cur'.size = size ∧ ∀ i x, (marksL k n)[i]? = some x → TagAt cur' i x) ∧ w.grownBy w' (some g)

set_option maxRecDepth 100000 in
set_option maxHeartbeats 1000000 in
theorem markTagS_any (g c n : Nat) (T : TypeId) (cur : Array Value) (k : Int) (w : World) (hB : Blk w g T cur) (hs : n * 2 ≤ cur.size) (hn : n ≤ 1048576) (hk0 : 0 ≤ k) (hk : k ≤ 1000000000) :
    Calls Try.prog 77 #[.slice (some ⟨g, 0, none⟩) n c, .int .i64 k] w (MarkedS w g T cur.size n k) := by
  go_enter Try.func77, Try.ntmps77
  go_wp2
  go_loopw [1, 5] (fun v i wr => ∃ (j : Nat) (cr : Array Value), j ≤ n ∧ i = .int .i64 (j : Int) ∧ v = .int .i64 (k + 2 * (j : Int)) ∧ Blk wr g T cr ∧ cr.size = cur.size ∧ (∀ i x, i < j → (marksL k n)[i]? = some x → TagAt cr i x) ∧ w.grownBy wr (some g)) (fun _ i _ => n - (intOf i).toNat)
  case atStart => exact ⟨0, cur, Nat.zero_le _, rfl, by simp, hB, rfl, fun i x hi => absurd hi (by omega), World.grownBy.refl _ _⟩
  case round =>
    obtain ⟨j, cr, hj, rfl, rfl, hC, hsz, hall, hG⟩ := hrel
    by_cases hlt : j < n
    · have hs0 : j * 2 < cr.size := by omega
      have hs1 : j * 2 + 1 < cr.size := by omega
      have HA := hide (tagAt_step hs1 (marksL_at k n j hlt) hall)
      have HZ := hide hsz
      have d0 : wr.cell? ⟨g, j * 2, none⟩ = some cr[j * 2] := by rw [hC.at]; exact Array.getElem?_eq_getElem hs0
      have d1 : wr.cell? ⟨g, j * 2 + 1, none⟩ = some cr[j * 2 + 1] := by rw [hC.at]; exact Array.getElem?_eq_getElem hs1
      have f0 := hC.loose (j * 2)
      have f1 := hC.loose (j * 2 + 1)
      clear hall hsz
      go_wp2
      exact ⟨⟨j + 1, _, by omega, by go_num, int_val (by omega), (hC.put _ _).put _ _, by simp; exact HZ.out, HA.out, grown_own (grown_own hG _) _⟩, by simp [intOf]; omega⟩
    · have hjn : j = n := by omega
      subst hjn
      clear hlt
      have HA := hide hall
      clear hall
      go_wp2
      go_ret
      exact ⟨rfl, ⟨cr, hC, hsz, fun i x hx => HA.out i x (by have := (List.getElem?_eq_some_iff.1 hx).1; rw [marksL_len] at this; exact this) hx⟩, hG⟩

set_option maxHeartbeats 1000000 in
theorem markPast_any (g c n : Nat) (T : TypeId) (cur : Array Value) (k : Int) (w : World) (hB : Blk w g T cur) (hs : n * 2 ≤ cur.size) (hn : n ≤ 1048576) (hk0 : 0 ≤ k) (hk : k ≤ 1000000000) :
    Calls Try.prog 34 #[.agg #[.slice (some ⟨g, 0, none⟩) n c], .int .i64 k] w (MarkedS w g T cur.size n k) := by
  have L0 := below_alloc1 w (.cells #[.slice (some ⟨g, 0, none⟩) n c] 33)
  go_enter Try.func34, Try.ntmps34
  go_wp2_with fail
  refine (markTagS_any g c n T cur k _ (hB.on L0) hs hn hk0 hk).mono ?_
  rintro e w1 ⟨rfl, hm, hG⟩
  have G0 := (World.grownBy_alloc w (.cells #[.slice (some ⟨g, 0, none⟩) n c] 33) (some g)).trans hG
  have HM := hide hm
  clear hm
  go_wp2
  go_ret
  exact ⟨rfl, HM.out, G0⟩

set_option maxHeartbeats 1000000 in
/-- A vector without a place of its own bears no mark. -/
theorem markPast_nil (a : Option Addr) (c : Nat) (k : Int) (w : World) :
    Calls Try.prog 34 #[.agg #[.slice a 0 c], .int .i64 k] w fun e w' => e = .returned (.int .i64 k) ∧ Below w.heap.size w w' := by
  have hm : ∀ W : World, Calls Try.prog 77 #[.slice a 0 c, .int .i64 k] W fun e w' => e = .returned (.int .i64 k) ∧ W = w' := by
    intro W
    go_enter Try.func77, Try.ntmps77
    go_wp2
    go_loop [1, 5] (fun v i => v = .int .i64 k ∧ i = .int .i64 0) (fun _ _ => 0)
    case atStart => exact ⟨rfl, rfl⟩
    case round =>
      obtain ⟨rfl, rfl⟩ := hrel
      go_wp2
      go_ret
      exact ⟨rfl, rfl⟩
  have HM := hide hm
  clear hm
  go_enter Try.func34, Try.ntmps34
  go_wp2_with fail
  refine (HM.out _).mono ?_
  rintro e w1 ⟨rfl, rfl⟩
  go_wp2
  go_ret
  exact ⟨rfl, below_alloc1 _ _⟩

set_option maxRecDepth 100000 in
set_option maxHeartbeats 1000000 in
theorem heldTagS_any (a : Option Addr) (c n : Nat) (k : Int) (w : World) (hn : n ≤ 1048576) (hk0 : 0 ≤ k) (hk : k ≤ 1000000000) (ht : Tg w w.heap.size a (marksL k n)) :
    Calls Try.prog 78 #[.slice a n c, .int .i64 k] w fun e w' => e = .returned (.int .i64 (k + 2 * (n : Int))) ∧ w = w' := by
  go_enter Try.func78, Try.ntmps78
  go_wp2
  go_loop [1, 5] (fun v i => ∃ j : Nat, j ≤ n ∧ i = .int .i64 (j : Int) ∧ v = .int .i64 (k + 2 * (j : Int))) (fun _ i => n - (intOf i).toNat)
  case atStart => exact ⟨0, Nat.zero_le _, rfl, by simp⟩
  case round =>
    obtain ⟨j, hj, rfl, rfl⟩ := hrel
    by_cases hlt : j < n
    · rcases ht with h0 | ⟨b, off, rfl, hb, hx⟩
      · have := marksL_len k n; rw [h0] at this; simp at this; omega
      · obtain ⟨c0, c1⟩ := hx j _ (marksL_at k n j hlt)
        simp only at c0 c1
        clear hx
        go_wp2
        exact ⟨⟨j + 1, by omega, by go_num, int_val (by omega)⟩, by simp [intOf]; omega⟩
    · have hjn : j = n := by omega
      subst hjn
      clear hlt
      go_wp2
      go_ret
      exact ⟨rfl, rfl⟩

set_option maxHeartbeats 1000000 in
theorem heldPast_any (a : Option Addr) (c n : Nat) (k : Int) (w : World) (hn : n ≤ 1048576) (hk0 : 0 ≤ k) (hk : k ≤ 1000000000) (ht : Tg w w.heap.size a (marksL k n)) :
    Calls Try.prog 35 #[.agg #[.slice a n c], .int .i64 k] w fun e w' => e = .returned (.int .i64 (k + 2 * (n : Int))) ∧ Below w.heap.size w w' := by
  have L0 := below_alloc1 w (.cells #[.slice a n c] 33)
  go_enter Try.func35, Try.ntmps35
  go_wp2_with fail
  refine (heldTagS_any a c n k _ hn hk0 hk ((ht.on L0).up L0.size)).mono ?_
  rintro e w1 ⟨rfl, rfl⟩
  go_wp2
  go_ret
  exact ⟨rfl, L0⟩
end Go.Proofs.Ytpelibkdphgpjaa
/- Contracts of the functions that join vectors of tags, in the program and in the model. Condition: at most 1048576 tags. -/
namespace Go.Proofs.Ytpelibkdphgpjaa
open Go.RowKit Go.Joins
attribute [local go_sem ↓] Go.wp_at_zero Go.wp_at_succ

/-- The later one of two tags. -/
def mxp (x y : Int × Int) : Int × Int := (mxT x.1 x.2 y.1 y.2, mxP x.1 x.2 y.1 y.2)
/-- The later one at each place. -/
def mxL (ts us : List (Int × Int)) : List (Int × Int) := List.zipWith mxp ts us
theorem mxL_at {ts us : List (Int × Int)} {k : Nat} {x y : Int × Int} (hx : ts[k]? = some x) (hy : us[k]? = some y) : (mxL ts us)[k]? = some (mxp x y) := by
  unfold mxL; rw [List.getElem?_zipWith, hx, hy]
/-- Tags as cells, one behind the other. -/
def flatT (ts : List (Int × Int)) : List Value := ts.flatMap fun x => [Value.int .i64 x.1, Value.int .i64 x.2]
theorem flatT_snoc (ts : List (Int × Int)) (x : Int × Int) : flatT (ts ++ [x]) = flatT ts ++ [.int .i64 x.1, .int .i64 x.2] := by simp [flatT]
theorem flatT_take {ts : List (Int × Int)} {k : Nat} {x : Int × Int} (h : ts[k]? = some x) : flatT (ts.take (k + 1)) = flatT (ts.take k) ++ [.int .i64 x.1, .int .i64 x.2] := by
  rw [List.take_add_one, h]
  exact flatT_snoc _ _
theorem flatT_one (ts : List (Int × Int)) : ∀ u ∈ flatT ts, u.oneCell' = true := by
  intro u hu
  simp only [flatT, List.mem_flatMap] at hu
  obtain ⟨x, _, hx⟩ := hu
  simp at hx
  rcases hx with rfl | rfl <;> rfl
theorem flatT_at : ∀ (ts : List (Int × Int)) (i : Nat) (x : Int × Int), ts[i]? = some x → (flatT ts)[i * 2]? = some (.int .i64 x.1) ∧ (flatT ts)[i * 2 + 1]? = some (.int .i64 x.2)
  | [], i, x, h => by simp at h
  | y :: ts, 0, x, h => by
    simp at h
    subst h
    simp [flatT]
  | y :: ts, i + 1, x, h => by
    have := flatT_at ts i x (by simpa using h)
    have e : flatT (y :: ts) = .int .i64 y.1 :: .int .i64 y.2 :: flatT ts := by simp [flatT]
    rw [e, show (i + 1) * 2 = i * 2 + 1 + 1 by omega]
    simpa using this

theorem own_on {w w' : World} {base : Nat} {e : TypeId} {size : Nat} {v : Value} {n : Nat} {xs : List Value} (h : w.ownsRow base e size v n xs) (hb : Below w.heap.size w w') : w'.ownsRow base e size v n xs :=
  h.kept (row := none) (grown_none hb) (Classical.em _)

/-- What the round of a join holds: the two tags that it reads, where they lie, and the rest. -/
theorem jheld {w w' : World} {n b off b' off' k c c' : Nat} {x1 x2 y1 y2 : Int} {T : TypeId} {bs : List (Nat × TypeId × Array Value)} {q : Nat × TypeId × Array Value}
    (C0 : Hid (w.cell? ⟨b, off + k * 2, none⟩ = some (.int .i64 x1))) (C1 : Hid (w.cell? ⟨b, off + k * 2 + 1, none⟩ = some (.int .i64 x2)))
    (D0 : Hid (w.cell? ⟨b', off' + k * 2, none⟩ = some (.int .i64 y1))) (D1 : Hid (w.cell? ⟨b', off' + k * 2 + 1, none⟩ = some (.int .i64 y2))) (hb : b < w.heap.size) (hb' : b' < w.heap.size)
    (h : Inv w n (q :: (w.heap.size + 1, T, #[.slice (some ⟨b', off', none⟩) 4 c']) :: (w.heap.size, T, #[.slice (some ⟨b, off, none⟩) 4 c]) :: bs) w') :
    w'.cell? ⟨b, off + k * 2, none⟩ = some (.int .i64 x1) ∧ w'.cell? ⟨b, off + k * 2 + 1, none⟩ = some (.int .i64 x2) ∧ w'.cell? ⟨b', off' + k * 2, none⟩ = some (.int .i64 y1) ∧ w'.cell? ⟨b', off' + k * 2 + 1, none⟩ = some (.int .i64 y2) ∧
    w'.cell? ⟨w.heap.size, 0, none⟩ = some (.slice (some ⟨b, off, none⟩) 4 c) ∧ w'.cell? ⟨w.heap.size + 1, 0, none⟩ = some (.slice (some ⟨b', off', none⟩) 4 c') ∧
    Inv w n (q :: (w.heap.size + 1, T, #[.slice (some ⟨b', off', none⟩) 4 c']) :: (w.heap.size, T, #[.slice (some ⟨b, off, none⟩) 4 c]) :: bs) w' :=
  ⟨(h.below.cell (p := ⟨b, off + k * 2, none⟩) hb).trans C0.out, (h.below.cell (p := ⟨b, off + k * 2 + 1, none⟩) hb).trans C1.out, (h.below.cell (p := ⟨b', off' + k * 2, none⟩) hb').trans D0.out, (h.below.cell (p := ⟨b', off' + k * 2 + 1, none⟩) hb').trans D1.out, (h.nth 2 rfl).at 0, (h.nth 1 rfl).at 0, h⟩
/-- An append onto a row of the call's own, from block n on, turns none of the known blocks. -/
theorem Inv.grow {w w1 w2 : World} {n : Nat} {bs : List (Nat × TypeId × Array Value)} {row : Option Nat} (h : Inv w n bs w1) (hg : w1.grownBy w2 row) (hr : ∀ g, row = some g → n ≤ g ∧ w.heap.size ≤ g) : Inv w n bs w2 :=
  ⟨h.below.grown hg h.below.size (fun k hk => (hr k hk).2), Nat.le_trans h.room hg.size, fun x hx => ⟨(h.blk x hx).1, (h.blk x hx).2.1, (h.blk x hx).2.2.kept hg (by intro e; have := (hr _ e).1; have := (h.blk x hx).2.1; omega)⟩⟩

/-- Four tags at a row's beginning. -/
theorem tags_of_take {cr : Array Value} {ts : List (Int × Int)} (h : cr.toList.take (4 * 2) = flatT (ts.take 4)) : ∀ i x, i < 4 → ts[i]? = some x → TagAt cr i x := by
  intro i x hi hx
  have h1 := flatT_at (ts.take 4) i x (by rw [List.getElem?_take_of_lt hi]; exact hx)
  rw [← h, List.getElem?_take_of_lt (by omega), List.getElem?_take_of_lt (by omega)] at h1
  exact ⟨by simpa using h1.1, by simpa using h1.2⟩

/-- What a join leaves: the joined tags in a row of its own. -/
def JoinedP (w : World) (ts : List (Int × Int)) (e : Ending) (w' : World) : Prop :=
  ∃ (g cap : Nat) (T : TypeId) (cur : Array Value), e = .returned (.agg #[.slice (some ⟨g, 0, none⟩) 4 cap]) ∧ w.heap.size ≤ g ∧ Blk w' g T cur ∧ 8 ≤ cur.size ∧ (∀ i x, ts[i]? = some x → TagAt cur i x) ∧ Below w.heap.size w w'

/-- A store into the vector at hand turns neither the tag's box nor the answer. -/
theorem jset {w w1 : World} {m : Nat} {T T' : TypeId} {c0 c1 : Value} {cs : Array Value} {i j : Nat} {u v : Value} (h : Inv w (m + 1) [(m, T, #[c0, c1]), (w.heap.size + 1 + 1, T', cs)] w1) (hm : w.heap.size < m) (_hm2 : w.heap.size < m + 1) :
    ((w1.setCell ⟨w.heap.size, i, none⟩ u).setCell ⟨w.heap.size, j, none⟩ v).cell? ⟨m, 0, none⟩ = some c0 ∧ ((w1.setCell ⟨w.heap.size, i, none⟩ u).setCell ⟨w.heap.size, j, none⟩ v).cell? ⟨m, 1, none⟩ = some c1 ∧
    Inv w (m + 1) [(m, T, #[c0, c1]), (w.heap.size + 1 + 1, T', cs)] ((w1.setCell ⟨w.heap.size, i, none⟩ u).setCell ⟨w.heap.size, j, none⟩ v) := by
  have h2 : Inv w (m + 1) [(m, T, #[c0, c1]), (w.heap.size + 1 + 1, T', cs)] ((w1.setCell ⟨w.heap.size, i, none⟩ u).setCell ⟨w.heap.size, j, none⟩ v) := by
    refine h.turn (g := w.heap.size) (grown_own (grown_own (World.grownBy.refl _ _) u) v) (Nat.le_refl _) (fun x hx => .inl ⟨hx, ?_⟩)
    simp only [List.mem_cons, List.not_mem_nil, or_false] at hx
    rcases hx with rfl | rfl
    · show m ≠ w.heap.size; omega
    · show w.heap.size + 1 + 1 ≠ w.heap.size; omega
  exact ⟨(h2.nth 0 rfl).at 0, (h2.nth 0 rfl).at 1, h2⟩

/-- The eight cells of a vector in the midst of a join. -/
def jcells (x0 x1 x2 x3 y0 y1 y2 y3 : Int × Int) (k : Nat) : Array Value :=
  match k with
  | 0 => #[.int .i64 x0.1, .int .i64 x0.2, .int .i64 x1.1, .int .i64 x1.2, .int .i64 x2.1, .int .i64 x2.2, .int .i64 x3.1, .int .i64 x3.2]
  | 1 => #[.int .i64 (mxp x0 y0).1, .int .i64 (mxp x0 y0).2, .int .i64 x1.1, .int .i64 x1.2, .int .i64 x2.1, .int .i64 x2.2, .int .i64 x3.1, .int .i64 x3.2]
  | 2 => #[.int .i64 (mxp x0 y0).1, .int .i64 (mxp x0 y0).2, .int .i64 (mxp x1 y1).1, .int .i64 (mxp x1 y1).2, .int .i64 x2.1, .int .i64 x2.2, .int .i64 x3.1, .int .i64 x3.2]
  | 3 => #[.int .i64 (mxp x0 y0).1, .int .i64 (mxp x0 y0).2, .int .i64 (mxp x1 y1).1, .int .i64 (mxp x1 y1).2, .int .i64 (mxp x2 y2).1, .int .i64 (mxp x2 y2).2, .int .i64 x3.1, .int .i64 x3.2]
  | _ => #[.int .i64 (mxp x0 y0).1, .int .i64 (mxp x0 y0).2, .int .i64 (mxp x1 y1).1, .int .i64 (mxp x1 y1).2, .int .i64 (mxp x2 y2).1, .int .i64 (mxp x2 y2).2, .int .i64 (mxp x3 y3).1, .int .i64 (mxp x3 y3).2]

end Go.Proofs.Ytpelibkdphgpjaa
/- Contracts of PastJoin and PastNone, in the program and in the model. Condition: at most 1048576 tags. -/
namespace Go.Proofs.Ytpelibkdphgpjaa
open Go.RowKit Go.Joins

theorem tagAt_eight (z0 z1 z2 z3 : Int × Int) : ∀ i x, [z0, z1, z2, z3][i]? = some x → TagAt #[.int .i64 z0.1, .int .i64 z0.2, .int .i64 z1.1, .int .i64 z1.2, .int .i64 z2.1, .int .i64 z2.2, .int .i64 z3.1, .int .i64 z3.2] i x := by
  intro i x h
  match i with
  | 0 => simp at h; subst h; exact ⟨rfl, rfl⟩
  | 1 => simp at h; subst h; exact ⟨rfl, rfl⟩
  | 2 => simp at h; subst h; exact ⟨rfl, rfl⟩
  | 3 => simp at h; subst h; exact ⟨rfl, rfl⟩
  | n + 4 => simp at h

set_option maxHeartbeats 1000000 in
theorem past_any (z0 z1 z2 z3 : Int × Int) (w : World) :
    Calls Try.prog 53 #[.agg #[.int .i64 z0.1, .int .i64 z0.2, .int .i64 z1.1, .int .i64 z1.2, .int .i64 z2.1, .int .i64 z2.2, .int .i64 z3.1, .int .i64 z3.2]] w (JoinedP w [z0, z1, z2, z3]) := by
  have S0 := ((Inv.start w).box 92 #[.int .i64 z0.1, .int .i64 z0.2, .int .i64 z1.1, .int .i64 z1.2, .int .i64 z2.1, .int .i64 z2.2, .int .i64 z3.1, .int .i64 z3.2]).box 33 #[.slice none 0 0]
  simp only [World.size_alloc] at S0
  have L0 := S0.below
  clear S0
  go_enter Try.func53, Try.ntmps53
  go_wp2
  refine bodyPost_ret (v := .agg #[.slice (some ⟨w.heap.size, 0, none⟩) 4 4]) (by simp [results, Try.results53, go_sem]) rfl ?_
  exact ⟨w.heap.size, 4, 92, #[.int .i64 z0.1, .int .i64 z0.2, .int .i64 z1.1, .int .i64 z1.2, .int .i64 z2.1, .int .i64 z2.2, .int .i64 z3.1, .int .i64 z3.2], rfl, Nat.le_refl _, (Blk.made w 92 #[.int .i64 z0.1, .int .i64 z0.2, .int .i64 z1.1, .int .i64 z1.2, .int .i64 z2.1, .int .i64 z2.2, .int .i64 z3.1, .int .i64 z3.2]).more _, by simp, tagAt_eight z0 z1 z2 z3, below_alloc2 _ _ _⟩

abbrev z4 : List (Int × Int) := [(0, 0), (0, 0), (0, 0), (0, 0)]

set_option maxHeartbeats 1000000 in
theorem implPastNone_any (w : World) : Calls Try.prog 17 #[] w (JoinedP w z4) := by
  have S0 := (Inv.start w).box 33 #[.slice none 0 0]
  simp only [World.size_alloc] at S0
  go_enter Try.func17, Try.ntmps17
  go_wp2_with fail
  generalize w.alloc (.cells #[.slice none 0 0] 33) = W at S0 ⊢
  refine (past_any (0, 0) (0, 0) (0, 0) (0, 0) W).mono ?_
  rintro e w3 ⟨g, cap, T, cur, rfl, hg, hB, hsz, hcur, hb3⟩
  have S3 := S0.on hb3
  have q1 := (S3.nth 0 rfl).one
  have hL := S3.below
  have hr := S0.room
  have HC := hide hcur
  clear S0 S3 hcur
  go_wp2
  refine bodyPost_ret (v := .agg #[.slice (some ⟨g, 0, none⟩) 4 cap]) (by simp [results, Try.results17, go_sem, q1]) rfl ?_
  exact ⟨g, cap, T, cur, rfl, by omega, hB.aside (by simp; omega) _, hsz, HC.out, hL.setCell (by simp) _⟩
end Go.Proofs.Ytpelibkdphgpjaa
/- Contracts of the draws of vectors: three or four tags of the drawn kinds, in memory of their own; and of the laws' comparison of two vectors. Condition: as in Draw. -/
namespace Go.Proofs.Ytpelibkdphgpjaa
open Go.RowKit Go.Joins
attribute [local go_sem ↓] Go.wp_at_zero Go.wp_at_succ

/-- A drawn vector: its tags lie in a block that is neither old nor the reader's. -/
def PastIn (w : World) (lo g : Nat) (a : Option Addr) (ts : List (Int × Int)) : Prop :=
  ∃ b off : Nat, a = some ⟨b, off, none⟩ ∧ lo ≤ b ∧ b ≠ g ∧ b < w.heap.size ∧ ∀ i x, ts[i]? = some x → w.cell? ⟨b, off + i * 2, none⟩ = some (.int .i64 x.1) ∧ w.cell? ⟨b, off + i * 2 + 1, none⟩ = some (.int .i64 x.2)
theorem PastIn.tg {w : World} {lo g : Nat} {a : Option Addr} {ts : List (Int × Int)} (h : PastIn w lo g a ts) : Tg w w.heap.size a ts := by
  obtain ⟨b, off, ha, _, _, hb, hx⟩ := h
  exact .inr ⟨b, off, ha, hb, hx⟩
theorem PastIn.kept {w w' : World} {lo g : Nat} {a : Option Addr} {ts : List (Int × Int)} (h : PastIn w lo g a ts) (hg : w.grownBy w' (some g)) : PastIn w' lo g a ts := by
  obtain ⟨b, off, ha, hl, hne, hb, hx⟩ := h
  refine ⟨b, off, ha, hl, hne, Nat.lt_of_lt_of_le hb hg.size, fun i x hi => ?_⟩
  have hk : ∀ o : Nat, w'.cell? ⟨b, o, none⟩ = w.cell? ⟨b, o, none⟩ := fun o => World.cell?_of_block (w := w) (w' := w') (a := ⟨b, o, none⟩) (hg.block b hb (fun e => hne (by injection e)))
  exact ⟨(hk _).trans (hx i x hi).1, (hk _).trans (hx i x hi).2⟩
theorem PastIn.on {w w' : World} {lo g : Nat} {a : Option Addr} {ts : List (Int × Int)} (h : PastIn w lo g a ts) (hb : Below w.heap.size w w') : PastIn w' lo g a ts := h.kept (grown_none hb)
theorem PastIn.low {w : World} {lo lo' g : Nat} {a : Option Addr} {ts : List (Int × Int)} (h : PastIn w lo g a ts) (hl : lo' ≤ lo) : PastIn w lo' g a ts := by
  obtain ⟨b, off, ha, h1, h2⟩ := h
  exact ⟨b, off, ha, by omega, h2⟩

/-- What a draw of a vector leaves. -/
def DrawnPast (w : World) (g : Nat) (ra : Option Addr) (len cap m d : Nat) (e : Ending) (w' : World) : Prop :=
  ∃ (a : Option Addr) (c : Nat) (ts : List (Int × Int)), e = .returned (.agg #[.slice a ts.length c]) ∧ (ts.length = 3 ∨ ts.length = 4) ∧ PastIn w' w.heap.size g a ts ∧ w.grownBy w' (some g) ∧ Rd w' g ra len cap (m + d)

theorem neq_ne {x1 x2 y1 y2 : Int} (h : ¬(x1 = y1 ∧ x2 = y2)) (W : World) : (binOp .neq 53 (.agg #[.int .i64 x1, .int .i64 x2]) (.agg #[.int .i64 y1, .int .i64 y2])).run Try.prog W = .ok (.bool true) W := by
  by_cases ht : x1 = y1
  · have hp : ¬ x2 = y2 := fun e => h ⟨ht, e⟩
    subst ht
    clear h
    go_simp
  · clear h
    go_simp

set_option maxRecDepth 100000 in
set_option maxHeartbeats 1000000 in
theorem cfPast_any (a a' : Option Addr) (c c' : Nat) (ts us : List (Int × Int)) (w : World) (hn : ts.length ≤ 1048576) (_hn' : us.length ≤ 1048576) (ht : Tg w w.heap.size a ts) (hu : Tg w w.heap.size a' us) :
    Calls Try.prog 15 #[.agg #[.slice a ts.length c], .agg #[.slice a' us.length c']] w fun e w' => e = .returned (.bool (decide (ts = us))) ∧ Below w.heap.size w w' := by
  have S0 := ((Inv.start w).box 33 #[.slice a ts.length c]).box 33 #[.slice a' us.length c']
  simp only [World.size_alloc] at S0
  by_cases hlen : ts.length = us.length
  · have hd : Hid (ts.take ts.length = us.take us.length ↔ ts = us) := by unfold Hid; rw [List.take_length, List.take_length]
    rw [← hlen] at S0 hd ⊢
    generalize hnn : ts.length = n at *
    have HN := hide hnn
    have HL := hide hlen
    clear hnn hlen
    go_enter Try.func15, Try.ntmps15
    go_wp2
    go_loopw [5] (fun i wr => ∃ k : Nat, k ≤ n ∧ i = .int .i64 (k : Int) ∧ Hid (ts.take k = us.take k) ∧ Inv w (w.heap.size + 1 + 1) [(w.heap.size + 1, 33, #[.slice a' n c']), (w.heap.size, 33, #[.slice a n c])] wr) (fun i _ => n - (intOf i).toNat)
    case atStart => exact ⟨0, Nat.zero_le _, rfl, by simp [Hid], S0⟩
    case round =>
      obtain ⟨k, hk, rfl, heq, hI⟩ := hrel
      clear S0
      have q0 := (hI.nth 0 rfl).one.1
      have q1 := (hI.nth 1 rfl).one.1
      by_cases hlt : k < n
      · rcases ht with h0 | ⟨b, off, rfl, hb, hx⟩
        · have := HN.out; subst h0; simp at this; omega
        · rcases hu with h0 | ⟨b', off', rfl, hb', hx'⟩
          · have := HL.out; subst h0; simp at this; omega
          · have hkl : k < ts.length := by have := HN.out; omega
            have hkl' : k < us.length := by have := HL.out; omega
            obtain ⟨hc0, hc1⟩ := hx k _ (List.getElem?_eq_getElem hkl)
            obtain ⟨hd0, hd1⟩ := hx' k _ (List.getElem?_eq_getElem hkl')
            have c0 := (hI.below.cell (p := ⟨b, off + k * 2, none⟩) hb).trans hc0
            have c1 := (hI.below.cell (p := ⟨b, off + k * 2 + 1, none⟩) hb).trans hc1
            have d0 := (hI.below.cell (p := ⟨b', off' + k * 2, none⟩) hb').trans hd0
            have d1 := (hI.below.cell (p := ⟨b', off' + k * 2 + 1, none⟩) hb').trans hd1
            have HX := hide (List.getElem?_eq_getElem hkl)
            have HY := hide (List.getElem?_eq_getElem hkl')
            generalize ts[k] = x at c0 c1 HX
            generalize us[k] = y at d0 d1 HY
            obtain ⟨x1, x2⟩ := x
            obtain ⟨y1, y2⟩ := y
            simp only at c0 c1 d0 d1
            clear hc0 hc1 hd0 hd1 hx hx'
            have i1 : (0 : Int) ≤ (k : Int) := by omega
            have i2 : (k : Int) < (n : Int) := by omega
            have hI2 := hI.drew
            by_cases hxy : x1 = y1 ∧ x2 = y2
            · obtain ⟨rfl, rfl⟩ := hxy
              have HS := hide (take_eq_step HX.out HY.out heq.out rfl)
              clear heq
              go_wp2_with fail
              refine wp_region_noPanic ?_
              refine wp_region_held_drew (S := (fun w' => w'.cell? ⟨b, off + k * 2, none⟩ = some (.int .i64 x1) ∧ w'.cell? ⟨b, off + k * 2 + 1, none⟩ = some (.int .i64 x2) ∧ w'.cell? ⟨b', off' + k * 2, none⟩ = some (.int .i64 x1) ∧ w'.cell? ⟨b', off' + k * 2 + 1, none⟩ = some (.int .i64 x2) ∧ w'.cell? ⟨w.heap.size + 1, 0, none⟩ = some (.slice (some ⟨b', off', none⟩) n c') ∧ w'.cell? ⟨w.heap.size, 0, none⟩ = some (.slice (some ⟨b, off, none⟩) n c))) (by kernel_rfl) (by exact ⟨c0, c1, d0, d1, q0, q1⟩) (fun hHeld => ?_)
              refine take_run 0 (some 20) (v := ?_) rfl rfl (by kernel_rfl) (by kernel_rfl) (by kernel_rfl) (fun _ _ _ h => h) (by rfl) ?_ hHeld ?_
              rotate_left
              · ((intro w hSw); (try dsimp only at hSw); go_simp <;> with_reducible rfl)
              simp only [Act.put, List.setIfInBounds_toArray, List.set_cons_zero, List.set_cons_succ]
              refine take_run 1 (some 21) (v := ?_) rfl rfl (by kernel_rfl) (by kernel_rfl) (by kernel_rfl) (fun _ _ _ h => h) (by rfl) ?_ hHeld ?_
              rotate_left
              · ((intro w hSw); (try dsimp only at hSw); go_simp <;> with_reducible rfl)
              simp only [Act.put, List.setIfInBounds_toArray, List.set_cons_zero, List.set_cons_succ]
              refine take_run 2 (some 22) (v := ?_) rfl rfl (by kernel_rfl) (by kernel_rfl) (by kernel_rfl) (fun _ _ _ h => h) (by rfl) ?_ hHeld ?_
              rotate_left
              · ((intro w hSw); (try dsimp only at hSw); go_simp <;> with_reducible rfl)
              simp only [Act.put, List.setIfInBounds_toArray, List.set_cons_zero, List.set_cons_succ]
              refine take_run 3 (some 23) (v := ?_) rfl rfl (by kernel_rfl) (by kernel_rfl) (by kernel_rfl) (fun _ _ _ h => h) (by rfl) ?_ hHeld ?_
              rotate_left
              · ((intro w hSw); (try dsimp only at hSw); go_simp <;> with_reducible rfl)
              simp only [Act.put, List.setIfInBounds_toArray, List.set_cons_zero, List.set_cons_succ]
              refine take_run 4 (some 24) (v := ?_) rfl rfl (by kernel_rfl) (by kernel_rfl) (by kernel_rfl) (fun _ _ _ h => h) (by rfl) ?_ hHeld ?_
              rotate_left
              · ((intro w hSw); (try dsimp only at hSw); go_simp <;> with_reducible rfl)
              simp only [Act.put, List.setIfInBounds_toArray, List.set_cons_zero, List.set_cons_succ]
              refine take_run 5 (some 25) (v := ?_) rfl rfl (by kernel_rfl) (by kernel_rfl) (by kernel_rfl) (fun _ _ _ h => h) (by rfl) ?_ hHeld ?_
              rotate_left
              · ((intro w hSw); (try dsimp only at hSw); go_simp <;> with_reducible rfl)
              simp only [Act.put, List.setIfInBounds_toArray, List.set_cons_zero, List.set_cons_succ]
              refine take_run 6 (some 26) (v := ?_) rfl rfl (by kernel_rfl) (by kernel_rfl) (by kernel_rfl) (fun _ _ _ h => h) (by rfl) ?_ hHeld ?_
              rotate_left
              · ((intro w hSw); (try dsimp only at hSw); go_simp <;> with_reducible rfl)
              simp only [Act.put, List.setIfInBounds_toArray, List.set_cons_zero, List.set_cons_succ]
              refine take_run 7 (some 27) (v := ?_) rfl rfl (by kernel_rfl) (by kernel_rfl) (by kernel_rfl) (fun _ _ _ h => h) (by rfl) ?_ hHeld ?_
              rotate_left
              · ((intro w hSw); (try dsimp only at hSw); go_simp <;> with_reducible rfl)
              simp only [Act.put, List.setIfInBounds_toArray, List.set_cons_zero, List.set_cons_succ]
              refine take_run 8 (some 28) (v := ?_) rfl rfl (by kernel_rfl) (by kernel_rfl) (by kernel_rfl) (fun _ _ _ h => h) (by rfl) ?_ hHeld ?_
              rotate_left
              · ((intro w hSw); (try dsimp only at hSw); go_simp <;> with_reducible rfl)
              simp only [Act.put, List.setIfInBounds_toArray, List.set_cons_zero, List.set_cons_succ]
              refine take_run 9 (some 29) (v := ?_) rfl rfl (by kernel_rfl) (by kernel_rfl) (by kernel_rfl) (fun _ _ _ h => h) (by rfl) ?_ hHeld ?_
              rotate_left
              · ((intro w hSw); (try dsimp only at hSw); go_simp <;> with_reducible rfl)
              simp only [Act.put, List.setIfInBounds_toArray, List.set_cons_zero, List.set_cons_succ]
              refine take_run 10 (some 30) (v := ?_) rfl rfl (by kernel_rfl) (by kernel_rfl) (by kernel_rfl) (fun _ _ _ h => h) (by rfl) ?_ hHeld ?_
              rotate_left
              · ((intro w hSw); (try dsimp only at hSw); go_simp <;> with_reducible rfl)
              simp only [Act.put, List.setIfInBounds_toArray, List.set_cons_zero, List.set_cons_succ]
              refine wpAnyH_done (by kernel_rfl) ?_ _
              refine NoPanic.normal ?_
              clear hHeld
              go_wp2
              exact ⟨⟨k + 1, by omega, by go_num, HS, hI2⟩, by simp [intOf]; omega⟩
            · have hnq := neq_ne hxy
              have hf : Hid (decide (ts = us) = false) := decide_eq_false (fun e => hxy (by
                have h1 := HX.out
                have h2 := HY.out
                rw [e, h2] at h1
                injection h1 with h1
                injection h1 with h3 h4
                exact ⟨h3.symm, h4.symm⟩))
              clear hxy heq
              go_wp2_with fail
              refine wp_region_noPanic ?_
              refine wp_region_held_drew (S := (fun w' => w'.cell? ⟨b, off + k * 2, none⟩ = some (.int .i64 x1) ∧ w'.cell? ⟨b, off + k * 2 + 1, none⟩ = some (.int .i64 x2) ∧ w'.cell? ⟨b', off' + k * 2, none⟩ = some (.int .i64 y1) ∧ w'.cell? ⟨b', off' + k * 2 + 1, none⟩ = some (.int .i64 y2) ∧ w'.cell? ⟨w.heap.size + 1, 0, none⟩ = some (.slice (some ⟨b', off', none⟩) n c') ∧ w'.cell? ⟨w.heap.size, 0, none⟩ = some (.slice (some ⟨b, off, none⟩) n c))) (by kernel_rfl) (by exact ⟨c0, c1, d0, d1, q0, q1⟩) (fun hHeld => ?_)
              refine take_run 0 (some 20) (v := ?_) rfl rfl (by kernel_rfl) (by kernel_rfl) (by kernel_rfl) (fun _ _ _ h => h) (by rfl) ?_ hHeld ?_
              rotate_left
              · ((intro w hSw); (try dsimp only at hSw); go_simp <;> with_reducible rfl)
              simp only [Act.put, List.setIfInBounds_toArray, List.set_cons_zero, List.set_cons_succ]
              refine take_run 1 (some 21) (v := ?_) rfl rfl (by kernel_rfl) (by kernel_rfl) (by kernel_rfl) (fun _ _ _ h => h) (by rfl) ?_ hHeld ?_
              rotate_left
              · ((intro w hSw); (try dsimp only at hSw); go_simp <;> with_reducible rfl)
              simp only [Act.put, List.setIfInBounds_toArray, List.set_cons_zero, List.set_cons_succ]
              refine take_run 2 (some 22) (v := ?_) rfl rfl (by kernel_rfl) (by kernel_rfl) (by kernel_rfl) (fun _ _ _ h => h) (by rfl) ?_ hHeld ?_
              rotate_left
              · ((intro w hSw); (try dsimp only at hSw); go_simp <;> with_reducible rfl)
              simp only [Act.put, List.setIfInBounds_toArray, List.set_cons_zero, List.set_cons_succ]
              refine take_run 3 (some 23) (v := ?_) rfl rfl (by kernel_rfl) (by kernel_rfl) (by kernel_rfl) (fun _ _ _ h => h) (by rfl) ?_ hHeld ?_
              rotate_left
              · ((intro w hSw); (try dsimp only at hSw); go_simp <;> with_reducible rfl)
              simp only [Act.put, List.setIfInBounds_toArray, List.set_cons_zero, List.set_cons_succ]
              refine take_run 4 (some 24) (v := ?_) rfl rfl (by kernel_rfl) (by kernel_rfl) (by kernel_rfl) (fun _ _ _ h => h) (by rfl) ?_ hHeld ?_
              rotate_left
              · ((intro w hSw); (try dsimp only at hSw); go_simp <;> with_reducible rfl)
              simp only [Act.put, List.setIfInBounds_toArray, List.set_cons_zero, List.set_cons_succ]
              refine take_run 5 (some 25) (v := ?_) rfl rfl (by kernel_rfl) (by kernel_rfl) (by kernel_rfl) (fun _ _ _ h => h) (by rfl) ?_ hHeld ?_
              rotate_left
              · ((intro w hSw); (try dsimp only at hSw); go_simp <;> with_reducible rfl)
              simp only [Act.put, List.setIfInBounds_toArray, List.set_cons_zero, List.set_cons_succ]
              refine take_run 6 (some 26) (v := ?_) rfl rfl (by kernel_rfl) (by kernel_rfl) (by kernel_rfl) (fun _ _ _ h => h) (by rfl) ?_ hHeld ?_
              rotate_left
              · ((intro w hSw); (try dsimp only at hSw); go_simp <;> with_reducible rfl)
              simp only [Act.put, List.setIfInBounds_toArray, List.set_cons_zero, List.set_cons_succ]
              refine take_run 7 (some 27) (v := ?_) rfl rfl (by kernel_rfl) (by kernel_rfl) (by kernel_rfl) (fun _ _ _ h => h) (by rfl) ?_ hHeld ?_
              rotate_left
              · ((intro w hSw); (try dsimp only at hSw); go_simp <;> with_reducible rfl)
              simp only [Act.put, List.setIfInBounds_toArray, List.set_cons_zero, List.set_cons_succ]
              refine take_run 8 (some 28) (v := ?_) rfl rfl (by kernel_rfl) (by kernel_rfl) (by kernel_rfl) (fun _ _ _ h => h) (by rfl) ?_ hHeld ?_
              rotate_left
              · ((intro w hSw); (try dsimp only at hSw); go_simp <;> with_reducible rfl)
              simp only [Act.put, List.setIfInBounds_toArray, List.set_cons_zero, List.set_cons_succ]
              refine take_run 9 (some 29) (v := ?_) rfl rfl (by kernel_rfl) (by kernel_rfl) (by kernel_rfl) (fun _ _ _ h => h) (by rfl) ?_ hHeld ?_
              rotate_left
              · ((intro w hSw); (try dsimp only at hSw); go_simp <;> with_reducible rfl)
              simp only [Act.put, List.setIfInBounds_toArray, List.set_cons_zero, List.set_cons_succ]
              refine take_run 10 (some 30) (v := ?_) rfl rfl (by kernel_rfl) (by kernel_rfl) (by kernel_rfl) (fun _ _ _ h => h) (by rfl) ?_ hHeld ?_
              rotate_left
              · ((intro w hSw); (try dsimp only at hSw); go_simp <;> with_reducible rfl)
              simp only [Act.put, List.setIfInBounds_toArray, List.set_cons_zero, List.set_cons_succ]
              refine wpAnyH_done (by kernel_rfl) ?_ _
              refine NoPanic.normal ?_
              clear hHeld
              go_wp2
              go_ret
              exact ⟨ret_bool hf.out.symm, hI2.below⟩
      · have hkn : k = n := by omega
        subst hkn
        clear hlt
        have hf : Hid (decide (ts = us) = true) := decide_eq_true (hd.out.1 heq.out)
        clear heq
        have hL := hI.below
        go_wp2
        go_ret
        exact ⟨ret_bool hf.out.symm, hL⟩
  · have hd : Hid (decide (ts = us) = false) := decide_eq_false (fun e => hlen (by rw [e]))
    have hne : ((ts.length : Int) != (us.length : Int)) = true := by simp; omega
    have hL := S0.below
    clear hlen S0
    go_enter Try.func15, Try.ntmps15
    go_wp2
    go_ret
    exact ⟨ret_bool hd.out.symm, hL⟩
end Go.Proofs.Ytpelibkdphgpjaa
/- Contracts of the laws' small functions on versions: their size, their copy, whether two are the same. Condition: at most 1048576 tags where memory is made. -/
namespace Go.Proofs.Ytpelibkdphgpjaa
open Go.RowKit Go.Joins

/-- The six cells of a version. -/
abbrev verC (k t u : Int) (a : Option Addr) (n c : Nat) (s : ByteArray) (g : Bool) : Array Value := #[.int .i64 k, .int .i64 t, .int .i64 u, .slice a n c, .string s, .bool g]
theorem Blk.six {w : World} {g : Nat} {T : TypeId} {a b c d e f : Value} (h : Blk w g T #[a, b, c, d, e, f]) :
    (w.cell? ⟨g, 0, none⟩ = some a ∧ w.cell? ⟨g, 1, none⟩ = some b ∧ w.cell? ⟨g, 2, none⟩ = some c ∧ w.cell? ⟨g, 3, none⟩ = some d ∧ w.cell? ⟨g, 4, none⟩ = some e ∧ w.cell? ⟨g, 5, none⟩ = some f) ∧
    (w.frozen? ⟨g, 0, none⟩ = false ∧ w.frozen? ⟨g, 1, none⟩ = false ∧ w.frozen? ⟨g, 2, none⟩ = false ∧ w.frozen? ⟨g, 3, none⟩ = false ∧ w.frozen? ⟨g, 4, none⟩ = false ∧ w.frozen? ⟨g, 5, none⟩ = false) :=
  ⟨⟨h.at 0, h.at 1, h.at 2, h.at 3, h.at 4, h.at 5⟩, h.loose 0, h.loose 1, h.loose 2, h.loose 3, h.loose 4, h.loose 5⟩
theorem below_set6 {w w' : World} {n g : Nat} (h : Below n w w') (hg : n ≤ g) (a b c d e f : Value) :
    Below n w ((((((w'.setCell ⟨g, 0, none⟩ a).setCell ⟨g, 1, none⟩ b).setCell ⟨g, 2, none⟩ c).setCell ⟨g, 3, none⟩ d).setCell ⟨g, 4, none⟩ e).setCell ⟨g, 5, none⟩ f) :=
  (((((h.setCell hg a).setCell hg b).setCell hg c).setCell hg d).setCell hg e).setCell hg f

set_option maxHeartbeats 1000000 in
theorem szVer_fits (k t u : Int) (a : Option Addr) (n c : Nat) (s : ByteArray) (g : Bool) (left : Int) (w : World) (h0 : left ≤ 1048576) (hn : (n : Int) + s.size ≤ left) :
    Calls Try.prog 22 #[.agg (verC k t u a n c s g), .int .i64 left] w fun e w' => e = .returned (.int .i64 (left - n - s.size)) ∧ Below w.heap.size w w' := by
  have S0 := (Inv.start w).box 49 (verC k t u a n c s g)
  have h1 : ¬ (left - (n : Int) < 0) := by omega
  have h2 : ¬ (left - (n : Int) - (s.size : Int) < 0) := by omega
  have h3 : 0 ≤ left := by omega
  go_enter Try.func22, Try.ntmps22
  go_wp2_with fail
  refine (szPast_fits a n c left _ h0 (by omega)).mono ?_
  rintro e w1 ⟨rfl, hb1⟩
  have S1 := S0.on hb1
  have k1 := (S1.nth 0 rfl).six.1
  clear S0
  go_wp2
  go_ret
  exact ⟨rfl, S1.below⟩
set_option maxHeartbeats 1000000 in
theorem szVer_not (k t u : Int) (a : Option Addr) (n c : Nat) (s : ByteArray) (g : Bool) (left : Int) (w : World) (h0 : left ≤ 1048576) (h00 : 0 ≤ left) (hm : n ≤ 9223372036854775807) (hs : s.size ≤ 9223372036854775807) (hn : left < (n : Int) + s.size) :
    Calls Try.prog 22 #[.agg (verC k t u a n c s g), .int .i64 left] w fun e w' => e = .returned (.int .i64 (-1)) ∧ Below w.heap.size w w' := by
  have S0 := (Inv.start w).box 49 (verC k t u a n c s g)
  by_cases hp : (n : Int) ≤ left
  · have h1 : ¬ (left - (n : Int) < 0) := by omega
    have h2 : left - (n : Int) - (s.size : Int) < 0 := by omega
    go_enter Try.func22, Try.ntmps22
    go_wp2_with fail
    refine (szPast_fits a n c left _ h0 hp).mono ?_
    rintro e w1 ⟨rfl, hb1⟩
    have S1 := S0.on hb1
    have k1 := (S1.nth 0 rfl).six.1
    clear S0
    go_wp2
    go_ret
    exact ⟨rfl, S1.below⟩
  · go_enter Try.func22, Try.ntmps22
    go_wp2_with fail
    refine (szPast_not a n c left _ h0 h00 hm (by omega)).mono ?_
    rintro e w1 ⟨rfl, hb1⟩
    have S1 := S0.on hb1
    clear S0
    go_wp2
    go_ret
    exact ⟨rfl, S1.below⟩

/-- What toVer leaves. -/
def CopiedV (w : World) (k t u : Int) (ts : List (Int × Int)) (s : ByteArray) (b : Bool) (e : Ending) (w' : World) : Prop :=
  ∃ (g : Nat) (cur : Array Value), e = .returned (.agg (verC k t u (some ⟨g, 0, none⟩) ts.length ts.length s b)) ∧ w.heap.size ≤ g ∧ Blk w' g 53 cur ∧ cur.size = ts.length * 2 ∧ (∀ i x, ts[i]? = some x → TagAt cur i x) ∧ Below w.heap.size w w'

theorem Inv.put0 {w w1 : World} {n g i : Nat} {t : TypeId} {cs : Array Value} {bs : List (Nat × TypeId × Array Value)} (h : Inv w n ((g, t, cs) :: bs) w1) (hd : ∀ x ∈ bs, x.1 ≠ g) (u : Value) : Inv w n ((g, t, cs.setIfInBounds i u) :: bs) (w1.setCell ⟨g, i, none⟩ u) :=
  ⟨h.below.setCell (h.blk _ (List.mem_cons_self ..)).1 u, by simpa [World.setCell] using h.room, fun x hx => by
    rcases List.mem_cons.1 hx with rfl | hx
    · exact ⟨(h.blk _ (List.mem_cons_self ..)).1, (h.blk _ (List.mem_cons_self ..)).2.1, (h.blk _ (List.mem_cons_self ..)).2.2.put i u⟩
    · have := h.blk x (List.mem_cons_of_mem _ hx)
      exact ⟨this.1, this.2.1, this.2.2.aside (hd x hx) u⟩⟩

set_option maxRecDepth 100000 in
set_option maxHeartbeats 2000000 in
theorem toVer_any (k t u : Int) (a : Option Addr) (c : Nat) (ts : List (Int × Int)) (s : ByteArray) (b : Bool) (w : World) (hn : ts.length ≤ 1048576) (ht : Tg w w.heap.size a ts) :
    Calls Try.prog 24 #[.agg (verC k t u a ts.length c s b)] w (CopiedV w k t u ts s b) := by
  have S0 := (((Inv.start w).box 49 (verC k t u a ts.length c s b)).box 55 (verC 0 0 0 none 0 0 ⟨#[]⟩ false)).box 55 (verC k 0 0 none 0 0 ⟨#[]⟩ false)
  simp only [World.size_alloc] at S0
  have hd : ∀ x ∈ [(w.heap.size + 1, 55, verC 0 0 0 none 0 0 ⟨#[]⟩ false), (w.heap.size, 49, verC k t u a ts.length c s b)], x.1 ≠ w.heap.size + 1 + 1 := by simp; omega
  go_enter Try.func24, Try.ntmps24
  go_wp2_with fail
  generalize (((w.alloc (.cells (verC k t u a ts.length c s b) 49)).alloc (.cells (verC 0 0 0 none 0 0 ⟨#[]⟩ false) 55)).alloc (.cells (verC k 0 0 none 0 0 ⟨#[]⟩ false) 55)) = W at S0 ⊢
  refine (toTag_any _ _ _).mono ?_
  rintro e w1 ⟨rfl, hb1⟩
  have S1 := S0.on hb1
  have k1 := (S1.nth 0 rfl).six
  have k2 := (S1.nth 2 rfl).six
  have S2 := ((S1.put0 (i := 1) hd (.int .i64 t)).put0 (i := 2) hd (.int .i64 u))
  simp only [List.setIfInBounds_toArray, List.set_cons_zero, List.set_cons_succ] at S2
  clear S0 S1 hb1
  go_wp2_with fail
  generalize ((w1.setCell ⟨w.heap.size + 1 + 1, 1, none⟩ (.int .i64 t)).setCell ⟨w.heap.size + 1 + 1, 2, none⟩ (.int .i64 u)) = W2 at S2 ⊢
  clear k1 k2
  refine (toPast_any a c ts W2 hn ((ht.on S2.below).up S2.base)).mono ?_
  rintro e w3 ⟨g, cur, rfl, hg, hB, hsz, hcur, hb3⟩
  have hr := S2.room
  have hbase := S2.base
  have S3 := S2.on hb3
  have k1 := (S3.nth 0 rfl).six
  have k2 := (S3.nth 1 rfl).six
  have k3 := (S3.nth 2 rfl).six
  have hl := S3.below
  have HC := hide hcur
  clear hcur S2 S3 ht
  go_wp2
  refine bodyPost_ret (v := .agg (verC k t u (some ⟨g, 0, none⟩) ts.length ts.length s b)) (by simp [results, Try.results24, go_sem, k2]) rfl ?_
  exact ⟨g, cur, rfl, by omega, (((((((((hB.aside (by simp; omega) _).aside (by simp; omega) _).aside (by simp; omega) _).aside (by simp; omega) _).aside (by simp; omega) _).aside (by simp; omega) _).aside (by simp; omega) _).aside (by simp; omega) _).aside (by simp; omega) _), hsz, HC.out, below_set6 (((hl.setCell (by simp; omega) _).setCell (by simp; omega) _).setCell (by simp; omega) _) (by omega) _ _ _ _ _ _⟩

set_option maxRecDepth 100000 in
set_option maxHeartbeats 2000000 in
theorem eqVer_same (k t u : Int) (a a' : Option Addr) (c c' : Nat) (ts : List (Int × Int)) (s : ByteArray) (b : Bool) (w : World) (hn : ts.length ≤ 1048576) (ht : Tg w w.heap.size a ts) (hu : Tg w w.heap.size a' ts) :
    Calls Try.prog 26 #[.agg (verC k t u a ts.length c s b), .agg (verC k t u a' ts.length c' s b)] w fun e w' => e = .returned (.bool true) ∧ Below w.heap.size w w' := by
  have S0 := ((Inv.start w).box 55 (verC k t u a ts.length c s b)).box 55 (verC k t u a' ts.length c' s b)
  simp only [World.size_alloc] at S0
  have he : eqB t u t u = true := by simp [eqB]
  go_enter Try.func26, Try.ntmps26
  go_wp2_with fail
  refine (eqTag_any _ _ _ _ _).mono ?_
  rintro e w1 ⟨rfl, hb1⟩
  rw [he]
  have S1 := S0.on hb1
  have k1 := (S1.nth 0 rfl).six.1
  have k2 := (S1.nth 1 rfl).six.1
  clear S0 hb1
  go_wp2_with fail
  refine (eqPast_any _ _ _ _ ts ts _ hn hn ((ht.on S1.below).up S1.base) ((hu.on S1.below).up S1.base)).mono ?_
  rintro e w2 ⟨rfl, hb2⟩
  rw [decide_eq_true rfl]
  have S2 := S1.on hb2
  clear k1 k2 S1 hb2
  have k1 := (S2.nth 0 rfl).six.1
  have k2 := (S2.nth 1 rfl).six.1
  go_wp2
  go_ret
  exact ⟨rfl, S2.below⟩
end Go.Proofs.Ytpelibkdphgpjaa
