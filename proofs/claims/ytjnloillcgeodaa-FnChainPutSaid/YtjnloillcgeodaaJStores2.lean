/- Contracts of the functions on vectors of tags: whether one is valid, in the program and in the model. Condition: at most 1048576 tags. -/
import Derived.Test.YtjnloillcgeodaaJLift
namespace Go.Proofs.Ytjnloillcgeodaa
open Go.RowKit Go.Joins

/-- Whether these tags are a valid vector. -/
def pastB (ts : List (Int × Int)) : Bool := decide (ts.length = 4) && ts.all fun x => okB x.1 x.2
theorem pastB_len {ts : List (Int × Int)} (h : ¬ ts.length = 4) : pastB ts = false := by unfold pastB; simp [h]
theorem pastB_bad {ts : List (Int × Int)} {k : Nat} {x : Int × Int} (hx : ts[k]? = some x) (h : okB x.1 x.2 = false) : pastB ts = false := by
  unfold pastB
  have : (ts.all fun x => okB x.1 x.2) = false := by
    rw [List.all_eq_false]
    exact ⟨x, List.mem_of_getElem? hx, by simp [h]⟩
  simp [this]
theorem pastB_ok {ts : List (Int × Int)} (hl : ts.length = 4) (h : ∀ (k : Nat) (x : Int × Int), ts[k]? = some x → okB x.1 x.2 = true) : pastB ts = true := by
  unfold pastB
  have : (ts.all fun x => okB x.1 x.2) = true := by
    rw [List.all_eq_true]
    intro x hx
    obtain ⟨k, hk⟩ := List.getElem?_of_mem hx
    exact h k x hk
  simp [this, hl]

set_option maxRecDepth 100000 in
set_option maxHeartbeats 1000000 in
theorem l1PastOk_any (a : Option Addr) (c : Nat) (ts : List (Int × Int)) (w : World) (hn : ts.length ≤ 1048576) (ht : Tg w w.heap.size a ts) :
    Calls Try.prog 78 #[.agg #[.slice a ts.length c]] w fun e w' => e = .returned (.bool (pastB ts)) ∧ Below w.heap.size w w' := by
  have B0 := Blk.made w 30 #[.slice a ts.length c]
  have L0 := below_alloc1 w (.cells #[.slice a ts.length c] 30)
  generalize hnn : ts.length = n at *
  have HN := hide hnn
  clear hnn
  go_enter Try.func78, Try.ntmps78
  go_wp2
  go_loopw [3] (fun i wr => ∃ k : Nat, k ≤ n ∧ i = .int .i64 (k : Int) ∧ (∀ j x, j < k → ts[j]? = some x → okB x.1 x.2 = true) ∧ Blk wr w.heap.size 30 #[.slice a n c] ∧ Below w.heap.size w wr) (fun i _ => n - (intOf i).toNat)
  case atStart => exact ⟨0, Nat.zero_le _, rfl, fun j x hj => absurd hj (by omega), B0, L0⟩
  case round =>
    obtain ⟨k, hk, rfl, hall, hB, hL⟩ := hrel
    have hA := hide hall
    clear hall
    obtain ⟨q0, q1⟩ := hB.one
    by_cases hlt : k < n
    · rcases ht with h0 | ⟨b, off, rfl, hb, hx⟩
      · have := HN.out; subst h0; simp at this; omega
      · have hkl : k < ts.length := by have := HN.out; omega
        obtain ⟨hc0, hc1⟩ := hx k _ (List.getElem?_eq_getElem hkl)
        have c0 := (hL.cell (p := ⟨b, off + k * 2, none⟩) hb).trans hc0
        have c1 := (hL.cell (p := ⟨b, off + k * 2 + 1, none⟩) hb).trans hc1
        have HX := hide (List.getElem?_eq_getElem hkl)
        generalize ts[k] = x at c0 c1 HX
        obtain ⟨x1, x2⟩ := x
        simp only at c0 c1
        clear hc0 hc1 hx
        go_wp2_with fail
        refine (l1TagOk_any _ _ _).mono ?_
        rintro e w1 ⟨rfl, hb1⟩
        have hL1 := hL.trans (hb1.mono hL.size)
        have B1 := hB.on hb1
        cases hok : okB x1 x2
        · have hf := hide (pastB_bad HX.out hok)
          clear hok
          go_wp2
          go_ret
          exact ⟨ret_bool hf.out.symm, hL1⟩
        · have HA := hide (show ∀ j x, j < k + 1 → ts[j]? = some x → okB x.1 x.2 = true from fun j x hj hx => by
            by_cases e : j = k
            · subst e
              have h1 := HX.out
              rw [h1] at hx
              injection hx with hx
              subst hx
              exact hok
            · exact hA.out j x (by omega) hx)
          clear hok
          go_wp2
          exact ⟨⟨k + 1, by omega, by go_num, HA.out, B1, hL1⟩, by simp [intOf]; omega⟩
    · have hkn : k = n := by omega
      subst hkn
      clear hlt
      by_cases h4 : k = 4
      · have hf := hide (pastB_ok (HN.out.trans h4) (fun j x hx => hA.out j x (by have := (List.getElem?_eq_some_iff.1 hx).1; have := HN.out; omega) hx))
        subst h4
        go_wp2
        go_ret
        exact ⟨ret_bool hf.out.symm, hL⟩
      · have hf := hide (pastB_len (fun e => h4 (HN.out.symm.trans e)))
        have h4' : ((k : Int) == 4) = false := by simp; omega
        clear h4
        go_wp2
        go_ret
        exact ⟨ret_bool hf.out.symm, hL⟩

/-- The eight cells of four tags. -/
def cells4 (ts : List (Int × Int)) : Array Value := (ts.flatMap fun x => [Value.int .i64 x.1, Value.int .i64 x.2]).toArray
abbrev zero8 : Array Value := #[.int .i64 0, .int .i64 0, .int .i64 0, .int .i64 0, .int .i64 0, .int .i64 0, .int .i64 0, .int .i64 0]

theorem Blk.eight {w : World} {g : Nat} {T : TypeId} {a b c d e f u v : Value} (h : Blk w g T #[a, b, c, d, e, f, u, v]) :
    (w.cell? ⟨g, 0, none⟩ = some a ∧ w.cell? ⟨g, 1, none⟩ = some b ∧ w.cell? ⟨g, 2, none⟩ = some c ∧ w.cell? ⟨g, 3, none⟩ = some d ∧ w.cell? ⟨g, 4, none⟩ = some e ∧ w.cell? ⟨g, 5, none⟩ = some f ∧ w.cell? ⟨g, 6, none⟩ = some u ∧ w.cell? ⟨g, 7, none⟩ = some v) ∧
    (w.frozen? ⟨g, 0, none⟩ = false ∧ w.frozen? ⟨g, 1, none⟩ = false ∧ w.frozen? ⟨g, 2, none⟩ = false ∧ w.frozen? ⟨g, 3, none⟩ = false ∧ w.frozen? ⟨g, 4, none⟩ = false ∧ w.frozen? ⟨g, 5, none⟩ = false ∧ w.frozen? ⟨g, 6, none⟩ = false ∧ w.frozen? ⟨g, 7, none⟩ = false) :=
  ⟨⟨h.at 0, h.at 1, h.at 2, h.at 3, h.at 4, h.at 5, h.at 6, h.at 7⟩, h.loose 0, h.loose 1, h.loose 2, h.loose 3, h.loose 4, h.loose 5, h.loose 6, h.loose 7⟩
theorem below_set8 {w w' : World} {n g : Nat} (h : Below n w w') (hg : n ≤ g) (a b c d e f u v : Value) :
    Below n w ((((((((w'.setCell ⟨g, 0, none⟩ a).setCell ⟨g, 1, none⟩ b).setCell ⟨g, 2, none⟩ c).setCell ⟨g, 3, none⟩ d).setCell ⟨g, 4, none⟩ e).setCell ⟨g, 5, none⟩ f).setCell ⟨g, 6, none⟩ u).setCell ⟨g, 7, none⟩ v) :=
  (((((((h.setCell hg a).setCell hg b).setCell hg c).setCell hg d).setCell hg e).setCell hg f).setCell hg u).setCell hg v
/-- Eight cells that hold four tags are just these. -/
theorem cur4 {cur : Array Value} {ts : List (Int × Int)} (hs : cur.size = 8) (hl : ts.length = 4) (h : ∀ j x, ts[j]? = some x → TagAt cur j x) :
    ∃ x0 x1 x2 x3 : Int × Int, ts = [x0, x1, x2, x3] ∧ cur = #[.int .i64 x0.1, .int .i64 x0.2, .int .i64 x1.1, .int .i64 x1.2, .int .i64 x2.1, .int .i64 x2.2, .int .i64 x3.1, .int .i64 x3.2] := by
  match ts, hl with
  | [x0, x1, x2, x3], _ =>
    refine ⟨x0, x1, x2, x3, rfl, ?_⟩
    obtain ⟨a0, a1⟩ := h 0 x0 rfl
    obtain ⟨b0, b1⟩ := h 1 x1 rfl
    obtain ⟨c0, c1⟩ := h 2 x2 rfl
    obtain ⟨d0, d1⟩ := h 3 x3 rfl
    apply Array.ext_getElem?
    intro i
    match i with
    | 0 => simpa using a0
    | 1 => simpa using a1
    | 2 => simpa using b0
    | 3 => simpa using b1
    | 4 => simpa using c0
    | 5 => simpa using c1
    | 6 => simpa using d0
    | 7 => simpa using d1
    | n + 8 => rw [Array.getElem?_eq_none (by omega), Array.getElem?_eq_none (by simp)]

/-- What vectorOf answers. -/
def VecOf (w : World) (ts : List (Int × Int)) (e : Ending) (w' : World) : Prop :=
  (pastB ts = true → e = .returned (.tuple #[.agg (cells4 ts), .bool true])) ∧ (pastB ts = false → e = .returned (.tuple #[.agg zero8, .bool false])) ∧ Below w.heap.size w w'

set_option maxRecDepth 100000 in
set_option maxHeartbeats 2000000 in
theorem vectorOf_any (a : Option Addr) (c : Nat) (ts : List (Int × Int)) (w : World) (hn : ts.length ≤ 1048576) (ht : Tg w w.heap.size a ts) :
    Calls Try.prog 54 #[.agg #[.slice a ts.length c]] w (VecOf w ts) := by
  by_cases h4 : ts.length = 4
  · have S0 := (((Inv.start w).box 30 #[.slice a ts.length c]).box 93 zero8).box 93 zero8
    simp only [World.size_alloc] at S0
    rw [h4] at S0 ⊢
    go_enter Try.func54, Try.ntmps54
    go_wp2
    have B1 := S0.nth 1 rfl
    have B2 := S0.nth 0 rfl
    have L0 := S0.below
    clear S0
    go_loopw [15] (fun i wr => ∃ (k : Nat) (cur : Array Value), k ≤ 4 ∧ i = .int .i64 (k : Int) ∧ Blk wr (w.heap.size + 1 + 1) 93 cur ∧ cur.size = 8 ∧ (∀ j x, j < k → ts[j]? = some x → TagAt cur j x) ∧ (∀ j x, j < k → ts[j]? = some x → okB x.1 x.2 = true) ∧ Blk wr (w.heap.size + 1) 93 zero8 ∧ Below w.heap.size w wr) (fun i _ => 4 - (intOf i).toNat)
    case atStart => exact ⟨0, _, Nat.zero_le _, rfl, B2, rfl, fun j x hj => absurd hj (by omega), fun j x hj => absurd hj (by omega), B1, L0⟩
    case round =>
      obtain ⟨k, cur, hk, rfl, hV, hsz, hcur, hall, hR, hL⟩ := hrel
      have H4 := hide h4
      have hA := hide hall
      clear hall h4 B1 B2 L0
      by_cases hlt : k < 4
      · rcases ht with h0 | ⟨b, off, rfl, hb, hx⟩
        · have := H4.out; subst h0; simp at this
        · have hkl : k < ts.length := by have := H4.out; omega
          obtain ⟨hc0, hc1⟩ := hx k _ (List.getElem?_eq_getElem hkl)
          have c0 := (hL.cell (p := ⟨b, off + k * 2, none⟩) hb).trans hc0
          have c1 := (hL.cell (p := ⟨b, off + k * 2 + 1, none⟩) hb).trans hc1
          have HX := hide (List.getElem?_eq_getElem hkl)
          generalize ts[k] = x at c0 c1 HX
          obtain ⟨x1, x2⟩ := x
          simp only at c0 c1
          clear hc0 hc1 hx
          have HC := hide hcur
          clear hcur
          have i1 : (0 : Int) ≤ (k : Int) := by omega
          have i2 : (k : Int) < 4 := by omega
          have X0 := Blk.made wr 27 #[.int .i64 x1, .int .i64 x2]
          have V0 := hV.more (.cells #[.int .i64 x1, .int .i64 x2] 27)
          have R0 := hR.more (.cells #[.int .i64 x1, .int .i64 x2] 27)
          have K0 := hL.alloc hL.size (.cells #[.int .i64 x1, .int .i64 x2] 27)
          go_wp2_with fail
          refine (implTagOk_any _ _ _).mono ?_
          rintro e w1 ⟨rfl, hb1⟩
          have hL1 := K0.trans (hb1.mono K0.size)
          have V1 := V0.on hb1
          have R1 := R0.on hb1
          have X1 := (X0.on hb1).two
          cases hok : okB x1 x2
          · have hf := hide (pastB_bad HX.out hok)
            have E1 := R1.eight
            clear hok
            go_wp2
            refine bodyPost_ret (v := .tuple #[.agg zero8, .bool false]) (by simp [results, Try.results54, go_sem, E1]) rfl ?_
            exact ⟨fun h => (by rw [hf.out] at h; cases h), fun _ => rfl, below_set8 hL1 (by omega) _ _ _ _ _ _ _ _⟩
          · have HA := hide (show ∀ j x, j < k + 1 → ts[j]? = some x → okB x.1 x.2 = true from fun j x hj hx => by
              by_cases e : j = k
              · subst e
                have h1 := HX.out
                rw [h1] at hx
                injection hx with hx
                subst hx
                exact hok
              · exact hA.out j x (by omega) hx)
            have hs0 : k * 2 < cur.size := by omega
            have hs1 : k * 2 + 1 < cur.size := by omega
            have HS := hide (tagAt_step (ts := ts) hs1 HX.out HC.out)
            have d0 : w1.cell? ⟨w.heap.size + 1 + 1, k * 2, none⟩ = some cur[k * 2] := by rw [V1.at]; exact Array.getElem?_eq_getElem hs0
            have d1 : w1.cell? ⟨w.heap.size + 1 + 1, k * 2 + 1, none⟩ = some cur[k * 2 + 1] := by rw [V1.at]; exact Array.getElem?_eq_getElem hs1
            have f0 := V1.loose (k * 2)
            have f1 := V1.loose (k * 2 + 1)
            clear hok
            go_wp2
            exact ⟨⟨k + 1, _, by omega, by go_num, (V1.put _ _).put _ _, by simp [hsz], HS.out, HA.out, (R1.aside (by simp) _).aside (by simp) _, (hL1.setCell (by simp; omega) _).setCell (by simp; omega) _⟩, by simp [intOf]; omega⟩
      · have hk4 : k = 4 := by omega
        subst hk4
        clear hlt
        have hin : ∀ (j : Nat) (x : Int × Int), ts[j]? = some x → j < 4 := fun j x hx => by have := (List.getElem?_eq_some_iff.1 hx).1; have := H4.out; omega
        obtain ⟨x0, x1, x2, x3, hts, hcu⟩ := cur4 hsz H4.out (fun j x hx => hcur j x (hin j x hx) hx)
        have hf := hide (pastB_ok H4.out (fun j x hx => hA.out j x (hin j x hx) hx))
        have HT := hide hts
        clear hin hcur hA hts
        subst hcu
        have E1 := hR.eight
        have E2 := hV.eight
        go_wp2
        refine bodyPost_ret (v := .tuple #[.agg (cells4 [x0, x1, x2, x3]), .bool true]) (by simp [results, Try.results54, go_sem, E1, cells4]) rfl ?_
        exact ⟨fun _ => by rw [HT.out], fun h => (by rw [hf.out] at h; cases h), below_set8 hL (by omega) _ _ _ _ _ _ _ _⟩
  · have h4' : ((ts.length : Int) != 4) = true := by simp; omega
    have hf := hide (pastB_len h4)
    clear h4
    go_enter Try.func54, Try.ntmps54
    go_wp2
    refine bodyPost_ret (v := .tuple #[.agg zero8, .bool false]) (by simp [results, Try.results54, go_sem]) rfl ?_
    exact ⟨fun h => (by rw [hf.out] at h; cases h), fun _ => rfl, ((Below.refl _ _).alloc (Nat.le_refl _) _).alloc (by simp) _⟩

theorem cells4_eq (x0 x1 x2 x3 : Int × Int) : cells4 [x0, x1, x2, x3] = #[.int .i64 x0.1, .int .i64 x0.2, .int .i64 x1.1, .int .i64 x1.2, .int .i64 x2.1, .int .i64 x2.2, .int .i64 x3.1, .int .i64 x3.2] := by simp [cells4]
theorem four_of {ts : List (Int × Int)} (h : pastB ts = true) : ∃ x0 x1 x2 x3 : Int × Int, ts = [x0, x1, x2, x3] := by
  unfold pastB at h
  simp at h
  match ts, h.1 with
  | [x0, x1, x2, x3], _ => exact ⟨x0, x1, x2, x3, rfl⟩

set_option maxHeartbeats 1000000 in
theorem implPastOk_any (a : Option Addr) (c : Nat) (ts : List (Int × Int)) (w : World) (hn : ts.length ≤ 1048576) (ht : Tg w w.heap.size a ts) :
    Calls Try.prog 43 #[.agg #[.slice a ts.length c]] w fun e w' => e = .returned (.bool (pastB ts)) ∧ Below w.heap.size w w' := by
  have L0 := below_alloc1 w (.cells #[.slice a ts.length c] 30)
  go_enter Try.func43, Try.ntmps43
  go_wp2_with fail
  refine (vectorOf_any a c ts _ hn ((ht.on L0).up L0.size)).mono ?_
  rintro e w1 ⟨h1, h2, hb1⟩
  have hl := L0.trans (hb1.mono L0.size)
  cases hp : pastB ts
  · have he := h2 hp
    have HP := hide hp
    subst he
    clear h1 h2 L0 ht hp
    go_wp2
    go_ret
    exact ⟨ret_bool HP.out.symm, hl.alloc hl.size _⟩
  · have he := h1 hp
    have HP := hide hp
    obtain ⟨x0, x1, x2, x3, rfl⟩ := four_of hp
    rw [cells4_eq] at he
    subst he
    clear h1 h2 L0 ht hp
    go_wp2
    go_ret
    exact ⟨ret_bool HP.out.symm, hl.alloc hl.size _⟩
end Go.Proofs.Ytjnloillcgeodaa
/- Contracts of the laws' small functions on versions: their size, their copy, whether two are the same. Condition: at most 1048576 tags where memory is made. -/
namespace Go.Proofs.Ytjnloillcgeodaa
open Go.RowKit Go.Joins

/-- The six cells of a version. -/
abbrev verC (k t u : Int) (a : Option Addr) (n c : Nat) (s : ByteArray) (g : Bool) : Array Value := #[.int .i64 k, .int .i64 t, .int .i64 u, .slice a n c, .string s, .bool g]
theorem Blk.six {w : World} {g : Nat} {T : TypeId} {a b c d e f : Value} (h : Blk w g T #[a, b, c, d, e, f]) :
    (w.cell? ⟨g, 0, none⟩ = some a ∧ w.cell? ⟨g, 1, none⟩ = some b ∧ w.cell? ⟨g, 2, none⟩ = some c ∧ w.cell? ⟨g, 3, none⟩ = some d ∧ w.cell? ⟨g, 4, none⟩ = some e ∧ w.cell? ⟨g, 5, none⟩ = some f) ∧
    (w.frozen? ⟨g, 0, none⟩ = false ∧ w.frozen? ⟨g, 1, none⟩ = false ∧ w.frozen? ⟨g, 2, none⟩ = false ∧ w.frozen? ⟨g, 3, none⟩ = false ∧ w.frozen? ⟨g, 4, none⟩ = false ∧ w.frozen? ⟨g, 5, none⟩ = false) :=
  ⟨⟨h.at 0, h.at 1, h.at 2, h.at 3, h.at 4, h.at 5⟩, h.loose 0, h.loose 1, h.loose 2, h.loose 3, h.loose 4, h.loose 5⟩
theorem below_set6 {w w' : World} {n g : Nat} (h : Below n w w') (hg : n ≤ g) (a b c d e f : Value) :
    Below n w ((((((w'.setCell ⟨g, 0, none⟩ a).setCell ⟨g, 1, none⟩ b).setCell ⟨g, 2, none⟩ c).setCell ⟨g, 3, none⟩ d).setCell ⟨g, 4, none⟩ e).setCell ⟨g, 5, none⟩ f) :=
  (((((h.setCell hg a).setCell hg b).setCell hg c).setCell hg d).setCell hg e).setCell hg f

set_option maxHeartbeats 1000000 in
theorem szVer_fits (k t u : Int) (a : Option Addr) (n c : Nat) (s : ByteArray) (g : Bool) (left : Int) (w : World) (h0 : left ≤ 1048576) (hn : (n : Int) + s.size ≤ left) :
    Calls Try.prog 120 #[.agg (verC k t u a n c s g), .int .i64 left] w fun e w' => e = .returned (.int .i64 (left - n - s.size)) ∧ Below w.heap.size w w' := by
  have S0 := (Inv.start w).box 152 (verC k t u a n c s g)
  have h1 : ¬ (left - (n : Int) < 0) := by omega
  have h2 : ¬ (left - (n : Int) - (s.size : Int) < 0) := by omega
  have h3 : 0 ≤ left := by omega
  go_enter Try.func120, Try.ntmps120
  go_wp2_with fail
  refine (szPast_fits a n c left _ h0 (by omega)).mono ?_
  rintro e w1 ⟨rfl, hb1⟩
  have S1 := S0.on hb1
  have k1 := (S1.nth 0 rfl).six.1
  clear S0
  go_wp2
  go_ret
  exact ⟨rfl, S1.below⟩
set_option maxHeartbeats 1000000 in
theorem szVer_not (k t u : Int) (a : Option Addr) (n c : Nat) (s : ByteArray) (g : Bool) (left : Int) (w : World) (h0 : left ≤ 1048576) (h00 : 0 ≤ left) (hm : n ≤ 9223372036854775807) (hs : s.size ≤ 9223372036854775807) (hn : left < (n : Int) + s.size) :
    Calls Try.prog 120 #[.agg (verC k t u a n c s g), .int .i64 left] w fun e w' => e = .returned (.int .i64 (-1)) ∧ Below w.heap.size w w' := by
  have S0 := (Inv.start w).box 152 (verC k t u a n c s g)
  by_cases hp : (n : Int) ≤ left
  · have h1 : ¬ (left - (n : Int) < 0) := by omega
    have h2 : left - (n : Int) - (s.size : Int) < 0 := by omega
    go_enter Try.func120, Try.ntmps120
    go_wp2_with fail
    refine (szPast_fits a n c left _ h0 hp).mono ?_
    rintro e w1 ⟨rfl, hb1⟩
    have S1 := S0.on hb1
    have k1 := (S1.nth 0 rfl).six.1
    clear S0
    go_wp2
    go_ret
    exact ⟨rfl, S1.below⟩
  · go_enter Try.func120, Try.ntmps120
    go_wp2_with fail
    refine (szPast_not a n c left _ h0 h00 hm (by omega)).mono ?_
    rintro e w1 ⟨rfl, hb1⟩
    have S1 := S0.on hb1
    clear S0
    go_wp2
    go_ret
    exact ⟨rfl, S1.below⟩

/-- What toVer leaves. -/
def CopiedV (w : World) (k t u : Int) (ts : List (Int × Int)) (s : ByteArray) (b : Bool) (e : Ending) (w' : World) : Prop :=
  ∃ (g : Nat) (cur : Array Value), e = .returned (.agg (verC k t u (some ⟨g, 0, none⟩) ts.length ts.length s b)) ∧ w.heap.size ≤ g ∧ Blk w' g 27 cur ∧ cur.size = ts.length * 2 ∧ (∀ i x, ts[i]? = some x → TagAt cur i x) ∧ Below w.heap.size w w'

theorem Inv.put0 {w w1 : World} {n g i : Nat} {t : TypeId} {cs : Array Value} {bs : List (Nat × TypeId × Array Value)} (h : Inv w n ((g, t, cs) :: bs) w1) (hd : ∀ x ∈ bs, x.1 ≠ g) (u : Value) : Inv w n ((g, t, cs.setIfInBounds i u) :: bs) (w1.setCell ⟨g, i, none⟩ u) :=
  ⟨h.below.setCell (h.blk _ (List.mem_cons_self ..)).1 u, by simpa [World.setCell] using h.room, fun x hx => by
    rcases List.mem_cons.1 hx with rfl | hx
    · exact ⟨(h.blk _ (List.mem_cons_self ..)).1, (h.blk _ (List.mem_cons_self ..)).2.1, (h.blk _ (List.mem_cons_self ..)).2.2.put i u⟩
    · have := h.blk x (List.mem_cons_of_mem _ hx)
      exact ⟨this.1, this.2.1, this.2.2.aside (hd x hx) u⟩⟩

set_option maxRecDepth 100000 in
set_option maxHeartbeats 2000000 in
theorem toVer_any (k t u : Int) (a : Option Addr) (c : Nat) (ts : List (Int × Int)) (s : ByteArray) (b : Bool) (w : World) (hn : ts.length ≤ 1048576) (ht : Tg w w.heap.size a ts) :
    Calls Try.prog 121 #[.agg (verC k t u a ts.length c s b)] w (CopiedV w k t u ts s b) := by
  have S0 := (((Inv.start w).box 152 (verC k t u a ts.length c s b)).box 32 (verC 0 0 0 none 0 0 ⟨#[]⟩ false)).box 32 (verC k 0 0 none 0 0 ⟨#[]⟩ false)
  simp only [World.size_alloc] at S0
  have hd : ∀ x ∈ [(w.heap.size + 1, 32, verC 0 0 0 none 0 0 ⟨#[]⟩ false), (w.heap.size, 152, verC k t u a ts.length c s b)], x.1 ≠ w.heap.size + 1 + 1 := by simp; omega
  go_enter Try.func121, Try.ntmps121
  go_wp2_with fail
  generalize (((w.alloc (.cells (verC k t u a ts.length c s b) 152)).alloc (.cells (verC 0 0 0 none 0 0 ⟨#[]⟩ false) 32)).alloc (.cells (verC k 0 0 none 0 0 ⟨#[]⟩ false) 32)) = W at S0 ⊢
  refine (toTag_any _ _ _).mono ?_
  rintro e w1 ⟨rfl, hb1⟩
  have S1 := S0.on hb1
  have k1 := (S1.nth 0 rfl).six
  have k2 := (S1.nth 2 rfl).six
  have S2 := ((S1.put0 (i := 1) hd (.int .i64 t)).put0 (i := 2) hd (.int .i64 u))
  simp only [List.setIfInBounds_toArray, List.set_cons_zero, List.set_cons_succ] at S2
  clear S0 S1 hb1
  go_wp2_with fail
  generalize ((w1.setCell ⟨w.heap.size + 1 + 1, 1, none⟩ (.int .i64 t)).setCell ⟨w.heap.size + 1 + 1, 2, none⟩ (.int .i64 u)) = W2 at S2 ⊢
  clear k1 k2
  refine (toPast_any a c ts W2 hn ((ht.on S2.below).up S2.base)).mono ?_
  rintro e w3 ⟨g, cur, rfl, hg, hB, hsz, hcur, hb3⟩
  have hr := S2.room
  have hbase := S2.base
  have S3 := S2.on hb3
  have k1 := (S3.nth 0 rfl).six
  have k2 := (S3.nth 1 rfl).six
  have k3 := (S3.nth 2 rfl).six
  have hl := S3.below
  have HC := hide hcur
  clear hcur S2 S3 ht
  go_wp2
  refine bodyPost_ret (v := .agg (verC k t u (some ⟨g, 0, none⟩) ts.length ts.length s b)) (by simp [results, Try.results121, go_sem, k2]) rfl ?_
  exact ⟨g, cur, rfl, by omega, (((((((((hB.aside (by simp; omega) _).aside (by simp; omega) _).aside (by simp; omega) _).aside (by simp; omega) _).aside (by simp; omega) _).aside (by simp; omega) _).aside (by simp; omega) _).aside (by simp; omega) _).aside (by simp; omega) _), hsz, HC.out, below_set6 (((hl.setCell (by simp; omega) _).setCell (by simp; omega) _).setCell (by simp; omega) _) (by omega) _ _ _ _ _ _⟩

set_option maxRecDepth 100000 in
set_option maxHeartbeats 2000000 in
theorem eqVer_same (k t u : Int) (a a' : Option Addr) (c c' : Nat) (ts : List (Int × Int)) (s : ByteArray) (b : Bool) (w : World) (hn : ts.length ≤ 1048576) (ht : Tg w w.heap.size a ts) (hu : Tg w w.heap.size a' ts) :
    Calls Try.prog 122 #[.agg (verC k t u a ts.length c s b), .agg (verC k t u a' ts.length c' s b)] w fun e w' => e = .returned (.bool true) ∧ Below w.heap.size w w' := by
  have S0 := ((Inv.start w).box 32 (verC k t u a ts.length c s b)).box 32 (verC k t u a' ts.length c' s b)
  simp only [World.size_alloc] at S0
  have he : eqB t u t u = true := by simp [eqB]
  go_enter Try.func122, Try.ntmps122
  go_wp2_with fail
  refine (eqTag_any _ _ _ _ _).mono ?_
  rintro e w1 ⟨rfl, hb1⟩
  rw [he]
  have S1 := S0.on hb1
  have k1 := (S1.nth 0 rfl).six.1
  have k2 := (S1.nth 1 rfl).six.1
  clear S0 hb1
  go_wp2_with fail
  refine (eqPast_any _ _ _ _ ts ts _ hn hn ((ht.on S1.below).up S1.base) ((hu.on S1.below).up S1.base)).mono ?_
  rintro e w2 ⟨rfl, hb2⟩
  rw [decide_eq_true rfl]
  have S2 := S1.on hb2
  clear k1 k2 S1 hb2
  have k1 := (S2.nth 0 rfl).six.1
  have k2 := (S2.nth 1 rfl).six.1
  go_wp2
  go_ret
  exact ⟨rfl, S2.below⟩
end Go.Proofs.Ytjnloillcgeodaa
/- Versions in a row: how they are read, their size, whether two rows are the same. Condition: what is said of each. -/
namespace Go.Proofs.Ytjnloillcgeodaa
open Go.RowKit Go.Joins

/-- A version as it lies in memory. -/
structure V where
  k : Int
  t : Int
  u : Int
  a : Option Addr
  c : Nat
  ts : List (Int × Int)
  s : ByteArray
  g : Bool
/-- Two versions say the same. -/
def V.like (v v' : V) : Prop := v.k = v'.k ∧ v.t = v'.t ∧ v.u = v'.u ∧ v.ts = v'.ts ∧ v.s = v'.s ∧ v.g = v'.g
/-- The six cells of a version from here on. -/
abbrev Six (w : World) (b o : Nat) (v : V) : Prop :=
  w.cell? ⟨b, o, none⟩ = some (.int .i64 v.k) ∧ w.cell? ⟨b, o + 1, none⟩ = some (.int .i64 v.t) ∧ w.cell? ⟨b, o + 2, none⟩ = some (.int .i64 v.u) ∧ w.cell? ⟨b, o + 3, none⟩ = some (.slice v.a v.ts.length v.c) ∧ w.cell? ⟨b, o + 4, none⟩ = some (.string v.s) ∧ w.cell? ⟨b, o + 5, none⟩ = some (.bool v.g)
theorem Six.keep {w w' : World} {b o B : Nat} {v : V} (h : Six w b o v) (hb : b < B) (hk : ∀ p : Addr, p.block < B → w'.cell? p = w.cell? p) : Six w' b o v :=
  ⟨(hk ⟨b, o, none⟩ hb).trans h.1, (hk ⟨b, o + 1, none⟩ hb).trans h.2.1, (hk ⟨b, o + 2, none⟩ hb).trans h.2.2.1, (hk ⟨b, o + 3, none⟩ hb).trans h.2.2.2.1, (hk ⟨b, o + 4, none⟩ hb).trans h.2.2.2.2.1, (hk ⟨b, o + 5, none⟩ hb).trans h.2.2.2.2.2⟩
/-- A slice that reads as these versions, in old memory (below block B). -/
def Vg (w : World) (B : Nat) (a : Option Addr) (vs : List V) : Prop :=
  vs = [] ∨ ∃ b off : Nat, a = some ⟨b, off, none⟩ ∧ b < B ∧ ∀ i v, vs[i]? = some v → Six w b (off + i * 6) v ∧ Tg w B v.a v.ts
theorem Vg.on {w w' : World} {B : Nat} {a : Option Addr} {vs : List V} (h : Vg w B a vs) (hb : Below B w w') : Vg w' B a vs := by
  rcases h with h | ⟨b, off, ha, hlt, hx⟩
  · exact .inl h
  · exact .inr ⟨b, off, ha, hlt, fun i v hi => ⟨(hx i v hi).1.keep hlt fun _ hp => hb.cell hp, (hx i v hi).2.on hb⟩⟩
theorem Vg.up {w : World} {B B' : Nat} {a : Option Addr} {vs : List V} (h : Vg w B a vs) (hB : B ≤ B') : Vg w B' a vs := by
  rcases h with h | ⟨b, off, ha, hlt, hx⟩
  · exact .inl h
  · exact .inr ⟨b, off, ha, by omega, fun i v hi => ⟨(hx i v hi).1, (hx i v hi).2.up hB⟩⟩

/-- How much these versions weigh beside their number. -/
def tot (vs : List V) : Nat := (vs.map fun v => v.ts.length + v.s.size).sum
theorem tot_step {vs : List V} {k : Nat} {v : V} (h : vs[k]? = some v) : tot (vs.take (k + 1)) = tot (vs.take k) + (v.ts.length + v.s.size) := by
  unfold tot
  rw [List.take_add_one, h]
  simp
theorem tot_all (vs : List V) : tot (vs.take vs.length) = tot vs := by rw [List.take_length]
theorem tot_le (vs : List V) (k : Nat) : tot (vs.take k) ≤ tot vs := by
  have h : vs = vs.take k ++ vs.drop k := (List.take_append_drop k vs).symm
  have e : tot vs = tot (vs.take k) + tot (vs.drop k) := by
    unfold tot
    rw [← List.sum_append, ← List.map_append, ← h]
  omega
theorem tot_mem {vs : List V} {v : V} (h : v ∈ vs) : v.ts.length + v.s.size ≤ tot vs := by
  obtain ⟨k, hk⟩ := List.getElem?_of_mem h
  have h1 := tot_step hk
  have h2 := tot_le vs (k + 1)
  omega

set_option maxRecDepth 100000 in
set_option maxHeartbeats 2000000 in
theorem szVerS_fits (a : Option Addr) (c : Nat) (vs : List V) (left : Int) (w : World) (h0 : left ≤ 1048576) (hf : (vs.length : Int) + tot vs ≤ left) (hv : Vg w w.heap.size a vs) :
    Calls Try.prog 107 #[.slice a vs.length c, .int .i64 left] w fun e w' => e = .returned (.int .i64 (left - vs.length - tot vs)) ∧ Below w.heap.size w w' := by
  have HF := hide hf
  have HT : Hid (tot (vs.take vs.length) = tot vs) := tot_all vs
  generalize hnn : vs.length = n at *
  have HN := hide hnn
  have h1 : ¬ (left - (n : Int) < 0) := by omega
  have h2 : 0 ≤ left := by omega
  have h3 : (n : Int) ≤ left := by omega
  clear hnn hf
  go_enter Try.func107, Try.ntmps107
  go_wp2
  go_loopw [1, 5] (fun r i wr => ∃ (k : Nat) (m : Int), k ≤ n ∧ i = .int .i64 (k : Int) ∧ r = .int .i64 m ∧ Hid (m = left - n - tot (vs.take k)) ∧ Below w.heap.size w wr) (fun _ i _ => n - (intOf i).toNat)
  case atStart => exact ⟨0, _, Nat.zero_le _, rfl, rfl, by unfold Hid tot; simp, Below.refl _ _⟩
  case round =>
    obtain ⟨k, m, hk, rfl, rfl, hm, hL⟩ := hrel
    by_cases hlt : k < n
    · rcases hv with e0 | ⟨b, off, rfl, hb, hx⟩
      · have := HN.out; subst e0; simp at this; omega
      · have hkl : k < vs.length := by have := HN.out; omega
        obtain ⟨hS, -⟩ := hx k _ (List.getElem?_eq_getElem hkl)
        have HX := hide (List.getElem?_eq_getElem hkl)
        have hS' := hS.keep hb fun _ hp => hL.cell hp
        generalize vs[k] = v at hS' HX
        obtain ⟨vk, vt, vu, va, vc, vts, vs', vg⟩ := v
        have st := tot_step HX.out
        have le := tot_le vs (k + 1)
        simp only at st hS'
        have H1 : Hid ((vts.length : Int) + vs'.size ≤ m ∧ m ≤ 1048576) := by
          have := hm.out; have := HF.out; unfold Hid; omega
        have H2 : Hid (m - vts.length - vs'.size = left - n - tot (vs.take (k + 1))) := by
          have := hm.out; unfold Hid; omega
        have h5 : ¬ (m - (vts.length : Int) - (vs'.size : Int) < 0) := by have := H1.out; omega
        clear st le hS hx
        have i1 : (0 : Int) ≤ (k : Int) := by omega
        have i2 : (k : Int) < (n : Int) := by omega
        go_wp2_with fail
        refine (szVer_fits _ _ _ _ _ _ _ _ _ _ H1.out.2 H1.out.1).mono ?_
        rintro e w1 ⟨rfl, hb1⟩
        have hL1 := hL.trans (hb1.mono hL.size)
        go_wp2
        exact ⟨⟨k + 1, _, by omega, by go_num, rfl, H2, hL1⟩, by simp [intOf]; omega⟩
    · have hkn : k = n := by omega
      subst hkn
      clear hlt
      go_wp2
      go_ret
      exact ⟨ret_int (by rw [hm.out, HT.out]), hL⟩

set_option maxRecDepth 100000 in
set_option maxHeartbeats 2000000 in
theorem szVerS_not (a : Option Addr) (c : Nat) (vs : List V) (left : Int) (w : World) (h0 : left ≤ 1048576) (h00 : 0 ≤ left) (hl : vs.length ≤ 9223372036854775807) (hm0 : ∀ v ∈ vs, v.ts.length ≤ 9223372036854775807 ∧ v.s.size ≤ 9223372036854775807) (hf : left < (vs.length : Int) + tot vs) (hv : Vg w w.heap.size a vs) :
    Calls Try.prog 107 #[.slice a vs.length c, .int .i64 left] w fun e w' => e = .returned (.int .i64 (-1)) ∧ Below w.heap.size w w' := by
  have HF := hide hf
  have HM := hide hm0
  clear hm0
  have HT : Hid (tot (vs.take vs.length) = tot vs) := tot_all vs
  generalize hnn : vs.length = n at *
  have HN := hide hnn
  clear hnn hf
  by_cases h1 : left - (n : Int) < 0
  · go_enter Try.func107, Try.ntmps107
    go_wp2
    go_ret
    exact ⟨rfl, Below.refl _ _⟩
  · have h3 : (n : Int) ≤ left := by omega
    go_enter Try.func107, Try.ntmps107
    go_wp2
    go_loopw [1, 5] (fun r i wr => ∃ (k : Nat) (m : Int), k ≤ n ∧ i = .int .i64 (k : Int) ∧ r = .int .i64 m ∧ Hid (m = left - n - tot (vs.take k) ∧ 0 ≤ m) ∧ Below w.heap.size w wr) (fun _ i _ => n - (intOf i).toNat)
    case atStart => exact ⟨0, _, Nat.zero_le _, rfl, rfl, by unfold Hid tot; simp; omega, Below.refl _ _⟩
    case round =>
      obtain ⟨k, m, hk, rfl, rfl, hm, hL⟩ := hrel
      by_cases hlt : k < n
      · rcases hv with e0 | ⟨b, off, rfl, hb, hx⟩
        · have := HN.out; subst e0; simp at this; omega
        · have hkl : k < vs.length := by have := HN.out; omega
          obtain ⟨hS, -⟩ := hx k _ (List.getElem?_eq_getElem hkl)
          have HX := hide (List.getElem?_eq_getElem hkl)
          have hS' := hS.keep hb fun _ hp => hL.cell hp
          generalize vs[k] = v at hS' HX
          have HB := hide (HM.out v (List.mem_of_getElem? HX.out))
          obtain ⟨vk, vt, vu, va, vc, vts, vs', vg⟩ := v
          have st := tot_step HX.out
          simp only at st hS'
          have H2 : Hid (m - vts.length - vs'.size = left - n - tot (vs.take (k + 1))) := by
            have := hm.out; unfold Hid; omega
          clear st hS hx
          have i1 : (0 : Int) ≤ (k : Int) := by omega
          have i2 : (k : Int) < (n : Int) := by omega
          have H3 : Hid (m ≤ 1048576) := by have := hm.out; unfold Hid; omega
          by_cases hfit : (vts.length : Int) + vs'.size ≤ m
          · have h5 : ¬ (m - (vts.length : Int) - (vs'.size : Int) < 0) := by omega
            have H4 := hide hfit
            clear hfit
            go_wp2_with fail
            refine (szVer_fits _ _ _ _ _ _ _ _ _ _ H3.out H4.out).mono ?_
            rintro e w1 ⟨rfl, hb1⟩
            have hL1 := hL.trans (hb1.mono hL.size)
            go_wp2
            exact ⟨⟨k + 1, _, by omega, by go_num, rfl, ⟨H2.out, by have := H4.out; omega⟩, hL1⟩, by simp [intOf]; omega⟩
          · have H4 := hide hfit
            clear hfit
            go_wp2_with fail
            refine (szVer_not _ _ _ _ _ _ _ _ _ _ H3.out hm.out.2 HB.out.1 HB.out.2 (by have := H4.out; omega)).mono ?_
            rintro e w1 ⟨rfl, hb1⟩
            have hL1 := hL.trans (hb1.mono hL.size)
            go_wp2
            go_ret
            exact ⟨rfl, hL1⟩
      · have hkn : k = n := by omega
        exfalso
        have := hm.out
        have := HT.out
        have := HF.out
        subst hkn
        omega
end Go.Proofs.Ytjnloillcgeodaa
/- Versions in a row: whether two rows are the same; their copy. Condition: at most 1048576 versions, and tags of each. -/
namespace Go.Proofs.Ytjnloillcgeodaa
open Go.RowKit Go.Joins

/-- Two rows say the same as far as both go. -/
def Like (vs us : List V) : Prop := ∀ (i : Nat) (v v' : V), vs[i]? = some v → us[i]? = some v' → V.like v v'
theorem Like.swap {vs us : List V} (h : Like vs us) : Like us vs := fun i v v' h1 h2 => by
  obtain ⟨a, b, c, d, e, f⟩ := h i v' v h2 h1
  exact ⟨a.symm, b.symm, c.symm, d.symm, e.symm, f.symm⟩
set_option maxRecDepth 100000 in
set_option maxHeartbeats 2000000 in
theorem eqVerS_same (a a' : Option Addr) (c c' n : Nat) (vs us : List V) (w : World) (hn : n ≤ 1048576) (hvn : vs.length = n) (hun : us.length = n)
    (hlike : Like vs us) (hm : ∀ v ∈ vs, v.ts.length ≤ 1048576) (hv : Vg w w.heap.size a vs) (hu : Vg w w.heap.size a' us) :
    Calls Try.prog 111 #[.slice a n c, .slice a' n c'] w fun e w' => e = .returned (.bool true) ∧ Below w.heap.size w w' := by
  have HN := hide hvn
  have HU := hide hun
  have HK := hide hlike
  have HM := hide hm
  clear hvn hun hlike hm
  go_enter Try.func111, Try.ntmps111
  go_wp2
  go_loopw [5] (fun i wr => ∃ k : Nat, k ≤ n ∧ i = .int .i64 (k : Int) ∧ Below w.heap.size w wr) (fun i _ => n - (intOf i).toNat)
  case atStart => exact ⟨0, Nat.zero_le _, rfl, Below.refl _ _⟩
  case round =>
    obtain ⟨k, hk, rfl, hL⟩ := hrel
    by_cases hlt : k < n
    · rcases hv with e0 | ⟨b, off, rfl, hb, hx⟩
      · have := HN.out; subst e0; simp at this; omega
      · rcases hu with e0 | ⟨b', off', rfl, hb', hx'⟩
        · have := HU.out; subst e0; simp at this; omega
        · have hkl : k < vs.length := by have := HN.out; omega
          have hkl' : k < us.length := by have := HU.out; omega
          obtain ⟨hS, hT⟩ := hx k _ (List.getElem?_eq_getElem hkl)
          obtain ⟨hS2, hT2⟩ := hx' k _ (List.getElem?_eq_getElem hkl')
          have HX := hide (List.getElem?_eq_getElem hkl)
          have HY := hide (List.getElem?_eq_getElem hkl')
          generalize vs[k] = v at hS hT HX
          generalize us[k] = v' at hS2 hT2 HY
          have hli := HK.out k v v' HX.out HY.out
          have HB := hide (HM.out v (List.mem_of_getElem? HX.out))
          obtain ⟨vk, vt, vu, va, vc, vts, vs', vg⟩ := v
          obtain ⟨uk, ut, uu, ua, uc, uts, us', ug⟩ := v'
          obtain ⟨e1, e2, e3, e4, e5, e6⟩ := hli
          simp only at e1 e2 e3 e4 e5 e6 hS hS2 hT hT2
          subst e1 e2 e3 e4 e5 e6
          have Q1 := hide hS
          have Q2 := hide hS2
          have T1 := hide hT
          have T2 := hide hT2
          clear hS hS2 hT hT2 hx hx'
          have i1 : (0 : Int) ≤ (k : Int) := by omega
          have i2 : (k : Int) < (n : Int) := by omega
          go_wp2_with fail
          refine wp_region_noPanic ?_
          refine wp_region_held_drew (S := (fun w' => Six w' b (off + k * 6) ⟨vk, vt, vu, va, vc, vts, vs', vg⟩ ∧ Six w' b' (off' + k * 6) ⟨vk, vt, vu, ua, uc, vts, vs', vg⟩ ∧ Below w.heap.size w w')) (by kernel_rfl) (by exact ⟨Q1.out.keep hb fun _ hp => hL.cell hp, Q2.out.keep hb' fun _ hp => hL.cell hp, hL.drew⟩) (fun hHeld => ?_)
          refine take_run 0 (some 17) (v := ?_) rfl rfl (by kernel_rfl) (by kernel_rfl) (by kernel_rfl) (fun _ _ _ h => h) (by rfl) ?_ hHeld ?_
          rotate_left
          · ((intro w hSw); (try dsimp only at hSw); go_simp <;> with_reducible rfl)
          simp only [Act.put, List.setIfInBounds_toArray, List.set_cons_zero, List.set_cons_succ]
          refine take_run 1 (some 18) (v := ?_) rfl rfl (by kernel_rfl) (by kernel_rfl) (by kernel_rfl) (fun _ _ _ h => h) (by rfl) ?_ hHeld ?_
          rotate_left
          · ((intro w hSw); (try dsimp only at hSw); go_simp <;> with_reducible rfl)
          simp only [Act.put, List.setIfInBounds_toArray, List.set_cons_zero, List.set_cons_succ]
          refine take_run 2 (some 19) (v := ?_) rfl rfl (by kernel_rfl) (by kernel_rfl) (by kernel_rfl) (fun _ _ _ h => h) (by rfl) ?_ hHeld ?_
          rotate_left
          · ((intro w hSw); (try dsimp only at hSw); go_simp <;> with_reducible rfl)
          simp only [Act.put, List.setIfInBounds_toArray, List.set_cons_zero, List.set_cons_succ]
          refine take_run 3 (some 20) (v := ?_) rfl rfl (by kernel_rfl) (by kernel_rfl) (by kernel_rfl) (fun _ _ _ h => h) (by rfl) ?_ hHeld ?_
          rotate_left
          · ((intro w hSw); (try dsimp only at hSw); go_simp <;> with_reducible rfl)
          simp only [Act.put, List.setIfInBounds_toArray, List.set_cons_zero, List.set_cons_succ]
          refine take_run 4 (some 21) (v := ?_) rfl rfl (by kernel_rfl) (by kernel_rfl) (by kernel_rfl) (fun _ _ _ h => h) (by rfl) ?_ hHeld ?_
          rotate_left
          · ((intro w hSw); (try dsimp only at hSw); go_simp <;> with_reducible rfl)
          simp only [Act.put, List.setIfInBounds_toArray, List.set_cons_zero, List.set_cons_succ]
          refine take_run 5 (some 22) (v := ?_) rfl rfl (by kernel_rfl) (by kernel_rfl) (by kernel_rfl) (fun _ _ _ h => h) (by rfl) ?_ hHeld ?_
          rotate_left
          · ((intro w hSw); (try dsimp only at hSw); go_simp <;> with_reducible rfl)
          simp only [Act.put, List.setIfInBounds_toArray, List.set_cons_zero, List.set_cons_succ]
          refine take_run 6 (some 23) (v := ?_) rfl rfl (by kernel_rfl) (by kernel_rfl) (by kernel_rfl) (fun _ _ _ h => h) (by rfl) ?_ hHeld ?_
          rotate_left
          · ((intro w hSw); (try dsimp only at hSw); go_simp <;> with_reducible rfl)
          simp only [Act.put, List.setIfInBounds_toArray, List.set_cons_zero, List.set_cons_succ]
          refine take_run 7 (some 24) (v := ?_) rfl rfl (by kernel_rfl) (by kernel_rfl) (by kernel_rfl) (fun _ _ _ h => h) (by rfl) ?_ hHeld ?_
          rotate_left
          · ((intro w hSw); (try dsimp only at hSw); go_simp <;> with_reducible rfl)
          simp only [Act.put, List.setIfInBounds_toArray, List.set_cons_zero, List.set_cons_succ]
          refine take_one 8 (by kernel_rfl) rfl (fun K hK => ?_)
          go_simp
          (refine (eqVer_same _ _ _ _ _ _ _ vts _ _ _ HB.out ((T1.out.on hHeld.2.2).up hHeld.2.2.size) ((T2.out.on hHeld.2.2).up hHeld.2.2.size)).mono ?_; rintro e w1 ⟨rfl, hb1⟩)
          try go_wp2_with fail
          refine hK.out _ _ (by exact ⟨Q1.out.keep hb fun _ hp => (hHeld.2.2.trans (hb1.mono hHeld.2.2.size)).cell hp, Q2.out.keep hb' fun _ hp => (hHeld.2.2.trans (hb1.mono hHeld.2.2.size)).cell hp, hHeld.2.2.trans (hb1.mono hHeld.2.2.size)⟩) (fun hHeld => ?_)
          clear hK K
          refine take_run 9 (some 26) (v := ?_) rfl rfl (by kernel_rfl) (by kernel_rfl) (by kernel_rfl) (fun _ _ _ h => h) (by rfl) ?_ hHeld ?_
          rotate_left
          · ((intro w hSw); (try dsimp only at hSw); go_simp <;> with_reducible rfl)
          simp only [Act.put, List.setIfInBounds_toArray, List.set_cons_zero, List.set_cons_succ]
          refine wpAnyH_done (by kernel_rfl) ?_ _
          refine NoPanic.normal ?_
          have hL2 := hHeld.2.2
          clear hHeld hL
          go_wp2
          exact ⟨⟨k + 1, by omega, by go_num, hL2⟩, by simp [intOf]; omega⟩
    · have hkn : k = n := by omega
      subst hkn
      clear hlt
      go_wp2
      go_ret
      exact ⟨rfl, hL⟩
set_option maxHeartbeats 1000000 in
theorem eqStore_same (a a' : Option Addr) (c c' n : Nat) (vs us : List V) (w : World) (hn : n ≤ 1048576) (hvn : vs.length = n) (hun : us.length = n)
    (hlike : Like vs us) (hm : ∀ v ∈ vs, v.ts.length ≤ 1048576) (hv : Vg w w.heap.size a vs) (hu : Vg w w.heap.size a' us) :
    Calls Try.prog 110 #[.agg #[.slice a n c], .agg #[.slice a' n c']] w fun e w' => e = .returned (.bool true) ∧ Below w.heap.size w w' := by
  have S0 := ((Inv.start w).box 43 #[.slice a n c]).box 43 #[.slice a' n c']
  simp only [World.size_alloc] at S0
  go_enter Try.func110, Try.ntmps110
  go_wp2_with fail
  refine (eqVerS_same a a' c c' n vs us _ hn hvn hun hlike hm ((hv.on S0.below).up S0.base) ((hu.on S0.below).up S0.base)).mono ?_
  rintro e w1 ⟨rfl, hb1⟩
  have S1 := S0.on hb1
  clear S0
  go_wp2
  go_ret
  exact ⟨rfl, S1.below⟩

theorem ver_info : (Try.prog.info? 32).map (fun i => (i.zero, i.size, i.bytes)) = some (some (.agg (verC 0 0 0 none 0 0 ⟨#[]⟩ false)), 6, 72) := by kernel_rfl

/-- The six cells of the version at place i of a row of cells. -/
def VerAt (cur : Array Value) (i : Nat) (v : V) : Prop :=
  cur[i * 6]? = some (.int .i64 v.k) ∧ cur[i * 6 + 1]? = some (.int .i64 v.t) ∧ cur[i * 6 + 2]? = some (.int .i64 v.u) ∧ cur[i * 6 + 3]? = some (.slice v.a v.ts.length v.c) ∧ cur[i * 6 + 4]? = some (.string v.s) ∧ cur[i * 6 + 5]? = some (.bool v.g)
/-- Cells with the version at place k turned. -/
abbrev put6 (cur : Array Value) (k : Nat) (v : V) : Array Value :=
  (((((cur.setIfInBounds (k * 6) (.int .i64 v.k)).setIfInBounds (k * 6 + 1) (.int .i64 v.t)).setIfInBounds (k * 6 + 2) (.int .i64 v.u)).setIfInBounds (k * 6 + 3) (.slice v.a v.ts.length v.c)).setIfInBounds (k * 6 + 4) (.string v.s)).setIfInBounds (k * 6 + 5) (.bool v.g)
theorem verAt_put {cur : Array Value} {k : Nat} {v : V} (h : k * 6 + 5 < cur.size) : VerAt (put6 cur k v) k v := by
  refine ⟨?_, ?_, ?_, ?_, ?_, ?_⟩ <;> simp [put6, Array.getElem?_setIfInBounds] <;> omega
theorem verAt_other {cur : Array Value} {j k : Nat} {v v' : V} (hj : j ≠ k) (h : VerAt cur j v) : VerAt (put6 cur k v') j v := by
  obtain ⟨h0, h1, h2, h3, h4, h5⟩ := h
  refine ⟨?_, ?_, ?_, ?_, ?_, ?_⟩
  all_goals
    unfold put6
    rw [Array.getElem?_setIfInBounds_ne (by omega), Array.getElem?_setIfInBounds_ne (by omega), Array.getElem?_setIfInBounds_ne (by omega), Array.getElem?_setIfInBounds_ne (by omega), Array.getElem?_setIfInBounds_ne (by omega), Array.getElem?_setIfInBounds_ne (by omega)]
    assumption
/-- A version whose causes lie in a block of their own, numbered above G. -/
def Own (w : World) (G : Nat) (v : V) : Prop :=
  ∃ (g : Nat) (cur : Array Value), v.a = some ⟨g, 0, none⟩ ∧ G < g ∧ Blk w g 27 cur ∧ cur.size = v.ts.length * 2 ∧ ∀ i x, v.ts[i]? = some x → TagAt cur i x
theorem Own.on {w w' : World} {G : Nat} {v : V} (h : Own w G v) (hb : Below w.heap.size w w') : Own w' G v := by
  obtain ⟨g, cur, h1, h2, h3, h4, h5⟩ := h
  exact ⟨g, cur, h1, h2, h3.on hb, h4, h5⟩
theorem Own.aside {w : World} {G : Nat} {v : V} (h : Own w G v) (i : Nat) (x : Value) : Own (w.setCell ⟨G, i, none⟩ x) G v := by
  obtain ⟨g, cur, h1, h2, h3, h4, h5⟩ := h
  exact ⟨g, cur, h1, h2, h3.aside (by simp; omega) x, h4, h5⟩
theorem Own.tg {w : World} {G : Nat} {v : V} (h : Own w G v) : Tg w w.heap.size v.a v.ts := by
  obtain ⟨g, cur, h1, h2, h3, h4, h5⟩ := h
  rw [h1]
  exact Tg.of h3 h3.inside h5
/-- A row of versions in one block, each with its causes in a block of its own. -/
def Row (w : World) (G : Nat) (us : List V) (cur : Array Value) : Prop := Blk w G 32 cur ∧ ∀ i v, us[i]? = some v → VerAt cur i v ∧ Own w G v
theorem Row.on {w w' : World} {G : Nat} {us : List V} {cur : Array Value} (h : Row w G us cur) (hb : Below w.heap.size w w') : Row w' G us cur := ⟨h.1.on hb, fun i v hi => ⟨(h.2 i v hi).1, (h.2 i v hi).2.on hb⟩⟩
theorem Row.vg {w : World} {G : Nat} {us : List V} {cur : Array Value} (h : Row w G us cur) : Vg w w.heap.size (some ⟨G, 0, none⟩) us :=
  .inr ⟨G, 0, rfl, h.1.inside, fun i v hi => by
    obtain ⟨⟨h0, h1, h2, h3, h4, h5⟩, ho⟩ := h.2 i v hi
    refine ⟨⟨?_, ?_, ?_, ?_, ?_, ?_⟩, ho.tg⟩
    all_goals
      rw [Nat.zero_add, h.1.at]
      assumption⟩
theorem like_step {us vs : List V} {k : Nat} {v v' : V} (h : Like us vs) (hk : us.length = k) (hv : vs[k]? = some v') (hl : V.like v v') : Like (us ++ [v]) vs := fun i x x' hi hi' => by
  by_cases e : i < us.length
  · rw [List.getElem?_append_left e] at hi
    exact h i x x' hi hi'
  · rw [List.getElem?_append_right (by omega)] at hi
    have h0 : i - us.length = 0 := by
      have := (List.getElem?_eq_some_iff.1 hi).1
      simp at this
      omega
    have hik : i = k := by omega
    rw [h0] at hi
    subst hik
    simp at hi
    rw [hv] at hi'
    injection hi' with hi'
    subst hi hi'
    exact hl
theorem row_step {w : World} {G k : Nat} {us : List V} {cur : Array Value} {v : V} (h : Row w G us cur) (hk : us.length = k) (ho : Own w G v) (hs : k * 6 + 5 < cur.size) :
    Row ((((((w.setCell ⟨G, k * 6, none⟩ (.int .i64 v.k)).setCell ⟨G, k * 6 + 1, none⟩ (.int .i64 v.t)).setCell ⟨G, k * 6 + 2, none⟩ (.int .i64 v.u)).setCell ⟨G, k * 6 + 3, none⟩ (.slice v.a v.ts.length v.c)).setCell ⟨G, k * 6 + 4, none⟩ (.string v.s)).setCell ⟨G, k * 6 + 5, none⟩ (.bool v.g)) G (us ++ [v]) (put6 cur k v) := by
  refine ⟨(((((h.1.put _ _).put _ _).put _ _).put _ _).put _ _).put _ _, fun i x hi => ?_⟩
  by_cases e : i < us.length
  · rw [List.getElem?_append_left e] at hi
    obtain ⟨h1, h2⟩ := h.2 i x hi
    exact ⟨verAt_other (by omega) h1, (((((h2.aside _ _).aside _ _).aside _ _).aside _ _).aside _ _).aside _ _⟩
  · rw [List.getElem?_append_right (by omega)] at hi
    have h0 : i - us.length = 0 := by
      have := (List.getElem?_eq_some_iff.1 hi).1
      simp at this
      omega
    have hik : i = k := by omega
    rw [h0] at hi
    subst hik
    simp at hi
    subst hi
    exact ⟨verAt_put hs, (((((ho.aside _ _).aside _ _).aside _ _).aside _ _).aside _ _).aside _ _⟩
/-- What toVerS leaves. -/
def CopiedVS (w : World) (vs : List V) (e : Ending) (w' : World) : Prop :=
  ∃ (g : Nat) (us : List V) (cur : Array Value), e = .returned (.slice (some ⟨g, 0, none⟩) vs.length vs.length) ∧ w.heap.size ≤ g ∧ us.length = vs.length ∧ (Like us vs) ∧ Row w' g us cur ∧ cur.size = vs.length * 6 ∧ Below w.heap.size w w'

set_option maxRecDepth 100000 in
set_option maxHeartbeats 2000000 in
theorem toVerS_any (a : Option Addr) (c : Nat) (vs : List V) (w : World) (hn : vs.length ≤ 1048576) (hm : ∀ v ∈ vs, v.ts.length ≤ 1048576) (hv : Vg w w.heap.size a vs) :
    Calls Try.prog 109 #[.slice a vs.length c] w (CopiedVS w vs) := by
  obtain ⟨i0, hi0, hz0, hz1, hz2⟩ := info_parts ver_info
  have hmk : ∀ W : World, (Instr.makeSlice 41 (.int .i64 (vs.length : Int)) (.int .i64 (vs.length : Int))).run Try.prog W = .ok (.slice (some ⟨W.heap.size, 0, none⟩) vs.length vs.length) (W.alloc (.cells (madeCells (Value.agg (verC 0 0 0 none 0 0 ⟨#[]⟩ false)).cells (vs.length * 6)) 32)) := by
    intro W
    have hr := run_make (P := Try.prog) W 41 32 i0 _ Try.underlying41 hi0 hz0 .i64 .i64 (vs.length : Int) (vs.length : Int) (by omega) (by omega) (by rw [hz2]; omega) (by omega)
    rw [hz1] at hr
    simpa using hr
  have HM := hide hm
  clear hm
  generalize hn' : vs.length = n at *
  have HN := hide hn'
  clear hn'
  go_enter Try.func109, Try.ntmps109
  go_wp2
  clear hmk hi0 hz0 hz1 hz2
  have B0 := Blk.made w 32 (madeCells (verC 0 0 0 none 0 0 ⟨#[]⟩ false) (n * 6))
  have L0 := below_alloc1 w (.cells (madeCells (verC 0 0 0 none 0 0 ⟨#[]⟩ false) (n * 6)) 32)
  go_loopw [4] (fun i wr => ∃ (k : Nat) (cur : Array Value) (us : List V), k ≤ n ∧ i = .int .i64 (k : Int) ∧ Hid (us.length = k) ∧ Row wr w.heap.size us cur ∧ cur.size = n * 6 ∧ Hid (Like us vs) ∧ Below w.heap.size w wr) (fun i _ => n - (intOf i).toNat)
  case atStart => exact ⟨0, _, [], Nat.zero_le _, rfl, rfl, ⟨B0, fun i v hi => by simp at hi⟩, size_madeCells _ _, fun i v v' hi => by simp at hi, L0⟩
  case round =>
    obtain ⟨k, cur, us, hk, rfl, hus, hR, hsz, hli, hL⟩ := hrel
    by_cases hlt : k < n
    · rcases hv with h0 | ⟨b, off, rfl, hb, hx⟩
      · have := HN.out; subst h0; simp at this; omega
      · have hkl : k < vs.length := by have := HN.out; omega
        obtain ⟨hS, hT⟩ := hx k _ (List.getElem?_eq_getElem hkl)
        have HX := hide (List.getElem?_eq_getElem hkl)
        generalize vs[k] = v at hS hT HX
        have HB := hide (HM.out v (List.mem_of_getElem? HX.out))
        obtain ⟨vk, vt, vu, va, vc, vts, vs', vg⟩ := v
        simp only at hS hT
        have hS' := hS.keep hb fun _ hp => hL.cell hp
        have HT := hide ((hT.on hL).up hL.size)
        clear hS hT hx
        go_wp2_with fail
        refine (toVer_any vk vt vu va vc vts vs' vg wr HB.out HT.out).mono ?_
        rintro e w1 ⟨g1, cur1, rfl, hg1, hB1, hsz1, hcur1, hb1⟩
        have hG : w.heap.size < wr.heap.size := hR.1.inside
        have O1 : Own w1 w.heap.size ⟨vk, vt, vu, some ⟨g1, 0, none⟩, vts.length, vts, vs', vg⟩ := ⟨g1, cur1, rfl, by omega, hB1, hsz1, hcur1⟩
        have HR := hide (row_step (hR.on hb1) hus.out O1 (show k * 6 + 5 < cur.size by omega))
        have HL := hide (like_step hli.out hus.out HX.out (v := ⟨vk, vt, vu, some ⟨g1, 0, none⟩, vts.length, vts, vs', vg⟩) ⟨rfl, rfl, rfl, rfl, rfl, rfl⟩)
        have B1 := hR.1.on hb1
        have hs0 : k * 6 < cur.size := by omega
        have hs1 : k * 6 + 1 < cur.size := by omega
        have hs2 : k * 6 + 2 < cur.size := by omega
        have hs3 : k * 6 + 3 < cur.size := by omega
        have hs4 : k * 6 + 4 < cur.size := by omega
        have hs5 : k * 6 + 5 < cur.size := by omega
        have d0 : w1.cell? ⟨w.heap.size, k * 6, none⟩ = some cur[k * 6] := by rw [B1.at]; exact Array.getElem?_eq_getElem hs0
        have d1 : w1.cell? ⟨w.heap.size, k * 6 + 1, none⟩ = some cur[k * 6 + 1] := by rw [B1.at]; exact Array.getElem?_eq_getElem hs1
        have d2 : w1.cell? ⟨w.heap.size, k * 6 + 2, none⟩ = some cur[k * 6 + 2] := by rw [B1.at]; exact Array.getElem?_eq_getElem hs2
        have d3 : w1.cell? ⟨w.heap.size, k * 6 + 3, none⟩ = some cur[k * 6 + 3] := by rw [B1.at]; exact Array.getElem?_eq_getElem hs3
        have d4 : w1.cell? ⟨w.heap.size, k * 6 + 4, none⟩ = some cur[k * 6 + 4] := by rw [B1.at]; exact Array.getElem?_eq_getElem hs4
        have d5 : w1.cell? ⟨w.heap.size, k * 6 + 5, none⟩ = some cur[k * 6 + 5] := by rw [B1.at]; exact Array.getElem?_eq_getElem hs5
        have f0 := B1.loose (k * 6)
        have f1 := B1.loose (k * 6 + 1)
        have f2 := B1.loose (k * 6 + 2)
        have f3 := B1.loose (k * 6 + 3)
        have f4 := B1.loose (k * 6 + 4)
        have f5 := B1.loose (k * 6 + 5)
        have hL1 := hL.trans (hb1.mono hL.size)
        have HU : Hid ((us ++ [(⟨vk, vt, vu, some ⟨g1, 0, none⟩, vts.length, vts, vs', vg⟩ : V)]).length = k + 1) := by
          unfold Hid
          rw [List.length_append, hus.out]
          rfl
        clear hS' hR hli hus hcur1 O1 hL B1 hB1
        go_wp2
        exact ⟨⟨k + 1, _, _, by omega, by go_num, HU, HR.out, by simp [hsz], HL, (((((hL1.setCell (Nat.le_refl _) _).setCell (Nat.le_refl _) _).setCell (Nat.le_refl _) _).setCell (Nat.le_refl _) _).setCell (Nat.le_refl _) _).setCell (Nat.le_refl _) _⟩, by simp [intOf]; omega⟩
    · have hkn : k = n := by omega
      subst hkn
      clear hlt
      go_wp2
      go_ret
      have e := HN.out
      exact ⟨_, us, cur, by rw [e]; rfl, Nat.le_refl _, hus.out.trans e.symm, hli.out, hR, by rw [e]; exact hsz, hL⟩

/-- What toStore leaves. -/
def CopiedSt (w : World) (vs : List V) (e : Ending) (w' : World) : Prop :=
  ∃ (g : Nat) (us : List V) (cur : Array Value), e = .returned (.agg #[.slice (some ⟨g, 0, none⟩) vs.length vs.length]) ∧ w.heap.size ≤ g ∧ us.length = vs.length ∧ (Like us vs) ∧ Row w' g us cur ∧ cur.size = vs.length * 6 ∧ Below w.heap.size w w'
theorem Row.aside {w : World} {G : Nat} {us : List V} {cur : Array Value} (h : Row w G us cur) {p : Addr} (hp : p.block < G) (x : Value) : Row (w.setCell p x) G us cur :=
  ⟨h.1.aside (by omega) x, fun i v hi => ⟨(h.2 i v hi).1, by
    obtain ⟨g, c, h1, h2, h3, h4, h5⟩ := (h.2 i v hi).2
    exact ⟨g, c, h1, h2, h3.aside (by omega) x, h4, h5⟩⟩⟩

set_option maxRecDepth 100000 in
set_option maxHeartbeats 1000000 in
theorem toStore_any (a : Option Addr) (c : Nat) (vs : List V) (w : World) (hn : vs.length ≤ 1048576) (hm : ∀ v ∈ vs, v.ts.length ≤ 1048576) (hv : Vg w w.heap.size a vs) :
    Calls Try.prog 108 #[.agg #[.slice a vs.length c]] w (CopiedSt w vs) := by
  have S0 := (((Inv.start w).box 126 #[.slice a vs.length c]).box 43 #[.slice none 0 0]).box 43 #[.slice none 0 0]
  simp only [World.size_alloc] at S0
  have T0 := hv.on S0.below
  go_enter Try.func108, Try.ntmps108
  go_wp2_with fail
  generalize (((w.alloc (.cells #[.slice a vs.length c] 126)).alloc (.cells #[.slice none 0 0] 43)).alloc (.cells #[.slice none 0 0] 43)) = W at S0 T0 ⊢
  refine (toVerS_any a c vs W hn hm (T0.up S0.base)).mono ?_
  rintro e w1 ⟨g, us, cur, rfl, hg, hul, hli, hR, hsz, hb1⟩
  have S1 := S0.on hb1
  have hr := S0.room
  have hl := S1.below
  obtain ⟨k0, f0⟩ := (S1.nth 0 rfl).one
  obtain ⟨k1, f1⟩ := (S1.nth 1 rfl).one
  have hW := S0.base
  have HR := hide hR
  have HL := hide hli
  have HU := hide hul
  clear hR hli hul S0 S1 T0 hv hm
  go_wp2
  refine bodyPost_ret (v := .agg #[.slice (some ⟨g, 0, none⟩) vs.length vs.length]) (by simp [results, Try.results108, go_sem, k1]) rfl ?_
  exact ⟨g, us, cur, rfl, by omega, HU.out, HL.out, (HR.out.aside (by simp; omega) _).aside (by simp; omega) _, hsz, (hl.setCell (by simp; omega) _).setCell (by simp) _⟩
set_option maxHeartbeats 1000000 in
theorem szStore_fits (a : Option Addr) (c : Nat) (vs : List V) (left : Int) (w : World) (h0 : left ≤ 1048576) (hf : (vs.length : Int) + tot vs ≤ left) (hv : Vg w w.heap.size a vs) :
    Calls Try.prog 106 #[.agg #[.slice a vs.length c], .int .i64 left] w fun e w' => e = .returned (.int .i64 (left - vs.length - tot vs)) ∧ Below w.heap.size w w' := by
  have h1 : ¬ (left - (vs.length : Int) - (tot vs : Int) < 0) := by omega
  have S0 := (Inv.start w).box 126 #[.slice a vs.length c]
  go_enter Try.func106, Try.ntmps106
  go_wp2_with fail
  refine (szVerS_fits a c vs left _ h0 hf ((hv.on S0.below).up S0.base)).mono ?_
  rintro e w1 ⟨rfl, hb1⟩
  have S1 := S0.on hb1
  clear S0
  go_wp2
  go_ret
  exact ⟨rfl, S1.below⟩
set_option maxHeartbeats 1000000 in
theorem szStore_not (a : Option Addr) (c : Nat) (vs : List V) (left : Int) (w : World) (h0 : left ≤ 1048576) (h00 : 0 ≤ left) (hl : vs.length ≤ 9223372036854775807) (hm0 : ∀ v ∈ vs, v.ts.length ≤ 9223372036854775807 ∧ v.s.size ≤ 9223372036854775807) (hf : left < (vs.length : Int) + tot vs) (hv : Vg w w.heap.size a vs) :
    Calls Try.prog 106 #[.agg #[.slice a vs.length c], .int .i64 left] w fun e w' => e = .returned (.int .i64 (-1)) ∧ Below w.heap.size w w' := by
  have S0 := (Inv.start w).box 126 #[.slice a vs.length c]
  have HM := hide hm0
  clear hm0
  go_enter Try.func106, Try.ntmps106
  go_wp2_with fail
  refine (szVerS_not a c vs left _ h0 h00 hl HM.out hf ((hv.on S0.below).up S0.base)).mono ?_
  rintro e w1 ⟨rfl, hb1⟩
  have S1 := S0.on hb1
  clear S0
  go_wp2
  go_ret
  exact ⟨rfl, S1.below⟩
end Go.Proofs.Ytjnloillcgeodaa
