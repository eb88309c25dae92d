/- Contracts of the functions on vectors of tags: whether one is valid, in the program and in the model. Condition: at most 1048576 tags. -/
import Derived.Test.YtoechhbjfejmjaaDoorPasts
namespace Go.Proofs.YtoechhbjfejmjaaDoor
open Go.RowKit Go.Joins

/-- Whether these tags are a valid vector. -/
def pastB (ts : List (Int × Int)) : Bool := decide (ts.length = 4) && ts.all fun x => okB x.1 x.2
theorem pastB_len {ts : List (Int × Int)} (h : ¬ ts.length = 4) : pastB ts = false := by unfold pastB; simp [h]
theorem pastB_bad {ts : List (Int × Int)} {k : Nat} {x : Int × Int} (hx : ts[k]? = some x) (h : okB x.1 x.2 = false) : pastB ts = false := by
  unfold pastB
  have : (ts.all fun x => okB x.1 x.2) = false := by
    rw [List.all_eq_false]
    exact ⟨x, List.mem_of_getElem? hx, by simp [h]⟩
  simp [this]
theorem pastB_ok {ts : List (Int × Int)} (hl : ts.length = 4) (h : ∀ (k : Nat) (x : Int × Int), ts[k]? = some x → okB x.1 x.2 = true) : pastB ts = true := by
  unfold pastB
  have : (ts.all fun x => okB x.1 x.2) = true := by
    rw [List.all_eq_true]
    intro x hx
    obtain ⟨k, hk⟩ := List.getElem?_of_mem hx
    exact h k x hk
  simp [this, hl]

set_option maxRecDepth 100000 in
set_option maxHeartbeats 1000000 in
theorem l1PastOk_any (a : Option Addr) (c : Nat) (ts : List (Int × Int)) (w : World) (hn : ts.length ≤ 1048576) (ht : Tg w w.heap.size a ts) :
    Calls Tryd.prog 38 #[.agg #[.slice a ts.length c]] w fun e w' => e = .returned (.bool (pastB ts)) ∧ Below w.heap.size w w' := by
  have B0 := Blk.made w 34 #[.slice a ts.length c]
  have L0 := below_alloc1 w (.cells #[.slice a ts.length c] 34)
  generalize hnn : ts.length = n at *
  have HN := hide hnn
  clear hnn
  go_enter Tryd.func38, Tryd.ntmps38
  go_wp2
  go_loopw [3] (fun i wr => ∃ k : Nat, k ≤ n ∧ i = .int .i64 (k : Int) ∧ (∀ j x, j < k → ts[j]? = some x → okB x.1 x.2 = true) ∧ Blk wr w.heap.size 34 #[.slice a n c] ∧ Below w.heap.size w wr) (fun i _ => n - (intOf i).toNat)
  case atStart => exact ⟨0, Nat.zero_le _, rfl, fun j x hj => absurd hj (by omega), B0, L0⟩
  case round =>
    obtain ⟨k, hk, rfl, hall, hB, hL⟩ := hrel
    have hA := hide hall
    clear hall
    obtain ⟨q0, q1⟩ := hB.one
    by_cases hlt : k < n
    · rcases ht with h0 | ⟨b, off, rfl, hb, hx⟩
      · have := HN.out; subst h0; simp at this; omega
      · have hkl : k < ts.length := by have := HN.out; omega
        obtain ⟨hc0, hc1⟩ := hx k _ (List.getElem?_eq_getElem hkl)
        have c0 := (hL.cell (p := ⟨b, off + k * 2, none⟩) hb).trans hc0
        have c1 := (hL.cell (p := ⟨b, off + k * 2 + 1, none⟩) hb).trans hc1
        have HX := hide (List.getElem?_eq_getElem hkl)
        generalize ts[k] = x at c0 c1 HX
        obtain ⟨x1, x2⟩ := x
        simp only at c0 c1
        clear hc0 hc1 hx
        go_wp2_with fail
        refine (l1TagOk_any _ _ _).mono ?_
        rintro e w1 ⟨rfl, hb1⟩
        have hL1 := hL.trans (hb1.mono hL.size)
        have B1 := hB.on hb1
        cases hok : okB x1 x2
        · have hf := hide (pastB_bad HX.out hok)
          clear hok
          go_wp2
          go_ret
          exact ⟨ret_bool hf.out.symm, hL1⟩
        · have HA := hide (show ∀ j x, j < k + 1 → ts[j]? = some x → okB x.1 x.2 = true from fun j x hj hx => by
            by_cases e : j = k
            · subst e
              have h1 := HX.out
              rw [h1] at hx
              injection hx with hx
              subst hx
              exact hok
            · exact hA.out j x (by omega) hx)
          clear hok
          go_wp2
          exact ⟨⟨k + 1, by omega, by go_num, HA.out, B1, hL1⟩, by simp [intOf]; omega⟩
    · have hkn : k = n := by omega
      subst hkn
      clear hlt
      by_cases h4 : k = 4
      · have hf := hide (pastB_ok (HN.out.trans h4) (fun j x hx => hA.out j x (by have := (List.getElem?_eq_some_iff.1 hx).1; have := HN.out; omega) hx))
        subst h4
        go_wp2
        go_ret
        exact ⟨ret_bool hf.out.symm, hL⟩
      · have hf := hide (pastB_len (fun e => h4 (HN.out.symm.trans e)))
        have h4' : ((k : Int) == 4) = false := by simp; omega
        clear h4
        go_wp2
        go_ret
        exact ⟨ret_bool hf.out.symm, hL⟩

/-- The eight cells of four tags. -/
def cells4 (ts : List (Int × Int)) : Array Value := (ts.flatMap fun x => [Value.int .i64 x.1, Value.int .i64 x.2]).toArray
abbrev zero8 : Array Value := #[.int .i64 0, .int .i64 0, .int .i64 0, .int .i64 0, .int .i64 0, .int .i64 0, .int .i64 0, .int .i64 0]

theorem Blk.eight {w : World} {g : Nat} {T : TypeId} {a b c d e f u v : Value} (h : Blk w g T #[a, b, c, d, e, f, u, v]) :
    (w.cell? ⟨g, 0, none⟩ = some a ∧ w.cell? ⟨g, 1, none⟩ = some b ∧ w.cell? ⟨g, 2, none⟩ = some c ∧ w.cell? ⟨g, 3, none⟩ = some d ∧ w.cell? ⟨g, 4, none⟩ = some e ∧ w.cell? ⟨g, 5, none⟩ = some f ∧ w.cell? ⟨g, 6, none⟩ = some u ∧ w.cell? ⟨g, 7, none⟩ = some v) ∧
    (w.frozen? ⟨g, 0, none⟩ = false ∧ w.frozen? ⟨g, 1, none⟩ = false ∧ w.frozen? ⟨g, 2, none⟩ = false ∧ w.frozen? ⟨g, 3, none⟩ = false ∧ w.frozen? ⟨g, 4, none⟩ = false ∧ w.frozen? ⟨g, 5, none⟩ = false ∧ w.frozen? ⟨g, 6, none⟩ = false ∧ w.frozen? ⟨g, 7, none⟩ = false) :=
  ⟨⟨h.at 0, h.at 1, h.at 2, h.at 3, h.at 4, h.at 5, h.at 6, h.at 7⟩, h.loose 0, h.loose 1, h.loose 2, h.loose 3, h.loose 4, h.loose 5, h.loose 6, h.loose 7⟩
theorem below_set8 {w w' : World} {n g : Nat} (h : Below n w w') (hg : n ≤ g) (a b c d e f u v : Value) :
    Below n w ((((((((w'.setCell ⟨g, 0, none⟩ a).setCell ⟨g, 1, none⟩ b).setCell ⟨g, 2, none⟩ c).setCell ⟨g, 3, none⟩ d).setCell ⟨g, 4, none⟩ e).setCell ⟨g, 5, none⟩ f).setCell ⟨g, 6, none⟩ u).setCell ⟨g, 7, none⟩ v) :=
  (((((((h.setCell hg a).setCell hg b).setCell hg c).setCell hg d).setCell hg e).setCell hg f).setCell hg u).setCell hg v
/-- Eight cells that hold four tags are just these. -/
theorem cur4 {cur : Array Value} {ts : List (Int × Int)} (hs : cur.size = 8) (hl : ts.length = 4) (h : ∀ j x, ts[j]? = some x → TagAt cur j x) :
    ∃ x0 x1 x2 x3 : Int × Int, ts = [x0, x1, x2, x3] ∧ cur = #[.int .i64 x0.1, .int .i64 x0.2, .int .i64 x1.1, .int .i64 x1.2, .int .i64 x2.1, .int .i64 x2.2, .int .i64 x3.1, .int .i64 x3.2] := by
  match ts, hl with
  | [x0, x1, x2, x3], _ =>
    refine ⟨x0, x1, x2, x3, rfl, ?_⟩
    obtain ⟨a0, a1⟩ := h 0 x0 rfl
    obtain ⟨b0, b1⟩ := h 1 x1 rfl
    obtain ⟨c0, c1⟩ := h 2 x2 rfl
    obtain ⟨d0, d1⟩ := h 3 x3 rfl
    apply Array.ext_getElem?
    intro i
    match i with
    | 0 => simpa using a0
    | 1 => simpa using a1
    | 2 => simpa using b0
    | 3 => simpa using b1
    | 4 => simpa using c0
    | 5 => simpa using c1
    | 6 => simpa using d0
    | 7 => simpa using d1
    | n + 8 => rw [Array.getElem?_eq_none (by omega), Array.getElem?_eq_none (by simp)]

/-- What vectorOf answers. -/
def VecOf (w : World) (ts : List (Int × Int)) (e : Ending) (w' : World) : Prop :=
  (pastB ts = true → e = .returned (.tuple #[.agg (cells4 ts), .bool true])) ∧ (pastB ts = false → e = .returned (.tuple #[.agg zero8, .bool false])) ∧ Below w.heap.size w w'

set_option maxRecDepth 100000 in
set_option maxHeartbeats 2000000 in
theorem vectorOf_any (a : Option Addr) (c : Nat) (ts : List (Int × Int)) (w : World) (hn : ts.length ≤ 1048576) (ht : Tg w w.heap.size a ts) :
    Calls Tryd.prog 59 #[.agg #[.slice a ts.length c]] w (VecOf w ts) := by
  by_cases h4 : ts.length = 4
  · have S0 := (((Inv.start w).box 34 #[.slice a ts.length c]).box 98 zero8).box 98 zero8
    simp only [World.size_alloc] at S0
    rw [h4] at S0 ⊢
    go_enter Tryd.func59, Tryd.ntmps59
    go_wp2
    have B1 := S0.nth 1 rfl
    have B2 := S0.nth 0 rfl
    have L0 := S0.below
    clear S0
    go_loopw [15] (fun i wr => ∃ (k : Nat) (cur : Array Value), k ≤ 4 ∧ i = .int .i64 (k : Int) ∧ Blk wr (w.heap.size + 1 + 1) 98 cur ∧ cur.size = 8 ∧ (∀ j x, j < k → ts[j]? = some x → TagAt cur j x) ∧ (∀ j x, j < k → ts[j]? = some x → okB x.1 x.2 = true) ∧ Blk wr (w.heap.size + 1) 98 zero8 ∧ Below w.heap.size w wr) (fun i _ => 4 - (intOf i).toNat)
    case atStart => exact ⟨0, _, Nat.zero_le _, rfl, B2, rfl, fun j x hj => absurd hj (by omega), fun j x hj => absurd hj (by omega), B1, L0⟩
    case round =>
      obtain ⟨k, cur, hk, rfl, hV, hsz, hcur, hall, hR, hL⟩ := hrel
      have H4 := hide h4
      have hA := hide hall
      clear hall h4 B1 B2 L0
      by_cases hlt : k < 4
      · rcases ht with h0 | ⟨b, off, rfl, hb, hx⟩
        · have := H4.out; subst h0; simp at this
        · have hkl : k < ts.length := by have := H4.out; omega
          obtain ⟨hc0, hc1⟩ := hx k _ (List.getElem?_eq_getElem hkl)
          have c0 := (hL.cell (p := ⟨b, off + k * 2, none⟩) hb).trans hc0
          have c1 := (hL.cell (p := ⟨b, off + k * 2 + 1, none⟩) hb).trans hc1
          have HX := hide (List.getElem?_eq_getElem hkl)
          generalize ts[k] = x at c0 c1 HX
          obtain ⟨x1, x2⟩ := x
          simp only at c0 c1
          clear hc0 hc1 hx
          have HC := hide hcur
          clear hcur
          have i1 : (0 : Int) ≤ (k : Int) := by omega
          have i2 : (k : Int) < 4 := by omega
          have X0 := Blk.made wr 31 #[.int .i64 x1, .int .i64 x2]
          have V0 := hV.more (.cells #[.int .i64 x1, .int .i64 x2] 31)
          have R0 := hR.more (.cells #[.int .i64 x1, .int .i64 x2] 31)
          have K0 := hL.alloc hL.size (.cells #[.int .i64 x1, .int .i64 x2] 31)
          go_wp2_with fail
          refine (implTagOk_any _ _ _).mono ?_
          rintro e w1 ⟨rfl, hb1⟩
          have hL1 := K0.trans (hb1.mono K0.size)
          have V1 := V0.on hb1
          have R1 := R0.on hb1
          have X1 := (X0.on hb1).two
          cases hok : okB x1 x2
          · have hf := hide (pastB_bad HX.out hok)
            have E1 := R1.eight
            clear hok
            go_wp2
            refine bodyPost_ret (v := .tuple #[.agg zero8, .bool false]) (by simp [results, Tryd.results59, go_sem, E1]) rfl ?_
            exact ⟨fun h => (by rw [hf.out] at h; cases h), fun _ => rfl, below_set8 hL1 (by omega) _ _ _ _ _ _ _ _⟩
          · have HA := hide (show ∀ j x, j < k + 1 → ts[j]? = some x → okB x.1 x.2 = true from fun j x hj hx => by
              by_cases e : j = k
              · subst e
                have h1 := HX.out
                rw [h1] at hx
                injection hx with hx
                subst hx
                exact hok
              · exact hA.out j x (by omega) hx)
            have hs0 : k * 2 < cur.size := by omega
            have hs1 : k * 2 + 1 < cur.size := by omega
            have HS := hide (tagAt_step (ts := ts) hs1 HX.out HC.out)
            have d0 : w1.cell? ⟨w.heap.size + 1 + 1, k * 2, none⟩ = some cur[k * 2] := by rw [V1.at]; exact Array.getElem?_eq_getElem hs0
            have d1 : w1.cell? ⟨w.heap.size + 1 + 1, k * 2 + 1, none⟩ = some cur[k * 2 + 1] := by rw [V1.at]; exact Array.getElem?_eq_getElem hs1
            have f0 := V1.loose (k * 2)
            have f1 := V1.loose (k * 2 + 1)
            clear hok
            go_wp2
            exact ⟨⟨k + 1, _, by omega, by go_num, (V1.put _ _).put _ _, by simp [hsz], HS.out, HA.out, (R1.aside (by simp) _).aside (by simp) _, (hL1.setCell (by simp; omega) _).setCell (by simp; omega) _⟩, by simp [intOf]; omega⟩
      · have hk4 : k = 4 := by omega
        subst hk4
        clear hlt
        have hin : ∀ (j : Nat) (x : Int × Int), ts[j]? = some x → j < 4 := fun j x hx => by have := (List.getElem?_eq_some_iff.1 hx).1; have := H4.out; omega
        obtain ⟨x0, x1, x2, x3, hts, hcu⟩ := cur4 hsz H4.out (fun j x hx => hcur j x (hin j x hx) hx)
        have hf := hide (pastB_ok H4.out (fun j x hx => hA.out j x (hin j x hx) hx))
        have HT := hide hts
        clear hin hcur hA hts
        subst hcu
        have E1 := hR.eight
        have E2 := hV.eight
        go_wp2
        refine bodyPost_ret (v := .tuple #[.agg (cells4 [x0, x1, x2, x3]), .bool true]) (by simp [results, Tryd.results59, go_sem, E1, cells4]) rfl ?_
        exact ⟨fun _ => by rw [HT.out], fun h => (by rw [hf.out] at h; cases h), below_set8 hL (by omega) _ _ _ _ _ _ _ _⟩
  · have h4' : ((ts.length : Int) != 4) = true := by simp; omega
    have hf := hide (pastB_len h4)
    clear h4
    go_enter Tryd.func59, Tryd.ntmps59
    go_wp2
    refine bodyPost_ret (v := .tuple #[.agg zero8, .bool false]) (by simp [results, Tryd.results59, go_sem]) rfl ?_
    exact ⟨fun h => (by rw [hf.out] at h; cases h), fun _ => rfl, ((Below.refl _ _).alloc (Nat.le_refl _) _).alloc (by simp) _⟩

theorem cells4_eq (x0 x1 x2 x3 : Int × Int) : cells4 [x0, x1, x2, x3] = #[.int .i64 x0.1, .int .i64 x0.2, .int .i64 x1.1, .int .i64 x1.2, .int .i64 x2.1, .int .i64 x2.2, .int .i64 x3.1, .int .i64 x3.2] := by simp [cells4]
theorem four_of {ts : List (Int × Int)} (h : pastB ts = true) : ∃ x0 x1 x2 x3 : Int × Int, ts = [x0, x1, x2, x3] := by
  unfold pastB at h
  simp at h
  match ts, h.1 with
  | [x0, x1, x2, x3], _ => exact ⟨x0, x1, x2, x3, rfl⟩

set_option maxHeartbeats 1000000 in
theorem implPastOk_any (a : Option Addr) (c : Nat) (ts : List (Int × Int)) (w : World) (hn : ts.length ≤ 1048576) (ht : Tg w w.heap.size a ts) :
    Calls Tryd.prog 44 #[.agg #[.slice a ts.length c]] w fun e w' => e = .returned (.bool (pastB ts)) ∧ Below w.heap.size w w' := by
  have L0 := below_alloc1 w (.cells #[.slice a ts.length c] 34)
  go_enter Tryd.func44, Tryd.ntmps44
  go_wp2_with fail
  refine (vectorOf_any a c ts _ hn ((ht.on L0).up L0.size)).mono ?_
  rintro e w1 ⟨h1, h2, hb1⟩
  have hl := L0.trans (hb1.mono L0.size)
  cases hp : pastB ts
  · have he := h2 hp
    have HP := hide hp
    subst he
    clear h1 h2 L0 ht hp
    go_wp2
    go_ret
    exact ⟨ret_bool HP.out.symm, hl.alloc hl.size _⟩
  · have he := h1 hp
    have HP := hide hp
    obtain ⟨x0, x1, x2, x3, rfl⟩ := four_of hp
    rw [cells4_eq] at he
    subst he
    clear h1 h2 L0 ht hp
    go_wp2
    go_ret
    exact ⟨ret_bool HP.out.symm, hl.alloc hl.size _⟩
end Go.Proofs.YtoechhbjfejmjaaDoor
