/- Contracts of the program's fold over times. Condition: at most 1048576 tags. -/
import Derived.Test.YtoechhbjfejmjaaDoorPasts
namespace Go.Proofs.YtoechhbjfejmjaaDoor
open Go.RowKit Go.Joins

/-- The latest time of these tags, or 0. -/
def lastT (ts : List (Int × Int)) : Int := ts.foldl (fun m x => max m x.1) 0
theorem lastT_step {ts : List (Int × Int)} {k : Nat} {x : Int × Int} (hx : ts[k]? = some x) : lastT (ts.take (k + 1)) = max (lastT (ts.take k)) x.1 := by
  unfold lastT
  rw [List.take_add_one, hx, List.foldl_append]
  rfl
theorem foldl_max (t : Int) : ∀ (ts : List (Int × Int)) (m : Int), ts.foldl (fun m x => max m x.1) m < t ↔ m < t ∧ ∀ x ∈ ts, x.1 < t
  | [], m => by simp
  | y :: ts, m => by
    rw [List.foldl_cons, foldl_max t ts]
    simp only [List.mem_cons, forall_eq_or_imp]
    constructor
    · rintro ⟨h1, h2⟩
      exact ⟨by omega, by omega, h2⟩
    · rintro ⟨h1, h2, h3⟩
      exact ⟨by omega, h3⟩
theorem lastT_lt {t : Int} {ts : List (Int × Int)} : lastT ts < t ↔ 0 < t ∧ ∀ x ∈ ts, x.1 < t := foldl_max t ts 0

set_option maxRecDepth 100000 in
set_option maxHeartbeats 1000000 in
theorem laterTime_any (m t u : Int) (w : World) :
    Calls Tryd.prog 46 #[.int .i64 m, .agg #[.int .i64 t, .int .i64 u]] w fun e w' => e = .returned (.int .i64 (max m t)) ∧ Below w.heap.size w w' := by
  have S0 := (Inv.start w).box 31 #[.int .i64 t, .int .i64 u]
  by_cases h : m < t
  · have hf := hide (show max m t = t by omega)
    go_enter Tryd.func46, Tryd.ntmps46
    go_wp2
    go_ret
    exact ⟨ret_int hf.out.symm, S0.below⟩
  · have hf := hide (show max m t = m by omega)
    go_enter Tryd.func46, Tryd.ntmps46
    go_wp2
    go_ret
    exact ⟨ret_int hf.out.symm, S0.below⟩

set_option maxRecDepth 100000 in
set_option maxHeartbeats 1000000 in
theorem foldTimes_any (a : Option Addr) (c : Nat) (ts : List (Int × Int)) (w : World) (hn : ts.length ≤ 1048576) (ht : Tg w w.heap.size a ts) :
    Calls Tryd.prog 45 #[.slice a ts.length c, .int .i64 0, .func (.func 46) #[] #[]] w fun e w' => e = .returned (.int .i64 (lastT ts)) ∧ Below w.heap.size w w' := by
  have HT : Hid (lastT (ts.take ts.length) = lastT ts) := by unfold Hid; rw [List.take_length]
  generalize hnn : ts.length = n at *
  have HN := hide hnn
  clear hnn
  go_enter Tryd.func45, Tryd.ntmps45
  go_wp2
  go_loopw [1, 11] (fun r i wr => ∃ (k : Nat) (m : Int), k ≤ n ∧ i = .int .i64 (k : Int) ∧ r = .int .i64 m ∧ Hid (m = lastT (ts.take k)) ∧ Below w.heap.size w wr) (fun _ i _ => n - (intOf i).toNat)
  case atStart => exact ⟨0, 0, Nat.zero_le _, rfl, rfl, rfl, Below.refl _ _⟩
  case round =>
    obtain ⟨k, m, hk, rfl, rfl, hm, hL⟩ := hrel
    by_cases hlt : k < n
    · rcases ht with h0 | ⟨b, off, rfl, hb, hx⟩
      · have := HN.out; subst h0; simp at this; omega
      · have hkl : k < ts.length := by have := HN.out; omega
        obtain ⟨hc0, hc1⟩ := hx k _ (List.getElem?_eq_getElem hkl)
        have c0 := (hL.cell (p := ⟨b, off + k * 2, none⟩) hb).trans hc0
        have c1 := (hL.cell (p := ⟨b, off + k * 2 + 1, none⟩) hb).trans hc1
        have HX := hide (List.getElem?_eq_getElem hkl)
        generalize ts[k] = x at c0 c1 HX
        obtain ⟨x1, x2⟩ := x
        simp only at c0 c1
        clear hc0 hc1 hx
        have i1 : (0 : Int) ≤ (k : Int) := by omega
        have i2 : (k : Int) < (n : Int) := by omega
        have L1 := hL.alloc hL.size (.cells #[.int .i64 x1, .int .i64 x2] 31)
        go_wp2_with fail
        refine (laterTime_any _ _ _ _).mono ?_
        rintro e w1 ⟨rfl, hb1⟩
        have hL1 := L1.trans (hb1.mono L1.size)
        have HM : Hid (max m x1 = lastT (ts.take (k + 1))) := by
          unfold Hid
          rw [lastT_step HX.out, ← hm.out]
        go_wp2
        exact ⟨⟨k + 1, _, by omega, by go_num, rfl, HM, hL1⟩, by simp [intOf]; omega⟩
    · have hkn : k = n := by omega
      subst hkn
      clear hlt
      go_wp2
      go_ret
      exact ⟨ret_int (hm.out.trans HT.out), hL⟩

end Go.Proofs.YtoechhbjfejmjaaDoor
