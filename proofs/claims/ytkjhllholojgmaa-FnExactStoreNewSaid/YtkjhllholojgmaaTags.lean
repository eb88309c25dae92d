/- Contracts of the small functions on tags (plain integers and struct values), over the translation of this seat: no condition on the arguments. -/
import Derived.Test.YtkjhllholojgmaaProg
import Derived.WalkKit
import Derived.WalkSpells
import Derived.WalkLawsBesides
namespace Go.Proofs.Ytkjhllholojgmaa
open Go.RowKit

/-- Whether a tag is valid: the zero tag, or a time and a place within bounds. -/
def okB (t p : Int) : Bool := decide (t = 0 ∧ p = 0 ∨ 1 ≤ t ∧ t ≤ 999 ∧ 0 ≤ p ∧ p ≤ 2)
/-- Whether the first tag is earlier. -/
def lessB (t p t' p' : Int) : Bool := decide (t < t' ∨ t = t' ∧ p < p')

theorem ret_bool {a b : Bool} (h : a = b) : Ending.returned (.bool a) = .returned (.bool b) := by rw [h]
theorem ret_int {k : IntKind} {a b : Int} (h : a = b) : Ending.returned (.int k a) = .returned (.int k b) := by rw [h]

theorem okB_t {t p : Int} (h : t = 0 ∧ p = 0 ∨ 1 ≤ t ∧ t ≤ 999 ∧ 0 ≤ p ∧ p ≤ 2) : okB t p = true := decide_eq_true h
theorem okB_f {t p : Int} (h : ¬(t = 0 ∧ p = 0 ∨ 1 ≤ t ∧ t ≤ 999 ∧ 0 ≤ p ∧ p ≤ 2)) : okB t p = false := decide_eq_false h
theorem okB_i {t p : Int} (h : okB t p = true) : t = 0 ∧ p = 0 ∨ 1 ≤ t ∧ t ≤ 999 ∧ 0 ≤ p ∧ p ≤ 2 := of_decide_eq_true h
theorem lessB_ne {t p t' p' : Int} (h : t ≠ t') : lessB t p t' p' = decide (t < t') := by
  unfold lessB; rw [Bool.eq_iff_iff]; simp; omega
theorem lessB_eq {t p p' : Int} : lessB t p t p' = decide (p < p') := by
  unfold lessB; rw [Bool.eq_iff_iff]; simp

theorem lessB_i {t p t' p' : Int} : lessB t p t' p' = true ↔ (t < t' ∨ t = t' ∧ p < p') := by unfold lessB; simp
theorem lessB_total {t p t' p' : Int} (h : ¬(t = t' ∧ p = p')) (hl : lessB t p t' p' = false) : lessB t' p' t p = true := by
  have hn : ¬(t < t' ∨ t = t' ∧ p < p') := fun hh => by rw [lessB_i.2 hh] at hl; cases hl
  exact lessB_i.2 (by omega)
theorem lessB_asym {t p t' p' : Int} (hl : lessB t p t' p' = true) : lessB t' p' t p = false := by
  cases h : lessB t' p' t p
  · rfl
  · have h1 := lessB_i.1 hl
    have h2 := lessB_i.1 h
    omega
theorem lessB_trans {t p t' p' t2 p2 : Int} (h1 : lessB t p t' p' = true) (h2 : lessB t' p' t2 p2 = true) : lessB t p t2 p2 = true := by
  have h1 := lessB_i.1 h1
  have h2 := lessB_i.1 h2
  exact lessB_i.2 (by omega)

/-- What a world is made of below a bound stays readable: cells and marks. -/
theorem bcell {W w1 : World} (hb : Below W.heap.size W w1) : (∀ b o, b < W.heap.size → w1.cell? ⟨b, o, none⟩ = W.cell? ⟨b, o, none⟩) ∧ (∀ b o, b < W.heap.size → w1.frozen? ⟨b, o, none⟩ = W.frozen? ⟨b, o, none⟩) :=
  ⟨fun b o h => hb.cell (p := ⟨b, o, none⟩) h, fun b o h => hb.frozen (p := ⟨b, o, none⟩) h⟩

set_option maxHeartbeats 400000 in
theorem l1In_any (n lo hi : Int) (w : World) :
    Calls Try.prog 83 #[.int .i64 n, .int .i64 lo, .int .i64 hi] w fun e w' => e = .returned (.bool (decide (lo ≤ n ∧ n ≤ hi))) ∧ w = w' := by
  by_cases h1 : lo ≤ n
  · by_cases h2 : n ≤ hi
    · go_enter Try.func83, Try.ntmps83
      go_wp2
      go_ret
      exact ⟨ret_bool (by simp; omega), rfl⟩
    · go_enter Try.func83, Try.ntmps83
      go_wp2
      go_ret
      exact ⟨ret_bool (by simp; omega), rfl⟩
  · go_enter Try.func83, Try.ntmps83
    go_wp2
    go_ret
    exact ⟨ret_bool (by simp; omega), rfl⟩

set_option maxHeartbeats 400000 in
theorem toTag_any (t p : Int) (w : World) :
    Calls Try.prog 54 #[.agg #[.int .i64 t, .int .i64 p]] w fun e w' => e = .returned (.agg #[.int .i64 t, .int .i64 p]) ∧ Below w.heap.size w w' := by
  go_enter Try.func54, Try.ntmps54
  go_wp2
  refine bodyPost_ret (v := .agg #[.int .i64 t, .int .i64 p]) (by simp [results, Try.results54, go_sem]) rfl ⟨rfl, ?_⟩
  exact (((Below.refl _ _).alloc (Nat.le_refl _) _).alloc (by simp) _).alloc (by simp; omega) _

set_option maxHeartbeats 400000 in
theorem less_any (t p t' p' : Int) (w : World) :
    Calls Try.prog 80 #[.agg #[.int .i64 t, .int .i64 p], .agg #[.int .i64 t', .int .i64 p']] w fun e w' => e = .returned (.bool (lessB t p t' p')) ∧ Below w.heap.size w w' := by
  by_cases h : t = t'
  · subst h
    go_enter Try.func80, Try.ntmps80
    go_wp2
    go_ret
    exact ⟨ret_bool lessB_eq.symm, ((Below.refl _ _).alloc (Nat.le_refl _) _).alloc (by simp) _⟩
  · have hb : (t != t') = true := by simpa using h
    have hl := lessB_ne (p := p) (p' := p') h
    have H : Hid (lessB t p t' p' = decide (t < t')) := hl
    clear hl h
    go_enter Try.func80, Try.ntmps80
    go_wp2
    go_ret
    exact ⟨ret_bool H.out.symm, ((Below.refl _ _).alloc (Nat.le_refl _) _).alloc (by simp) _⟩

set_option maxHeartbeats 400000 in
theorem l1Less_any (t p t' p' : Int) (w : World) :
    Calls Try.prog 89 #[.agg #[.int .i64 t, .int .i64 p], .agg #[.int .i64 t', .int .i64 p']] w fun e w' => e = .returned (.bool (lessB t p t' p')) ∧ Below w.heap.size w w' := by
  have hl : lessB t p t' p' = (decide (t < t') || (decide (t = t') && decide (p < p'))) := by unfold lessB; simp
  have H : Hid (lessB t p t' p' = (decide (t < t') || (decide (t = t') && decide (p < p')))) := hl
  clear hl
  by_cases h1 : t < t'
  · go_enter Try.func89, Try.ntmps89
    go_wp2
    go_ret
    exact ⟨ret_bool (by rw [H.out]; simp [h1]), ((Below.refl _ _).alloc (Nat.le_refl _) _).alloc (by simp) _⟩
  · by_cases h2 : t = t'
    · subst h2
      go_enter Try.func89, Try.ntmps89
      go_wp2
      go_ret
      exact ⟨ret_bool (by rw [H.out]; simp), ((Below.refl _ _).alloc (Nat.le_refl _) _).alloc (by simp) _⟩
    · have h3 : (t == t') = false := by simpa using h2
      go_enter Try.func89, Try.ntmps89
      go_wp2
      go_ret
      exact ⟨ret_bool (by rw [H.out]; simp; omega), ((Below.refl _ _).alloc (Nat.le_refl _) _).alloc (by simp) _⟩

set_option maxHeartbeats 400000 in
theorem implTagOk_any (t p : Int) (w : World) :
    Calls Try.prog 57 #[.agg #[.int .i64 t, .int .i64 p]] w fun e w' => e = .returned (.bool (okB t p)) ∧ Below w.heap.size w w' := by
  go_enter Try.func57, Try.ntmps57
  go_wp2
  all_goals
    go_ret
    refine ⟨ret_bool ?_, (Below.refl _ _).alloc (Nat.le_refl _) _⟩
    symm
    unfold okB
    rw [Bool.eq_iff_iff]
    simp
    try omega

set_option maxHeartbeats 400000 in
theorem l1TagOk_any (t p : Int) (w : World) :
    Calls Try.prog 85 #[.agg #[.int .i64 t, .int .i64 p]] w fun e w' => e = .returned (.bool (okB t p)) ∧ Below w.heap.size w w' := by
  go_enter Try.func85, Try.ntmps85
  go_wp2
  all_goals
    go_ret
    refine ⟨ret_bool ?_, (Below.refl _ _).alloc (Nat.le_refl _) _⟩
    symm
    unfold okB
    rw [Bool.eq_iff_iff]
    simp
    try omega

/-- The later one of two tags: its time, its place. -/
def mxT (t p t' p' : Int) : Int := if lessB t p t' p' = true then t' else t
def mxP (t p t' p' : Int) : Int := if lessB t p t' p' = true then p' else p

set_option maxHeartbeats 400000 in
theorem l1Max_any (t p t' p' : Int) (w : World) :
    Calls Try.prog 136 #[.agg #[.int .i64 t, .int .i64 p], .agg #[.int .i64 t', .int .i64 p']] w fun e w' => e = .returned (.agg #[.int .i64 (mxT t p t' p'), .int .i64 (mxP t p t' p')]) ∧ Below w.heap.size w w' := by
  cases hl : lessB t p t' p'
  · have H1 : Hid (mxT t p t' p' = t) := by unfold mxT Hid; rw [hl]; rfl
    have H2 : Hid (mxP t p t' p' = p) := by unfold mxP Hid; rw [hl]; rfl
    have HL : Hid (lessB t p t' p' = false) := hl
    clear hl
    go_enter Try.func136, Try.ntmps136
    go_wp2_with fail
    refine (l1Less_any _ _ _ _ _).mono ?_
    rintro e w1 ⟨rfl, hb⟩
    rw [HL.out]
    obtain ⟨hc, hf⟩ := bcell hb
    have hz : w.heap.size + 3 ≤ w1.heap.size := by have := hb.size; simp at this; omega
    go_wp2
    refine bodyPost_ret (v := .agg #[.int .i64 t, .int .i64 p]) (by simp [results, Try.results136, go_sem, hc]) rfl ⟨by rw [H1.out, H2.out], ?_⟩
    exact ((((((Below.refl _ _).alloc (Nat.le_refl _) _).alloc (by simp) _).alloc (by simp; omega) _).trans (hb.mono (by simp; omega))).setCell (by simp; omega) _).setCell (by simp; omega) _
  · have H1 : Hid (mxT t p t' p' = t') := by unfold mxT Hid; rw [hl]; rfl
    have H2 : Hid (mxP t p t' p' = p') := by unfold mxP Hid; rw [hl]; rfl
    have HL : Hid (lessB t p t' p' = true) := hl
    clear hl
    go_enter Try.func136, Try.ntmps136
    go_wp2_with fail
    refine (l1Less_any _ _ _ _ _).mono ?_
    rintro e w1 ⟨rfl, hb⟩
    rw [HL.out]
    obtain ⟨hc, hf⟩ := bcell hb
    have hz : w.heap.size + 3 ≤ w1.heap.size := by have := hb.size; simp at this; omega
    go_wp2
    refine bodyPost_ret (v := .agg #[.int .i64 t', .int .i64 p']) (by simp [results, Try.results136, go_sem, hc]) rfl ⟨by rw [H1.out, H2.out], ?_⟩
    exact ((((((Below.refl _ _).alloc (Nat.le_refl _) _).alloc (by simp) _).alloc (by simp; omega) _).trans (hb.mono (by simp; omega))).setCell (by simp; omega) _).setCell (by simp; omega) _

/-- Whether two tags are the same. -/
def eqB (t p t' p' : Int) : Bool := decide (t = t' ∧ p = p')
theorem eqB_same (t p : Int) : eqB t p t p = true := decide_eq_true ⟨rfl, rfl⟩

set_option maxHeartbeats 400000 in
theorem eqTag_any (t p t' p' : Int) (w : World) :
    Calls Try.prog 61 #[.agg #[.int .i64 t, .int .i64 p], .agg #[.int .i64 t', .int .i64 p']] w fun e w' => e = .returned (.bool (eqB t p t' p')) ∧ Below w.heap.size w w' := by
  by_cases h : t = t'
  · subst h
    by_cases h' : p = p'
    · subst h'
      go_enter Try.func61, Try.ntmps61
      go_wp2
      go_ret
      exact ⟨ret_bool (by simp [eqB]), ((Below.refl _ _).alloc (Nat.le_refl _) _).alloc (by simp) _⟩
    · have hb : (p != p') = true := by simpa using h'
      have hr : Hid (eqB t p t p' = false) := by unfold Hid eqB; simpa using h'
      clear h'
      go_enter Try.func61, Try.ntmps61
      go_wp2
      go_ret
      exact ⟨ret_bool hr.out.symm, ((Below.refl _ _).alloc (Nat.le_refl _) _).alloc (by simp) _⟩
  · have hb : (t != t') = true := by simpa using h
    have hr : Hid (eqB t p t' p' = false) := by unfold Hid eqB; simp [h]
    clear h
    go_enter Try.func61, Try.ntmps61
    go_wp2
    go_ret
    exact ⟨ret_bool hr.out.symm, ((Below.refl _ _).alloc (Nat.le_refl _) _).alloc (by simp) _⟩
end Go.Proofs.Ytkjhllholojgmaa
