/- Contracts of the small functions on tags (plain integers and struct values), over the translation of this seat: no condition on the arguments. -/
import Derived.Test.YtoechhbjfejmjaaDoorProg
import Derived.WalkKit
import Derived.WalkSpells
import Derived.WalkLawsBesides
import Derived.Test.YtoechhbjfejmjaaDoorWorld
import Derived.Test.YtoechhbjfejmjaaDoorReg
namespace Go.Proofs.YtoechhbjfejmjaaDoor
open Go.RowKit

/-- Whether a tag is valid: the zero tag, or a time and a place within bounds. -/
def okB (t p : Int) : Bool := decide (t = 0 ∧ p = 0 ∨ 1 ≤ t ∧ t ≤ 999 ∧ 0 ≤ p ∧ p ≤ 2)
/-- Whether the first tag is earlier. -/
def lessB (t p t' p' : Int) : Bool := decide (t < t' ∨ t = t' ∧ p < p')

theorem ret_bool {a b : Bool} (h : a = b) : Ending.returned (.bool a) = .returned (.bool b) := by rw [h]
theorem ret_int {k : IntKind} {a b : Int} (h : a = b) : Ending.returned (.int k a) = .returned (.int k b) := by rw [h]

theorem okB_t {t p : Int} (h : t = 0 ∧ p = 0 ∨ 1 ≤ t ∧ t ≤ 999 ∧ 0 ≤ p ∧ p ≤ 2) : okB t p = true := decide_eq_true h
theorem okB_f {t p : Int} (h : ¬(t = 0 ∧ p = 0 ∨ 1 ≤ t ∧ t ≤ 999 ∧ 0 ≤ p ∧ p ≤ 2)) : okB t p = false := decide_eq_false h
theorem okB_i {t p : Int} (h : okB t p = true) : t = 0 ∧ p = 0 ∨ 1 ≤ t ∧ t ≤ 999 ∧ 0 ≤ p ∧ p ≤ 2 := of_decide_eq_true h
theorem lessB_ne {t p t' p' : Int} (h : t ≠ t') : lessB t p t' p' = decide (t < t') := by
  unfold lessB; rw [Bool.eq_iff_iff]; simp; omega
theorem lessB_eq {t p p' : Int} : lessB t p t p' = decide (p < p') := by
  unfold lessB; rw [Bool.eq_iff_iff]; simp

theorem lessB_i {t p t' p' : Int} : lessB t p t' p' = true ↔ (t < t' ∨ t = t' ∧ p < p') := by unfold lessB; simp
theorem lessB_total {t p t' p' : Int} (h : ¬(t = t' ∧ p = p')) (hl : lessB t p t' p' = false) : lessB t' p' t p = true := by
  have hn : ¬(t < t' ∨ t = t' ∧ p < p') := fun hh => by rw [lessB_i.2 hh] at hl; cases hl
  exact lessB_i.2 (by omega)
theorem lessB_asym {t p t' p' : Int} (hl : lessB t p t' p' = true) : lessB t' p' t p = false := by
  cases h : lessB t' p' t p
  · rfl
  · have h1 := lessB_i.1 hl
    have h2 := lessB_i.1 h
    omega
theorem lessB_trans {t p t' p' t2 p2 : Int} (h1 : lessB t p t' p' = true) (h2 : lessB t' p' t2 p2 = true) : lessB t p t2 p2 = true := by
  have h1 := lessB_i.1 h1
  have h2 := lessB_i.1 h2
  exact lessB_i.2 (by omega)

/-- What a world is made of below a bound stays readable: cells and marks. -/
theorem bcell {W w1 : World} (hb : Below W.heap.size W w1) : (∀ b o, b < W.heap.size → w1.cell? ⟨b, o, none⟩ = W.cell? ⟨b, o, none⟩) ∧ (∀ b o, b < W.heap.size → w1.frozen? ⟨b, o, none⟩ = W.frozen? ⟨b, o, none⟩) :=
  ⟨fun b o h => hb.cell (p := ⟨b, o, none⟩) h, fun b o h => hb.frozen (p := ⟨b, o, none⟩) h⟩

set_option maxHeartbeats 400000 in
theorem l1In_any (n lo hi : Int) (w : World) :
    Calls Tryd.prog 35 #[.int .i64 n, .int .i64 lo, .int .i64 hi] w fun e w' => e = .returned (.bool (decide (lo ≤ n ∧ n ≤ hi))) ∧ w = w' := by
  by_cases h1 : lo ≤ n
  · by_cases h2 : n ≤ hi
    · go_enter Tryd.func35, Tryd.ntmps35
      go_wp2
      go_ret
      exact ⟨ret_bool (by simp; omega), rfl⟩
    · go_enter Tryd.func35, Tryd.ntmps35
      go_wp2
      go_ret
      exact ⟨ret_bool (by simp; omega), rfl⟩
  · go_enter Tryd.func35, Tryd.ntmps35
    go_wp2
    go_ret
    exact ⟨ret_bool (by simp; omega), rfl⟩

set_option maxHeartbeats 400000 in
theorem toTag_any (t p : Int) (w : World) :
    Calls Tryd.prog 17 #[.agg #[.int .i64 t, .int .i64 p]] w fun e w' => e = .returned (.agg #[.int .i64 t, .int .i64 p]) ∧ Below w.heap.size w w' := by
  go_enter Tryd.func17, Tryd.ntmps17
  go_wp2
  refine bodyPost_ret (v := .agg #[.int .i64 t, .int .i64 p]) (by simp [results, Tryd.results17, go_sem]) rfl ⟨rfl, ?_⟩
  exact (((Below.refl _ _).alloc (Nat.le_refl _) _).alloc (by simp) _).alloc (by simp; omega) _

/-- How two numbers compare: less, alike, more. -/
def cmpI (a b : Int) : Int := if a < b then -1 else if b < a then 1 else 0
/-- The first number that is not zero. -/
def orI (a b : Int) : Int := if a = 0 then b else a
theorem orI_z {a b : Int} (h : a = 0) : orI a b = b := if_pos h
theorem orI_n {a b : Int} (h : ¬ a = 0) : orI a b = a := if_neg h
/-- How far a look at two numbers has come. -/
def OrAt (a b k : Int) : Prop := k = 0 ∨ k = 1 ∧ a = 0 ∨ k = 2 ∧ a = 0 ∧ b = 0
/-- How two tags compare. -/
def cmpT (t p t' p' : Int) : Int := orI (cmpI t t') (cmpI p p')
theorem cmpT_less (t p t' p' : Int) : decide (cmpT t p t' p' < 0) = lessB t p t' p' := by
  unfold cmpT orI cmpI lessB
  rw [Bool.eq_iff_iff]
  simp only [decide_eq_true_eq]
  repeat' split
  all_goals omega

set_option maxHeartbeats 400000 in
theorem implTagOk_any (t p : Int) (w : World) :
    Calls Tryd.prog 43 #[.agg #[.int .i64 t, .int .i64 p]] w fun e w' => e = .returned (.bool (okB t p)) ∧ Below w.heap.size w w' := by
  go_enter Tryd.func43, Tryd.ntmps43
  go_wp2
  all_goals
    go_ret
    refine ⟨ret_bool ?_, (Below.refl _ _).alloc (Nat.le_refl _) _⟩
    symm
    unfold okB
    rw [Bool.eq_iff_iff]
    simp
    try omega

set_option maxHeartbeats 400000 in
theorem l1TagOk_any (t p : Int) (w : World) :
    Calls Tryd.prog 37 #[.agg #[.int .i64 t, .int .i64 p]] w fun e w' => e = .returned (.bool (okB t p)) ∧ Below w.heap.size w w' := by
  go_enter Tryd.func37, Tryd.ntmps37
  go_wp2
  all_goals
    go_ret
    refine ⟨ret_bool ?_, (Below.refl _ _).alloc (Nat.le_refl _) _⟩
    symm
    unfold okB
    rw [Bool.eq_iff_iff]
    simp
    try omega

/-- The later one of two tags: its time, its place. -/
def mxT (t p t' p' : Int) : Int := if lessB t p t' p' = true then t' else t
def mxP (t p t' p' : Int) : Int := if lessB t p t' p' = true then p' else p

/-- Whether two tags are the same. -/
def eqB (t p t' p' : Int) : Bool := decide (t = t' ∧ p = p')
theorem eqB_same (t p : Int) : eqB t p t p = true := decide_eq_true ⟨rfl, rfl⟩

set_option maxHeartbeats 400000 in
theorem eqTag_any (t p t' p' : Int) (w : World) :
    Calls Tryd.prog 24 #[.agg #[.int .i64 t, .int .i64 p], .agg #[.int .i64 t', .int .i64 p']] w fun e w' => e = .returned (.bool (eqB t p t' p')) ∧ Below w.heap.size w w' := by
  by_cases h : t = t'
  · subst h
    by_cases h' : p = p'
    · subst h'
      go_enter Tryd.func24, Tryd.ntmps24
      go_wp2
      go_ret
      exact ⟨ret_bool (by simp [eqB]), ((Below.refl _ _).alloc (Nat.le_refl _) _).alloc (by simp) _⟩
    · have hb : (p != p') = true := by simpa using h'
      have hr : Hid (eqB t p t p' = false) := by unfold Hid eqB; simpa using h'
      clear h'
      go_enter Tryd.func24, Tryd.ntmps24
      go_wp2
      go_ret
      exact ⟨ret_bool hr.out.symm, ((Below.refl _ _).alloc (Nat.le_refl _) _).alloc (by simp) _⟩
  · have hb : (t != t') = true := by simpa using h
    have hr : Hid (eqB t p t' p' = false) := by unfold Hid eqB; simp [h]
    clear h
    go_enter Tryd.func24, Tryd.ntmps24
    go_wp2
    go_ret
    exact ⟨ret_bool hr.out.symm, ((Below.refl _ _).alloc (Nat.le_refl _) _).alloc (by simp) _⟩
end Go.Proofs.YtoechhbjfejmjaaDoor
