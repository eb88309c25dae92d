/- Whether a version is valid, said plainly; contracts of the program's fold over times. Condition: at most 1048576 tags. -/
import Derived.Test.YtoechhbjfejmjaaDoorVerText
import Derived.Test.YtoechhbjfejmjaaDoorFold
namespace Go.Proofs.YtoechhbjfejmjaaDoor
open Go.RowKit Go.Joins

/-- Whether this is a valid version. -/
def verB (k t u : Int) (ts : List (Int × Int)) (s : ByteArray) (g : Bool) : Bool :=
  decide (0 ≤ k ∧ k ≤ 3) && textB s && okB t u && decide (t ≠ 0) && !(g && !s.toList.isEmpty) && pastB ts && ts.all fun x => decide (x.1 < t)

theorem verB_f {k t u : Int} {ts : List (Int × Int)} {s : ByteArray} {g : Bool} (h : ¬ (0 ≤ k ∧ k ≤ 3) ∨ textB s = false ∨ okB t u = false ∨ t = 0 ∨ (g = true ∧ s.toList.isEmpty = false) ∨ pastB ts = false ∨ ∃ x ∈ ts, ¬ x.1 < t) : verB k t u ts s g = false := by
  unfold verB
  rcases h with h | h | h | h | ⟨h, h'⟩ | h | ⟨x, hx, h⟩
  · rw [decide_eq_false h]; rfl
  · rw [h]; simp
  · rw [h]; simp
  · rw [h]; simp
  · rw [h, h']; simp
  · rw [h]; simp
  · have : (ts.all fun x => decide (x.1 < t)) = false := by
      rw [List.all_eq_false]
      exact ⟨x, hx, by simpa using h⟩
    rw [this]; simp
theorem verB_t {k t u : Int} {ts : List (Int × Int)} {s : ByteArray} {g : Bool} (h1 : 0 ≤ k ∧ k ≤ 3) (h2 : textB s = true) (h3 : okB t u = true) (h4 : ¬ t = 0) (h5 : g = true → s.toList.isEmpty = true) (h6 : pastB ts = true) (h7 : ∀ x ∈ ts, x.1 < t) : verB k t u ts s g = true := by
  unfold verB
  have e7 : (ts.all fun x => decide (x.1 < t)) = true := by
    rw [List.all_eq_true]
    intro x hx
    simpa using h7 x hx
  have e5 : (g && !s.toList.isEmpty) = false := by
    cases g
    · rfl
    · rw [h5 rfl]; rfl
  rw [decide_eq_true h1, h2, h3, h6, e7, e5]
  simp [h4]
end Go.Proofs.YtoechhbjfejmjaaDoor
