/- Contract of the program's function that says whether a version is valid. Condition: at most 1048576 tags. -/
import Derived.Test.YtpkoidbenojkmaaVerOk0
namespace Go.Proofs.Ytpkoidbenojkmaa
open Go.RowKit Go.Joins

theorem textB_empty {s : ByteArray} (h : s.toList.isEmpty = true) : textB s = true := by
  have h0 : s.size = 0 := by
    have := (toList_nil_iff_emptyBytes s).1 (List.isEmpty_iff.1 h)
    rw [this]
    rfl
  exact textB_ok (by omega) (fun i hi => absurd hi (by omega))
theorem okB_zero {t u : Int} (h : okB t u = true) : 0 ≤ t := by
  have := of_decide_eq_true h
  omega
theorem verB_late {k t u : Int} {ts : List (Int × Int)} {s : ByteArray} {g : Bool} (ho : okB t u = true) (h : ¬ lastT ts < t) : verB k t u ts s g = false := by
  apply verB_f
  by_cases h0 : t = 0
  · exact .inr (.inr (.inr (.inl h0)))
  · refine .inr (.inr (.inr (.inr (.inr (.inr ?_)))))
    apply Classical.byContradiction
    intro hn
    have hall : ∀ x ∈ ts, x.1 < t := fun x hx => Classical.byContradiction fun hc => hn ⟨x, hx, hc⟩
    exact h (lastT_lt.2 ⟨by have := okB_zero ho; omega, hall⟩)

end Go.Proofs.Ytpkoidbenojkmaa
