/- Contracts of the program's fold over times. Condition: at most 1048576 tags. -/
import Derived.Test.YtpkoidbenojkmaaPasts
namespace Go.Proofs.Ytpkoidbenojkmaa
open Go.RowKit Go.Joins

/-- The latest time of these tags, or 0. -/
def lastT (ts : List (Int × Int)) : Int := ts.foldl (fun m x => max m x.1) 0
theorem lastT_step {ts : List (Int × Int)} {k : Nat} {x : Int × Int} (hx : ts[k]? = some x) : lastT (ts.take (k + 1)) = max (lastT (ts.take k)) x.1 := by
  unfold lastT
  rw [List.take_add_one, hx, List.foldl_append]
  rfl
theorem foldl_max (t : Int) : ∀ (ts : List (Int × Int)) (m : Int), ts.foldl (fun m x => max m x.1) m < t ↔ m < t ∧ ∀ x ∈ ts, x.1 < t
  | [], m => by simp
  | y :: ts, m => by
    rw [List.foldl_cons, foldl_max t ts]
    simp only [List.mem_cons, forall_eq_or_imp]
    constructor
    · rintro ⟨h1, h2⟩
      exact ⟨by omega, by omega, h2⟩
    · rintro ⟨h1, h2, h3⟩
      exact ⟨by omega, h3⟩
theorem lastT_lt {t : Int} {ts : List (Int × Int)} : lastT ts < t ↔ 0 < t ∧ ∀ x ∈ ts, x.1 < t := foldl_max t ts 0

end Go.Proofs.Ytpkoidbenojkmaa
