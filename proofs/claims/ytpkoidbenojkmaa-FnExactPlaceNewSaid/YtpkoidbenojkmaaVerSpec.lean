/- Contract of the model's functions that say whether a version is valid. Condition: at most 1048576 tags. -/
import Derived.Test.YtpkoidbenojkmaaVerOk0
namespace Go.Proofs.Ytpkoidbenojkmaa
open Go.RowKit Go.Joins

theorem pastB_four {ts : List (Int × Int)} (h : pastB ts = true) : ts.length = 4 := by
  obtain ⟨x0, x1, x2, x3, rfl⟩ := four_of h
  rfl

end Go.Proofs.Ytpkoidbenojkmaa
