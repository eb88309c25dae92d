/- From what a row lists of the library's variables to what the contracts ask. Condition: the list as the row has it. -/
import Derived.Test.YtoechhbjfejmjaaDoorItoaText
import Derived.Test.YtoechhbjfejmjaaDoorRows
namespace Go.Proofs.YtoechhbjfejmjaaDoor
open Go.RowKit Go.Joins

theorem powTab_of {rest : List (String × DataW Unit)} {w : World} (h : laidMet Tryd.prog (("internal/strconv.uint64pow10", Rows.laid_internal_strconv_uint64pow10) :: rest) w) : PowTab w :=
  Lib.tabIs_of_head (g := 1) (t := 129) (by kernel_rfl) (by kernel_rfl) Tryd.underlying129 Tryd.underlying112 (by kernel_rfl) (by kernel_rfl) (show laidMet Tryd.prog (("internal/strconv.uint64pow10", Lib.tabData .u64 Lib.pow10Tab) :: rest) w from h)
end Go.Proofs.YtoechhbjfejmjaaDoor
