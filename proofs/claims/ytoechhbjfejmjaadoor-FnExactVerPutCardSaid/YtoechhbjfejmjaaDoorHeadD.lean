/- In a seat with laid variables: a law's closed facts are reckoned as they stand. No condition. -/
import Derived.Test.YtoechhbjfejmjaaDoorRows
import Derived.Test.YtoechhbjfejmjaaDoorProg
import Derived.JoinedOf
namespace Go.Proofs.YtoechhbjfejmjaaDoor
theorem joined_of {f : FuncId} {fn : Func} {s : ChangeSpec} {c : OpenClaim} (h : joinedFacts Tryd.prog f fn s c = true) : joinedFacts Tryd.prog f fn s c = true := h
set_option maxRecDepth 100000 in
theorem all_laid : laidOutB Tryd.prog = true := by kernel_rfl
end Go.Proofs.YtoechhbjfejmjaaDoor
