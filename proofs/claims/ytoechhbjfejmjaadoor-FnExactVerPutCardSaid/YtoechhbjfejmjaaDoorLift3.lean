/- Rows of versions and stores that came in: each can be read. -/
import Derived.Test.YtoechhbjfejmjaaDoorLift2
import Derived.Test.YtoechhbjfejmjaaDoorStores
namespace Go.Proofs.YtoechhbjfejmjaaDoor
open Go.ChangeShapes Go.WideShapes Go.ChangeAt Go.RowKit Go.Joins

end Go.Proofs.YtoechhbjfejmjaaDoor
