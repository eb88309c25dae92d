/- Rows of versions and stores that came in: each can be read. -/
import Derived.Test.YtdkpikemlpfepaaDoorLift2
import Derived.Test.YtdkpikemlpfepaaDoorStores
namespace Go.Proofs.YtdkpikemlpfepaaDoor
open Go.ChangeShapes Go.WideShapes Go.ChangeAt Go.RowKit Go.Joins

end Go.Proofs.YtdkpikemlpfepaaDoor
