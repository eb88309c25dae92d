/- Versions that came in: each can be read. -/
import Derived.Test.YtdkpikemlpfepaaDoorLift0
namespace Go.Proofs.YtdkpikemlpfepaaDoor
open Go.ChangeShapes Go.WideShapes Go.ChangeAt Go.RowKit Go.Joins

end Go.Proofs.YtdkpikemlpfepaaDoor
