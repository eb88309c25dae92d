/- Rows of versions and stores that came in: each can be read. -/
import Derived.Test.YtcfhnhiodpinmaaLift2
import Derived.Test.YtcfhnhiodpinmaaStores
namespace Go.Proofs.Ytcfhnhiodpinmaa
open Go.ChangeShapes Go.WideShapes Go.ChangeAt Go.RowKit Go.Joins

end Go.Proofs.Ytcfhnhiodpinmaa
