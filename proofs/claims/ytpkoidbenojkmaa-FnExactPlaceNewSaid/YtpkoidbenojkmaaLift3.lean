/- Rows of versions and stores that came in: each can be read. -/
import Derived.Test.YtpkoidbenojkmaaLift2
import Derived.Test.YtpkoidbenojkmaaStores
namespace Go.Proofs.Ytpkoidbenojkmaa
open Go.ChangeShapes Go.WideShapes Go.ChangeAt Go.RowKit Go.Joins

end Go.Proofs.Ytpkoidbenojkmaa
