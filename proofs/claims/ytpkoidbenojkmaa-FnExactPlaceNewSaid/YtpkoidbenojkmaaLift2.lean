/- Versions that came in: each can be read. -/
import Derived.Test.YtpkoidbenojkmaaLift0
namespace Go.Proofs.Ytpkoidbenojkmaa
open Go.ChangeShapes Go.WideShapes Go.ChangeAt Go.RowKit Go.Joins

end Go.Proofs.Ytpkoidbenojkmaa
