/- GreatestDegree, of both, by contracts; the walk of its law. -/
import Derived.Test.YtnmdcmbcackchabKI
namespace Go.Proofs.Ytnmdcmbcackchab
open Go.RowKit
end Go.Proofs.Ytnmdcmbcackchab
