/- A bundle of texts: IG II. -/
import Derived.Deep.RegionHeld3
import Derived.Test.YtnmdcmbcackchabKN
namespace Go.Proofs.Ytnmdcmbcackchab
open Go.RowKit
end Go.Proofs.Ytnmdcmbcackchab
