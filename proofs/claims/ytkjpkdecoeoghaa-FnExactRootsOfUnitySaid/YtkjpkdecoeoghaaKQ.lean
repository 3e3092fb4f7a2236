/- A bundle of texts: IG II. -/
import Derived.Deep.RegionHeld3
import Derived.Test.YtkjpkdecoeoghaaKN
namespace Go.Proofs.Ytkjpkdecoeoghaa
open Go.RowKit
end Go.Proofs.Ytkjpkdecoeoghaa
