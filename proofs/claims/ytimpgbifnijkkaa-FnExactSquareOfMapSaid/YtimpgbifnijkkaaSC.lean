/- impl.element.differenceOf and its closures, by contracts. -/
import Derived.Test.YtimpgbifnijkkaaSA
import Derived.Test.YtimpgbifnijkkaaKL
import Derived.Deep.RegionHeld3
import Derived.Laws.EntriesVeiled
namespace Go.Proofs.Ytimpgbifnijkkaa
open Go.RowKit
end Go.Proofs.Ytimpgbifnijkkaa
