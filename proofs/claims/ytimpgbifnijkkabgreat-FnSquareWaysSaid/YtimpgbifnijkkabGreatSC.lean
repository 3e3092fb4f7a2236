/- impl.element.differenceOf and its closures, by contracts. -/
import Derived.Test.YtimpgbifnijkkabGreatSA
import Derived.Test.YtimpgbifnijkkabGreatKL
import Derived.Deep.RegionHeld3
import Derived.Laws.EntriesVeiled
namespace Go.Proofs.YtimpgbifnijkkabGreat
open Go.RowKit
end Go.Proofs.YtimpgbifnijkkabGreat
