/- The draws of the law of sums by formulas, by contracts: some numbers. -/
import Derived.Test.YtljijnanmpajaaaGreatZA
import Derived.Test.YtljijnanmpajaaaGreatTB
namespace Go.Proofs.YtljijnanmpajaaaGreat
open Go.RowKit
end Go.Proofs.YtljijnanmpajaaaGreat
