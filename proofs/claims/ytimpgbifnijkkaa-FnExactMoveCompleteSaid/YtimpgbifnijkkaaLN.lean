/- spec.peOf by a contract; the polynomials of a swap and of a cycle, of the model. -/
import Derived.Test.YtimpgbifnijkkaaLJ
import Derived.Test.YtimpgbifnijkkaaLI
namespace Go.Proofs.Ytimpgbifnijkkaa
open Go.RowKit
end Go.Proofs.Ytimpgbifnijkkaa
