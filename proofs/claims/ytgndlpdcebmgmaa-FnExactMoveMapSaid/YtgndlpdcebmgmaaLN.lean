/- spec.peOf by a contract; the polynomials of a swap and of a cycle, of the model. -/
import Derived.Test.YtgndlpdcebmgmaaLJ
import Derived.Test.YtgndlpdcebmgmaaLI
namespace Go.Proofs.Ytgndlpdcebmgmaa
open Go.RowKit
end Go.Proofs.Ytgndlpdcebmgmaa
